/- Helper contracts over the functions with which the laws copy and measure one request. No conditions beyond the types. Helper contracts: whether a slice of strings holds a string; whether two slices of strings are equal: of the model, and of Go's library at this type. Asked: the slices read as the lists named. Helper contracts: Allows, AllowsInline, KindName of the program and of the model. Asked: the policy's slices read as named. Helper contracts: IsRequest and CheckRequest of the program and of the model answer alike. Asked: strings are shorter than 2^63 bytes; the policy's slices read as named. Helper contracts over the functions with which the laws copy, measure and compare one response. No conditions beyond the types. Slices of strings of the call's own, wherever they begin in their block. Helper facts, no claim of its own. Helper contracts over the functions with which the laws copy, compare, measure and mark slices, by program (deep.py). Asked: what lies in memory is as named. -/
import Derived.Test.YtkjjiinccljhjaaGreatDoorMc6
import Derived.Test.YtkjjiinccljhjaaGreatDoorMc5
import Derived.Test.YtkjjiinccljhjaaGreatDoorMc1
import Derived.Test.YtkjjiinccljhjaaGreatDoorMc2
import Derived.Test.YtkjjiinccljhjaaGreatDoorMc4
import Derived.Test.YtkjjiinccljhjaaGreatDoorMc3
import Derived.Shelf.SlSortCmp.QuietGrown
namespace Go.Proofs.YtkjjiinccljhjaaGreatDoor

open Go.ChangeShapes Go.WideShapes Go.ChangeAt Go.RowKit

theorem grw_setCell {a b : World} (h : Grw a b) {c o : Nat} (hp : a.heap.size ≤ c) (u : Value) : Grw a (b.setCell ⟨c, o, none⟩ u) := by
  obtain ⟨q, os, rfl⟩ := h
  refine ⟨q, os.modify (c - a.heap.size) fun | .cells c' elem frozen => .cells (if (none : Option Bool).isSome then c' else c'.setIfInBounds o u) elem frozen | x => x, ?_⟩
  unfold World.setCell Sort.grow
  congr 1
  apply Array.ext
  · simp
  · intro i h1 h2
    have hs : (a.drewN q).heap.size = a.heap.size := rfl
    rw [Array.getElem_modify]
    change (if c = i then _ else _) = _
    by_cases hi : i < a.heap.size
    · rw [if_neg (by omega), Array.getElem_append_left (by rw [hs]; exact hi), Array.getElem_append_left (by rw [hs]; exact hi)]
    · rw [Array.getElem_append_right (by rw [hs]; omega), Array.getElem_append_right (by rw [hs]; omega), Array.getElem_modify]
      by_cases hc : c = i
      · rw [if_pos hc, if_pos (by rw [hs]; omega)]; rfl
      · rw [if_neg hc, if_neg (by rw [hs]; omega)]

set_option maxRecDepth 100000 in
set_option maxHeartbeats 2000000 in
theorem toA_lit (h p : ByteArray) (w : World) :
    Calls Tryz.prog 91 #[.agg #[.string h, .string p]] w fun e w' => e = .returned (.agg #[.string h, .string p]) ∧ w' = ((w.alloc (.cells #[.string h, .string p] 49)).alloc (.cells #[.string h, .string p] 28)).alloc (.cells #[.string h, .string p] 28) := by
  go_enter Tryz.func91, Tryz.ntmps91
  go_wp2_with fail
  refine bodyPost_ret (v := .agg #[.string h, .string p]) (by simp [results, Tryz.results91, go_sem]) rfl ⟨rfl, ?_⟩
  rfl

set_option maxRecDepth 100000 in
set_option maxHeartbeats 2000000 in
theorem toQ_any (kd : Int) (h p f g : ByteArray) (w : World) :
    Calls Tryz.prog 30 #[.agg #[.int .i64 kd, .string h, .string p, .string f, .string g]] w fun e w' => e = .returned (.agg #[.int .i64 kd, .string h, .string p, .string f, .string g]) ∧ Grw w w' := by
  go_enter Tryz.func30, Tryz.ntmps30
  go_wp2_with fail
  refine (toA_lit h p _).mono ?_
  rintro e w1 ⟨rfl, rfl⟩
  go_wp2_with fail
  refine bodyPost_ret (v := .agg #[.int .i64 kd, .string h, .string p, .string f, .string g]) (by simp [results, Tryz.results30, go_sem]) rfl ⟨rfl, ?_⟩
  repeat' (first | (with_reducible exact Grw.refl _) | (with_reducible refine Grw.alloc ?_ _) | (refine grw_setCell ?_ (by omega) _))

def SzQ (h p f g : ByteArray) (left : Int) (w : World) (e : Ending) (w' : World) : Prop :=
  ∃ r : Int, e = .returned (.int .i64 r) ∧ -1 ≤ r ∧ (0 ≤ r → r + h.size + p.size + f.size + g.size = left) ∧ Below w.heap.size w w'
set_option maxRecDepth 100000 in
set_option maxHeartbeats 2000000 in
theorem szQ_any (kd : Int) (h p f g : ByteArray) (left : Int) (ok : RqOk h p f g) (l1 : -1 ≤ left) (l2 : left ≤ 1099511627776) (w : World) :
    Calls Tryz.prog 27 #[.agg #[.int .i64 kd, .string h, .string p, .string f, .string g], .int .i64 left] w (SzQ h p f g left w) := by
  obtain ⟨z1, z2, z3, z4⟩ := ok
  obtain ⟨W0, hW⟩ : ∃ W, (w.alloc (.cells #[.int .i64 kd, .string h, .string p, .string f, .string g] 51)) = W := ⟨_, rfl⟩
  have HB := Lib.hid (show Below w.heap.size w W0 by rw [← hW]; exact ((Below.refl w.heap.size w).alloc (by first | (simp; done) | (simp; omega)) _))
  have q_q0 : W0.cell? ⟨w.heap.size, 0, none⟩ = some (.int .i64 kd) := by rw [← hW]; simp
  have q_q1 : W0.cell? ⟨w.heap.size, 1, none⟩ = some (.string h) := by rw [← hW]; simp
  have q_q2 : W0.cell? ⟨w.heap.size, 2, none⟩ = some (.string p) := by rw [← hW]; simp
  have q_q3 : W0.cell? ⟨w.heap.size, 3, none⟩ = some (.string f) := by rw [← hW]; simp
  have q_q4 : W0.cell? ⟨w.heap.size, 4, none⟩ = some (.string g) := by rw [← hW]; simp
  have HW := Lib.hid hW; clear hW
  have HA := Lib.hid (fun X => szA_any h p left z1 z2 l1 l2 X)
  clear z1 z2
  go_enter Tryz.func27, Tryz.ntmps27
  go_wp2_with fail
  rw [HW.out]
  refine (HA.out _).mono ?_
  rintro e w1 ⟨r, rfl, lo, hi, hb⟩
  replace q_q0 := (hb.cell (show (⟨w.heap.size, 0, none⟩ : Addr).block < _ from World.block_lt_of_cell? _ _ q_q0)).trans q_q0
  replace q_q1 := (hb.cell (show (⟨w.heap.size, 1, none⟩ : Addr).block < _ from World.block_lt_of_cell? _ _ q_q1)).trans q_q1
  replace q_q2 := (hb.cell (show (⟨w.heap.size, 2, none⟩ : Addr).block < _ from World.block_lt_of_cell? _ _ q_q2)).trans q_q2
  replace q_q3 := (hb.cell (show (⟨w.heap.size, 3, none⟩ : Addr).block < _ from World.block_lt_of_cell? _ _ q_q3)).trans q_q3
  replace q_q4 := (hb.cell (show (⟨w.heap.size, 4, none⟩ : Addr).block < _ from World.block_lt_of_cell? _ _ q_q4)).trans q_q4
  replace HB := Lib.hid (HB.out.trans (hb.mono HB.out.size)); clear hb HA
  by_cases c0 : r < 0
  · go_wp2_with fail
    go_ret
    exact ⟨-1, rfl, by omega, by omega, HB.out⟩
  replace hi := hi (by omega)
  have hr : r ≤ left := by omega
  by_cases c1 : r - f.size < 0
  · go_wp2_with fail
    go_ret
    exact ⟨-1, rfl, by omega, by omega, HB.out⟩
  by_cases c2 : r - f.size - g.size < 0
  · go_wp2_with fail
    go_ret
    exact ⟨-1, rfl, by omega, by omega, HB.out⟩
  go_wp2_with fail
  go_ret
  exact ⟨r - f.size - g.size, rfl, by omega, by omega, HB.out⟩

end Go.Proofs.YtkjjiinccljhjaaGreatDoor
namespace Go.Proofs.YtkjjiinccljhjaaGreatDoor
open Go.ChangeShapes Go.WideShapes Go.ChangeAt Go.RowKit

def notInS (xs : List ByteArray) (a : ByteArray) (k : Nat) : Prop := ∀ j : Nat, j < k → xs[j]? ≠ some a
theorem notInS.zero (xs : List ByteArray) (a : ByteArray) : notInS xs a 0 := fun _ h => absurd h (Nat.not_lt_zero _)
theorem notInS.succ {xs : List ByteArray} {a x : ByteArray} {k : Nat} (h : notInS xs a k) (hx : xs[k]? = some x) (hne : x ≠ a) : notInS xs a (k + 1) := by
  intro j hj
  by_cases e : j = k
  · subst e; rw [hx]; simpa using hne
  · exact h j (by omega)
theorem hasS_yes {xs : List ByteArray} {a : ByteArray} {k : Nat} (h : xs[k]? = some a) : hasS xs a = true := hasS_iff.2 (List.mem_of_getElem? h)
theorem hasS_no {xs : List ByteArray} {a : ByteArray} {k : Nat} (h : notInS xs a k) (hk : k = xs.length) : hasS xs a = false := by
  refine Bool.eq_false_iff.2 fun hm => ?_
  obtain ⟨j, hj⟩ := List.mem_iff_getElem?.1 (hasS_iff.1 hm)
  exact h j (by have := (List.getElem?_eq_some_iff.1 hj).1; omega) hj
/-- A string in a slice of strings. -/
theorem str_cell {hi n cap k : Nat} {w : World} {a : Option Addr} {xs : List ByteArray} {s : ByteArray} (h : ReadsK encS 1 hi w (.slice a n cap) xs) (hk : xs[k]? = some s) : ∃ g off, a = some ⟨g, off, none⟩ ∧ g < hi ∧ w.cell? ⟨g, off + k, none⟩ = some (.string s) := by
  obtain ⟨a', c', e, _, _, _, hc⟩ := h
  injection e with e1 e2 e3; subst e1
  rcases hc with h0 | ⟨g, off, rfl, hg, hc⟩
  · have := (List.getElem?_eq_some_iff.1 hk).1; omega
  · refine ⟨g, off, rfl, hg, ?_⟩
    have := hc k s hk 0 (by omega)
    rwa [Nat.mul_one] at this
theorem ssAt {xs : List ByteArray} {j : Nat} (h : j < xs.length) : ∃ x, xs[j]? = some x := ⟨_, List.getElem?_eq_getElem h⟩

set_option maxHeartbeats 1000000 in
theorem has9_spec (v : Value) (hi : Nat) (xs : List ByteArray) (s : ByteArray) (w : World) (hr : ReadsK encS 1 hi w v xs) :
    Calls Tryz.prog 180 #[v, .string s] w fun e w' => e = .returned (.bool (hasS xs s)) ∧ w = w' := by
  obtain ⟨a, cap, rfl, hc1, hc2, _⟩ := id hr
  obtain ⟨n, hn⟩ : ∃ n, xs.length = n := ⟨_, rfl⟩
  rw [hn] at hr hc1 ⊢
  have HN := Lib.hid hn; have HR := Lib.hid hr; clear hn hr
  go_enter Tryz.func180, Tryz.ntmps180
  go_wp2
  go_loop [5] (fun i => ∃ (k : Nat), k ≤ n ∧ i = .int .i64 k ∧ notInS xs s k) (fun i => n - (intOf i).toNat)
  case atStart => exact ⟨0, Nat.zero_le _, rfl, notInS.zero _ _⟩
  case round =>
    obtain ⟨k, hk, rfl, hnot⟩ := hrel
    have HNI := Lib.hid hnot; clear hnot
    by_cases hlt : (k : Int) < (n : Int)
    · obtain ⟨x, hx⟩ := ssAt (xs := xs) (j := k) (by have := HN.out; omega)
      obtain ⟨g, off, rfl, _, c0⟩ := str_cell HR.out hx
      have HX := Lib.hid hx; clear hx
      by_cases e1 : x = s
      · have e2 : (x.toList == s.toList) = true := beqL_yes e1
        have HV := Lib.hid (show hasS xs s = true from hasS_yes (by rw [HX.out, e1]))
        clear e1
        go_wp2
        go_ret
        exact ⟨by rw [HV.out]; rfl, rfl⟩
      · have e2 : (x.toList == s.toList) = false := beqL_no e1
        have HS := Lib.hid (HNI.out.succ HX.out e1)
        clear e1
        go_wp2
        go_round
        case rel => exact ⟨k + 1, by omega, by go_num, HS.out⟩
        case measure => simp [intOf]; omega
    · have hlf : decide ((k : Int) < (n : Int)) = false := decide_eq_false hlt
      have HV := Lib.hid (hasS_no HNI.out (by have := HN.out; omega))
      go_wp2
      go_ret
      exact ⟨by rw [HV.out]; rfl, rfl⟩

set_option maxHeartbeats 1000000 in
theorem idxS_lib (v : Value) (hi : Nat) (xs : List ByteArray) (s : ByteArray) (w : World) (hr : ReadsK encS 1 hi w v xs) :
    Calls Tryz.prog 144 #[v, .string s] w fun e w' => (∃ r : Int, e = .returned (.int .i64 r) ∧ decide (0 ≤ r) = hasS xs s) ∧ w = w' := by
  obtain ⟨a, cap, rfl, hc1, hc2, _⟩ := id hr
  obtain ⟨n, hn⟩ : ∃ n, xs.length = n := ⟨_, rfl⟩
  rw [hn] at hr hc1 ⊢
  have HN := Lib.hid hn; have HR := Lib.hid hr; clear hn hr
  go_enter Tryz.func144, Tryz.ntmps144
  go_wp2
  go_loop [8] (fun i => ∃ (k : Nat), k ≤ n ∧ i = .int .i64 k ∧ notInS xs s k) (fun i => n - (intOf i).toNat)
  case atStart => exact ⟨0, Nat.zero_le _, rfl, notInS.zero _ _⟩
  case round =>
    obtain ⟨k, hk, rfl, hnot⟩ := hrel
    have HNI := Lib.hid hnot; clear hnot
    by_cases hlt : (k : Int) < (n : Int)
    · obtain ⟨x, hx⟩ := ssAt (xs := xs) (j := k) (by have := HN.out; omega)
      obtain ⟨g, off, rfl, _, c0⟩ := str_cell HR.out hx
      have HX := Lib.hid hx; clear hx
      by_cases e1 : x = s
      · have e2 : (x.toList == s.toList) = true := beqL_yes e1
        have e3 : (s.toList == x.toList) = true := beqL_yes e1.symm
        have HV := Lib.hid (show hasS xs s = true from hasS_yes (by rw [HX.out, e1]))
        clear e1
        go_wp2
        go_ret
        exact ⟨⟨_, rfl, by rw [HV.out]; exact decide_eq_true (by omega)⟩, rfl⟩
      · have e2 : (x.toList == s.toList) = false := beqL_no e1
        have e3 : (s.toList == x.toList) = false := beqL_no (Ne.symm e1)
        have HS := Lib.hid (HNI.out.succ HX.out e1)
        clear e1
        go_wp2
        go_round
        case rel => exact ⟨k + 1, by omega, by go_num, HS.out⟩
        case measure => simp [intOf]; omega
    · have hlf : decide ((k : Int) < (n : Int)) = false := decide_eq_false hlt
      have HV := Lib.hid (hasS_no HNI.out (by have := HN.out; omega))
      go_wp2
      go_ret
      exact ⟨⟨-1, rfl, by rw [HV.out]; rfl⟩, rfl⟩

theorem contS_lib (v : Value) (hi : Nat) (xs : List ByteArray) (s : ByteArray) (w : World) (hr : ReadsK encS 1 hi w v xs) :
    Calls Tryz.prog 81 #[v, .string s] w fun e w' => e = .returned (.bool (hasS xs s)) ∧ w = w' := by
  obtain ⟨a, cap, rfl, _⟩ := id hr
  have HI := Lib.hid (idxS_lib _ hi xs s w hr); clear hr
  go_enter Tryz.func81, Tryz.ntmps81
  go_wp2_with fail
  refine HI.out.mono ?_
  rintro e w' ⟨⟨r, rfl, hd⟩, rfl⟩
  have HD := Lib.hid hd; clear hd
  go_wp2_with fail
  go_ret
  exact ⟨by rw [← HD.out]; rfl, rfl⟩

def sameTo (xs ys : List ByteArray) (k : Nat) : Prop := ∀ j : Nat, j < k → xs[j]? = ys[j]?
theorem sameTo.zero (xs ys : List ByteArray) : sameTo xs ys 0 := fun _ h => absurd h (Nat.not_lt_zero _)
theorem sameTo.succ {xs ys : List ByteArray} {x : ByteArray} {k : Nat} (h : sameTo xs ys k) (hx : xs[k]? = some x) (hy : ys[k]? = some x) : sameTo xs ys (k + 1) := by
  intro j hj
  by_cases e : j = k
  · subst e; rw [hx, hy]
  · exact h j (by omega)
theorem same_all {xs ys : List ByteArray} {k : Nat} (h : sameTo xs ys k) (hx : xs.length = k) (hy : ys.length = k) : decide (xs = ys) = true := by
  refine decide_eq_true (List.ext_getElem? fun j => ?_)
  by_cases hj : j < k
  · exact h j hj
  · rw [List.getElem?_eq_none (by omega), List.getElem?_eq_none (by omega)]
theorem same_not {xs ys : List ByteArray} {x y : ByteArray} {k : Nat} (hx : xs[k]? = some x) (hy : ys[k]? = some y) (h : x ≠ y) : decide (xs = ys) = false := by
  refine decide_eq_false fun e => h ?_
  rw [e, hy] at hx
  exact (Option.some.inj hx).symm
theorem same_len {xs ys : List ByteArray} (h : xs.length ≠ ys.length) : decide (xs = ys) = false := decide_eq_false fun e => h (by rw [e])

set_option maxHeartbeats 1000000 in
theorem equalS_lib (v u : Value) (hi hi' : Nat) (xs ys : List ByteArray) (w : World) (hr : ReadsK encS 1 hi w v xs) (hr' : ReadsK encS 1 hi' w u ys) :
    Calls Tryz.prog 229 #[v, u] w fun e w' => e = .returned (.bool (decide (xs = ys))) ∧ Grw w w' := by
  obtain ⟨a, cap, rfl, hc1, hc2, _⟩ := id hr
  obtain ⟨a', cap', rfl, hc1', hc2', _⟩ := id hr'
  by_cases hl : xs.length = ys.length
  · obtain ⟨n, hn⟩ : ∃ n, ys.length = n := ⟨_, rfl⟩
    have hx := hl.trans hn
    rw [hx] at hr hc1; rw [hx, hn]; rw [hn] at hr' hc1'
    have HX := Lib.hid hx; have HY := Lib.hid hn; have HR := Lib.hid hr; have HR' := Lib.hid hr'; clear hx hn hr hr' hl
    have hnn : ((n : Int) == (n : Int)) = true := beq_self_eq_true _
    have hnb : ((n : Int) != (n : Int)) = false := by rw [bne, hnn]; rfl
    go_enter Tryz.func229, Tryz.ntmps229
    go_wp2
    go_loopw [13] (fun i wr => ∃ (k : Nat), k ≤ n ∧ i = .int .i64 k ∧ sameTo xs ys k ∧ Grw w wr) (fun i _ => n - (intOf i).toNat)
    case atStart => exact ⟨0, Nat.zero_le _, rfl, sameTo.zero _ _, Grw.refl _⟩
    case round =>
      obtain ⟨k, hk, rfl, hs, hg⟩ := hrel
      have HS := Lib.hid hs; have HG := Lib.hid hg; clear hs hg
      by_cases hlt : (k : Int) < (n : Int)
      · obtain ⟨x, hx⟩ := ssAt (xs := xs) (j := k) (by have := HX.out; omega)
        obtain ⟨y, hy⟩ := ssAt (xs := ys) (j := k) (by have := HY.out; omega)
        obtain ⟨g, off, rfl, hg, c0⟩ := str_cell HR.out hx
        obtain ⟨g', off', rfl, hg', c1⟩ := str_cell HR'.out hy
        replace c0 := (HG.out.below.cell (show (⟨g, off + k, none⟩ : Addr).block < _ from World.block_lt_of_cell? _ _ c0)).trans c0
        replace c1 := (HG.out.below.cell (show (⟨g', off' + k, none⟩ : Addr).block < _ from World.block_lt_of_cell? _ _ c1)).trans c1
        clear hg hg'
        have HXA := Lib.hid hx; have HYA := Lib.hid hy; clear hx hy
        by_cases e1 : x = y
        · have e2 : (x.toList == y.toList) = true := beqL_yes e1
          have e3 : (x.toList != y.toList) = false := by rw [bne, e2]; rfl
          have HN := Lib.hid (HS.out.succ HXA.out (by rw [HYA.out, e1]))
          clear e1
          go_wp2
          go_quiet (fail)
          go_wp2
          go_roundw
          case rel => exact ⟨k + 1, by omega, by go_num, HN.out, HG.out.drewN _⟩
          case measure => simp [intOf]; omega
        · have e2 : (x.toList == y.toList) = false := beqL_no e1
          have e3 : (x.toList != y.toList) = true := by rw [bne, e2]; rfl
          have HV := Lib.hid (same_not HXA.out HYA.out e1)
          clear e1
          go_wp2
          go_quiet (fail)
          go_wp2
          go_ret
          exact ⟨by rw [HV.out]; rfl, HG.out.drewN _⟩
      · have hlf : decide ((k : Int) < (n : Int)) = false := decide_eq_false hlt
        have HV := Lib.hid (same_all (k := n) (by rw [show n = k by omega]; exact HS.out) HX.out HY.out)
        go_wp2
        go_ret
        exact ⟨by rw [HV.out]; rfl, HG.out⟩
  · have HV := Lib.hid (same_len hl)
    obtain ⟨n, hn⟩ : ∃ n, xs.length = n := ⟨_, rfl⟩
    obtain ⟨n', hn'⟩ : ∃ n, ys.length = n := ⟨_, rfl⟩
    rw [hn] at hc1 hl; rw [hn, hn']; rw [hn'] at hc1' hl
    have hnn : ((n : Int) == (n' : Int)) = false := beq_eq_false_iff_ne.2 (by omega)
    have hnb : ((n : Int) != (n' : Int)) = true := by rw [bne, hnn]; rfl
    clear hr hr' hn hn' hl
    go_enter Tryz.func229, Tryz.ntmps229
    go_wp2
    go_ret
    exact ⟨by rw [HV.out]; rfl, Grw.refl _⟩

end Go.Proofs.YtkjjiinccljhjaaGreatDoor
namespace Go.Proofs.YtkjjiinccljhjaaGreatDoor
open Go.ChangeShapes Go.WideShapes Go.ChangeAt Go.RowKit

theorem empP_size (s : ByteArray) : (s.toList == []) = decide (s.size = 0) := by
  by_cases h : s.size = 0
  · obtain rfl := emptyB h; rw [ByteArray.toList_eq]; rfl
  · rw [decide_eq_false h]
    refine beq_eq_false_iff_ne.2 fun e => h ?_
    rw [ByteArray.toList_eq] at e
    rw [← size_list, e]; rfl

/-- KindName. -/
def knB (k : Int) : ByteArray := if k = 1 then ⟨#[112, 97, 103, 101]⟩ else if k = 2 then ⟨#[115, 99, 114, 105, 112, 116]⟩ else if k = 3 then ⟨#[115, 116, 121, 108, 101]⟩ else if k = 4 then ⟨#[105, 109, 97, 103, 101]⟩ else if k = 5 then ⟨#[109, 111, 100, 117, 108, 101]⟩ else ⟨#[]⟩
set_option maxRecDepth 100000 in
set_option maxHeartbeats 2000000 in
theorem hostsFor_any (set : Bool) (scr sty img : List ByteArray) (non : ByteArray) (a1 : Option Addr) (n1 c1 : Nat) (a2 : Option Addr) (n2 c2 : Nat) (a3 : Option Addr) (n3 c3 : Nat) (k : Int) (w : World) (hr : ReadP w.heap.size w (.slice a1 n1 c1) (.slice a2 n2 c2) (.slice a3 n3 c3) ⟨set, scr, sty, img, non⟩) :
    Calls Tryz.prog 82 #[.agg #[.bool set, .slice a1 n1 c1, .slice a2 n2 c2, .slice a3 n3 c3, .string non], .int .i64 k] w fun e w' => ∃ (a : Option Addr) (n c : Nat), e = .returned (.slice a n c) ∧ ReadsK encS 1 w'.heap.size w' (.slice a n c) (hostsP ⟨set, scr, sty, img, non⟩ k) ∧ Grw w w' := by
  obtain ⟨W, hW⟩ : ∃ W, w.alloc (.cells #[.bool set, .slice a1 n1 c1, .slice a2 n2 c2, .slice a3 n3 c3, .string non] 26) = W := ⟨_, rfl⟩
  have HG := Lib.hid (show Grw w W by rw [← hW]; exact (Grw.refl w).alloc _)
  have q0 : W.cell? ⟨w.heap.size, 0, none⟩ = some (.bool set) := by rw [← hW]; simp
  have q1 : W.cell? ⟨w.heap.size, 1, none⟩ = some (.slice a1 n1 c1) := by rw [← hW]; simp
  have q2 : W.cell? ⟨w.heap.size, 2, none⟩ = some (.slice a2 n2 c2) := by rw [← hW]; simp
  have q3 : W.cell? ⟨w.heap.size, 3, none⟩ = some (.slice a3 n3 c3) := by rw [← hW]; simp
  have q4 : W.cell? ⟨w.heap.size, 4, none⟩ = some (.string non) := by rw [← hW]; simp
  obtain ⟨hr1, hr2, hr3⟩ := (hr.below HG.out.below (Nat.le_refl _)).mono HG.out.below.size
  have HR1 := Lib.hid hr1; have HR2 := Lib.hid hr2; have HR3 := Lib.hid hr3; clear hr hr1 hr2 hr3
  rcases (show k = 2 ∨ k = 5 ∨ k = 3 ∨ k = 4 ∨ (k ≠ 2 ∧ k ≠ 5 ∧ k ≠ 3 ∧ k ≠ 4) by omega) with rfl | rfl | rfl | rfl | ⟨k2, k5, k3, k4⟩
  · go_enter Tryz.func82, Tryz.ntmps82
    go_wp2_with fail
    go_ret
    exact ⟨_, _, _, rfl, HR1.out, HG.out⟩
  · go_enter Tryz.func82, Tryz.ntmps82
    go_wp2_with fail
    go_ret
    exact ⟨_, _, _, rfl, HR1.out, HG.out⟩
  · go_enter Tryz.func82, Tryz.ntmps82
    go_wp2_with fail
    go_ret
    exact ⟨_, _, _, rfl, HR2.out, HG.out⟩
  · go_enter Tryz.func82, Tryz.ntmps82
    go_wp2_with fail
    go_ret
    exact ⟨_, _, _, rfl, HR3.out, HG.out⟩
  · have e2 : (k == 2) = false := beq_eq_false_iff_ne.2 k2; have e5 : (k == 5) = false := beq_eq_false_iff_ne.2 k5; have e3 : (k == 3) = false := beq_eq_false_iff_ne.2 k3; have e4 : (k == 4) = false := beq_eq_false_iff_ne.2 k4
    have HN := Lib.hid (show hostsP ⟨set, scr, sty, img, non⟩ k = [] by unfold hostsP; rw [if_neg (by omega), if_neg k3, if_neg k4])
    clear k2 k5 k3 k4
    go_enter Tryz.func82, Tryz.ntmps82
    go_wp2_with fail
    go_ret
    exact ⟨none, 0, 0, rfl, by rw [HN.out]; exact ⟨none, 0, rfl, Nat.le_refl _, by omega, (fun _ => rfl), Or.inl rfl⟩, HG.out⟩


set_option maxRecDepth 100000 in
set_option maxHeartbeats 2000000 in
theorem allows_spec (set : Bool) (scr sty img : List ByteArray) (non : ByteArray) (a1 : Option Addr) (n1 c1 : Nat) (a2 : Option Addr) (n2 c2 : Nat) (a3 : Option Addr) (n3 c3 : Nat) (k : Int) (h : ByteArray) (w : World) (hr : ReadP w.heap.size w (.slice a1 n1 c1) (.slice a2 n2 c2) (.slice a3 n3 c3) ⟨set, scr, sty, img, non⟩) :
    Calls Tryz.prog 140 #[.agg #[.bool set, .slice a1 n1 c1, .slice a2 n2 c2, .slice a3 n3 c3, .string non], .int .i64 k, .string h] w fun e w' => e = .returned (.bool (alB ⟨set, scr, sty, img, non⟩ k h)) ∧ Grw w w' := by
  cases set with
  | false =>
    obtain ⟨W, hW⟩ : ∃ W, w.alloc (.cells #[.bool false, .slice a1 n1 c1, .slice a2 n2 c2, .slice a3 n3 c3, .string non] 26) = W := ⟨_, rfl⟩
    have HG := Lib.hid (show Grw w W by rw [← hW]; exact (Grw.refl w).alloc _)
    have q0 : W.cell? ⟨w.heap.size, 0, none⟩ = some (.bool false) := by rw [← hW]; simp
    have q1 : W.cell? ⟨w.heap.size, 1, none⟩ = some (.slice a1 n1 c1) := by rw [← hW]; simp
    have q2 : W.cell? ⟨w.heap.size, 2, none⟩ = some (.slice a2 n2 c2) := by rw [← hW]; simp
    have q3 : W.cell? ⟨w.heap.size, 3, none⟩ = some (.slice a3 n3 c3) := by rw [← hW]; simp
    have q4 : W.cell? ⟨w.heap.size, 4, none⟩ = some (.string non) := by rw [← hW]; simp
    obtain ⟨hr1, hr2, hr3⟩ := (hr.below HG.out.below (Nat.le_refl _)).mono HG.out.below.size
    have HR1 := Lib.hid hr1; have HR2 := Lib.hid hr2; have HR3 := Lib.hid hr3; clear hr hr1 hr2 hr3
    go_enter Tryz.func140, Tryz.ntmps140
    go_wp2_with fail
    go_ret
    exact ⟨rfl, HG.out⟩
  | true =>
    obtain ⟨W, hW⟩ : ∃ W, w.alloc (.cells #[.bool true, .slice a1 n1 c1, .slice a2 n2 c2, .slice a3 n3 c3, .string non] 26) = W := ⟨_, rfl⟩
    have HG := Lib.hid (show Grw w W by rw [← hW]; exact (Grw.refl w).alloc _)
    have q0 : W.cell? ⟨w.heap.size, 0, none⟩ = some (.bool true) := by rw [← hW]; simp
    have q1 : W.cell? ⟨w.heap.size, 1, none⟩ = some (.slice a1 n1 c1) := by rw [← hW]; simp
    have q2 : W.cell? ⟨w.heap.size, 2, none⟩ = some (.slice a2 n2 c2) := by rw [← hW]; simp
    have q3 : W.cell? ⟨w.heap.size, 3, none⟩ = some (.slice a3 n3 c3) := by rw [← hW]; simp
    have q4 : W.cell? ⟨w.heap.size, 4, none⟩ = some (.string non) := by rw [← hW]; simp
    obtain ⟨hr1, hr2, hr3⟩ := (hr.below HG.out.below (Nat.le_refl _)).mono HG.out.below.size
    have HR1 := Lib.hid hr1; have HR2 := Lib.hid hr2; have HR3 := Lib.hid hr3; clear hr hr1 hr2 hr3
    have HAL := Lib.hid (show alB ⟨true, scr, sty, img, non⟩ k h = hasS (hostsP ⟨true, scr, sty, img, non⟩ k) h from rfl)
    rcases (show k = 2 ∨ k = 5 ∨ k = 3 ∨ k = 4 ∨ (k ≠ 2 ∧ k ≠ 5 ∧ k ≠ 3 ∧ k ≠ 4) by omega) with rfl | rfl | rfl | rfl | ⟨k2, k5, k3, k4⟩
    · have HX := Lib.hid (has9_spec _ _ _ h _ HR1.out)
      go_enter Tryz.func140, Tryz.ntmps140
      go_wp2_with fail
      refine HX.out.mono ?_
      rintro e w1 ⟨rfl, rfl⟩
      go_wp2_with fail
      go_ret
      exact ⟨by rw [HAL.out]; rfl, HG.out⟩
    · have HX := Lib.hid (has9_spec _ _ _ h _ HR1.out)
      go_enter Tryz.func140, Tryz.ntmps140
      go_wp2_with fail
      refine HX.out.mono ?_
      rintro e w1 ⟨rfl, rfl⟩
      go_wp2_with fail
      go_ret
      exact ⟨by rw [HAL.out]; rfl, HG.out⟩
    · have HX := Lib.hid (has9_spec _ _ _ h _ HR2.out)
      go_enter Tryz.func140, Tryz.ntmps140
      go_wp2_with fail
      refine HX.out.mono ?_
      rintro e w1 ⟨rfl, rfl⟩
      go_wp2_with fail
      go_ret
      exact ⟨by rw [HAL.out]; rfl, HG.out⟩
    · have HX := Lib.hid (has9_spec _ _ _ h _ HR3.out)
      go_enter Tryz.func140, Tryz.ntmps140
      go_wp2_with fail
      refine HX.out.mono ?_
      rintro e w1 ⟨rfl, rfl⟩
      go_wp2_with fail
      go_ret
      exact ⟨by rw [HAL.out]; rfl, HG.out⟩
    · have e2 : (k == 2) = false := beq_eq_false_iff_ne.2 k2; have e5 : (k == 5) = false := beq_eq_false_iff_ne.2 k5; have e3 : (k == 3) = false := beq_eq_false_iff_ne.2 k3; have e4 : (k == 4) = false := beq_eq_false_iff_ne.2 k4
      have HN := Lib.hid (show hostsP ⟨true, scr, sty, img, non⟩ k = [] by unfold hostsP; rw [if_neg (by omega), if_neg k3, if_neg k4])
      clear k2 k5 k3 k4
      go_enter Tryz.func140, Tryz.ntmps140
      go_wp2_with fail
      go_ret
      exact ⟨by rw [HAL.out, HN.out]; rfl, HG.out⟩

set_option maxRecDepth 100000 in
set_option maxHeartbeats 2000000 in
theorem allows_impl (set : Bool) (scr sty img : List ByteArray) (non : ByteArray) (a1 : Option Addr) (n1 c1 : Nat) (a2 : Option Addr) (n2 c2 : Nat) (a3 : Option Addr) (n3 c3 : Nat) (k : Int) (h : ByteArray) (w : World) (hr : ReadP w.heap.size w (.slice a1 n1 c1) (.slice a2 n2 c2) (.slice a3 n3 c3) ⟨set, scr, sty, img, non⟩) :
    Calls Tryz.prog 17 #[.agg #[.bool set, .slice a1 n1 c1, .slice a2 n2 c2, .slice a3 n3 c3, .string non], .int .i64 k, .string h] w fun e w' => e = .returned (.bool (alB ⟨set, scr, sty, img, non⟩ k h)) ∧ Grw w w' := by
  cases set with
  | false =>
    obtain ⟨W, hW⟩ : ∃ W, w.alloc (.cells #[.bool false, .slice a1 n1 c1, .slice a2 n2 c2, .slice a3 n3 c3, .string non] 26) = W := ⟨_, rfl⟩
    have HG := Lib.hid (show Grw w W by rw [← hW]; exact (Grw.refl w).alloc _)
    have q0 : W.cell? ⟨w.heap.size, 0, none⟩ = some (.bool false) := by rw [← hW]; simp
    have q1 : W.cell? ⟨w.heap.size, 1, none⟩ = some (.slice a1 n1 c1) := by rw [← hW]; simp
    have q2 : W.cell? ⟨w.heap.size, 2, none⟩ = some (.slice a2 n2 c2) := by rw [← hW]; simp
    have q3 : W.cell? ⟨w.heap.size, 3, none⟩ = some (.slice a3 n3 c3) := by rw [← hW]; simp
    have q4 : W.cell? ⟨w.heap.size, 4, none⟩ = some (.string non) := by rw [← hW]; simp
    obtain ⟨hr1, hr2, hr3⟩ := (hr.below HG.out.below (Nat.le_refl _)).mono HG.out.below.size
    have HR1 := Lib.hid hr1; have HR2 := Lib.hid hr2; have HR3 := Lib.hid hr3; clear hr hr1 hr2 hr3
    go_enter Tryz.func17, Tryz.ntmps17
    go_wp2_with fail
    go_ret
    exact ⟨rfl, HG.out⟩
  | true =>
    obtain ⟨W, hW⟩ : ∃ W, w.alloc (.cells #[.bool true, .slice a1 n1 c1, .slice a2 n2 c2, .slice a3 n3 c3, .string non] 26) = W := ⟨_, rfl⟩
    have HG := Lib.hid (show Grw w W by rw [← hW]; exact (Grw.refl w).alloc _)
    have q0 : W.cell? ⟨w.heap.size, 0, none⟩ = some (.bool true) := by rw [← hW]; simp
    have q1 : W.cell? ⟨w.heap.size, 1, none⟩ = some (.slice a1 n1 c1) := by rw [← hW]; simp
    have q2 : W.cell? ⟨w.heap.size, 2, none⟩ = some (.slice a2 n2 c2) := by rw [← hW]; simp
    have q3 : W.cell? ⟨w.heap.size, 3, none⟩ = some (.slice a3 n3 c3) := by rw [← hW]; simp
    have q4 : W.cell? ⟨w.heap.size, 4, none⟩ = some (.string non) := by rw [← hW]; simp
    obtain ⟨hr1, hr2, hr3⟩ := (hr.below HG.out.below (Nat.le_refl _)).mono HG.out.below.size
    have HR1 := Lib.hid hr1; have HR2 := Lib.hid hr2; have HR3 := Lib.hid hr3; clear hr hr1 hr2 hr3
    have HAL := Lib.hid (show alB ⟨true, scr, sty, img, non⟩ k h = hasS (hostsP ⟨true, scr, sty, img, non⟩ k) h from rfl)
    have HH := Lib.hid (fun X hx => hostsFor_any true scr sty img non a1 n1 c1 a2 n2 c2 a3 n3 c3 k X hx)
    go_enter Tryz.func17, Tryz.ntmps17
    go_wp2_with fail
    refine (HH.out _ ⟨HR1.out, HR2.out, HR3.out⟩).mono ?_
    rintro e w1 ⟨ax, nx, cx, rfl, hrx, hg1⟩
    have HG1 := Lib.hid (HG.out.trans hg1); clear hg1
    have HC := Lib.hid (contS_lib _ _ _ h _ hrx); clear hrx
    go_wp2_with fail
    refine HC.out.mono ?_
    rintro e w2 ⟨rfl, rfl⟩
    go_wp2_with fail
    go_ret
    exact ⟨by rw [HAL.out]; rfl, HG1.out⟩

end Go.Proofs.YtkjjiinccljhjaaGreatDoor
namespace Go.Proofs.YtkjjiinccljhjaaGreatDoor
open Go.ChangeShapes Go.WideShapes Go.ChangeAt Go.RowKit

/-- IsRequest. -/
def isRq (kd : Int) (h p f g : ByteArray) : Bool := inB kd 1 5 && isAd (h, p) && isNm f && (decide (g.size = 0) || isVal g)
theorem empQ_size (s : ByteArray) : (s.toList == []) = decide (s.size = 0) := by
  rw [ByteArray.toList_eq]
  by_cases h : s.size = 0
  · rw [decide_eq_true h, beq_iff_eq]; exact List.eq_nil_of_length_eq_zero (by rw [size_list]; exact h)
  · rw [decide_eq_false h]
    refine beq_eq_false_iff_ne.2 fun e => h ?_
    rw [← size_list, e]; rfl

set_option maxRecDepth 100000 in
set_option maxHeartbeats 2000000 in
theorem isRq_spec (kd : Int) (h p f g : ByteArray) (ok : RqOk h p f g) (w : World) :
    Calls Tryz.prog 87 #[.agg #[.int .i64 kd, .string h, .string p, .string f, .string g]] w fun e w' => e = .returned (.bool (isRq kd h p f g)) ∧ Below w.heap.size w w' := by
  obtain ⟨z1, z2, z3, z4⟩ := ok
  obtain ⟨W0, hW⟩ : ∃ W, (w.alloc (.cells #[.int .i64 kd, .string h, .string p, .string f, .string g] 30)) = W := ⟨_, rfl⟩
  have HB := Lib.hid (show Below w.heap.size w W0 by rw [← hW]; exact ((Below.refl w.heap.size w).alloc (by first | (simp; done) | (simp; omega)) _))
  have q_q0 : W0.cell? ⟨w.heap.size, 0, none⟩ = some (.int .i64 kd) := by rw [← hW]; simp
  have q_q1 : W0.cell? ⟨w.heap.size, 1, none⟩ = some (.string h) := by rw [← hW]; simp
  have q_q2 : W0.cell? ⟨w.heap.size, 2, none⟩ = some (.string p) := by rw [← hW]; simp
  have q_q3 : W0.cell? ⟨w.heap.size, 3, none⟩ = some (.string f) := by rw [← hW]; simp
  have q_q4 : W0.cell? ⟨w.heap.size, 4, none⟩ = some (.string g) := by rw [← hW]; simp
  have HW := Lib.hid hW; clear hW
  have HI := Lib.hid (fun X => lin_any kd 1 5 X); have HA := Lib.hid (fun X => isAd_spec h p z1 z2 X); have HN := Lib.hid (fun X => nm_spec f z3 X); have HL := Lib.hid (fun X => val_spec g z4 X)
  obtain ⟨D, hD⟩ : ∃ D, decide (g.size = 0) = D := ⟨_, rfl⟩
  have e4 := empQ_size g; rw [hD] at e4
  have HD := Lib.hid hD; clear hD
  go_enter Tryz.func87, Tryz.ntmps87
  go_wp2_with fail
  rw [HW.out]
  refine (HI.out _).mono ?_
  rintro e w1 ⟨rfl, rfl⟩
  cases e1 : inB kd 1 5 with
  | false =>
    have He1 := Lib.hid e1; clear e1
    go_wp2_with fail
    go_ret
    exact ⟨ret_b (by unfold isRq; simp [He1.out]), HB.out⟩
  | true =>
    have He1 := Lib.hid e1; clear e1
    go_wp2_with fail
    refine (HA.out _).mono ?_
    rintro e w2 ⟨rfl, hb⟩
    have hbx := hb
    replace q_q0 := (hbx.cell (show (⟨w.heap.size, 0, none⟩ : Addr).block < _ from World.block_lt_of_cell? _ _ q_q0)).trans q_q0
    replace q_q1 := (hbx.cell (show (⟨w.heap.size, 1, none⟩ : Addr).block < _ from World.block_lt_of_cell? _ _ q_q1)).trans q_q1
    replace q_q2 := (hbx.cell (show (⟨w.heap.size, 2, none⟩ : Addr).block < _ from World.block_lt_of_cell? _ _ q_q2)).trans q_q2
    replace q_q3 := (hbx.cell (show (⟨w.heap.size, 3, none⟩ : Addr).block < _ from World.block_lt_of_cell? _ _ q_q3)).trans q_q3
    replace q_q4 := (hbx.cell (show (⟨w.heap.size, 4, none⟩ : Addr).block < _ from World.block_lt_of_cell? _ _ q_q4)).trans q_q4
    replace HB := Lib.hid (HB.out.trans (hbx.mono HB.out.size)); clear hbx hb
    cases e2 : isAd (h, p) with
    | false =>
      have He2 := Lib.hid e2; clear e2
      go_wp2_with fail
      go_ret
      exact ⟨ret_b (by unfold isRq; simp [He1.out, He2.out]), HB.out⟩
    | true =>
      have He2 := Lib.hid e2; clear e2
      go_wp2_with fail
      refine (HN.out _).mono ?_
      rintro e w3 ⟨rfl, rfl⟩
      cases e3 : isNm f with
      | false =>
        have He3 := Lib.hid e3; clear e3
        go_wp2_with fail
        go_ret
        exact ⟨ret_b (by unfold isRq; simp [He1.out, He2.out, He3.out]), HB.out⟩
      | true =>
        have He3 := Lib.hid e3; clear e3
        cases D with
        | true =>
          have He4 := Lib.hid (of_decide_eq_true HD.out)
          go_wp2_with fail
          go_ret
          exact ⟨ret_b (by unfold isRq; simp [He1.out, He2.out, He3.out, He4.out]), HB.out⟩
        | false =>
          have He4 := Lib.hid (of_decide_eq_false HD.out)
          go_wp2_with fail
          refine (HL.out _).mono ?_
          rintro e w4 ⟨rfl, rfl⟩
          go_wp2_with fail
          go_ret
          exact ⟨ret_b (by unfold isRq; simp [He1.out, He2.out, He3.out, He4.out]), HB.out⟩

set_option maxRecDepth 100000 in
set_option maxHeartbeats 2000000 in
theorem isRq_impl (kd : Int) (h p f g : ByteArray) (ok : RqOk h p f g) (w : World) :
    Calls Tryz.prog 80 #[.agg #[.int .i64 kd, .string h, .string p, .string f, .string g]] w fun e w' => e = .returned (.bool (isRq kd h p f g)) ∧ Below w.heap.size w w' := by
  obtain ⟨z1, z2, z3, z4⟩ := ok
  obtain ⟨W0, hW⟩ : ∃ W, (w.alloc (.cells #[.int .i64 kd, .string h, .string p, .string f, .string g] 30)) = W := ⟨_, rfl⟩
  have HB := Lib.hid (show Below w.heap.size w W0 by rw [← hW]; exact ((Below.refl w.heap.size w).alloc (by first | (simp; done) | (simp; omega)) _))
  have q_q0 : W0.cell? ⟨w.heap.size, 0, none⟩ = some (.int .i64 kd) := by rw [← hW]; simp
  have q_q1 : W0.cell? ⟨w.heap.size, 1, none⟩ = some (.string h) := by rw [← hW]; simp
  have q_q2 : W0.cell? ⟨w.heap.size, 2, none⟩ = some (.string p) := by rw [← hW]; simp
  have q_q3 : W0.cell? ⟨w.heap.size, 3, none⟩ = some (.string f) := by rw [← hW]; simp
  have q_q4 : W0.cell? ⟨w.heap.size, 4, none⟩ = some (.string g) := by rw [← hW]; simp
  have HW := Lib.hid hW; clear hW
  have HI := Lib.hid (fun X => rin_any kd 1 5 X); have HA := Lib.hid (fun X => isAd_impl h p z1 z2 X); have HN := Lib.hid (fun X => nm_impl f z3 X); have HL := Lib.hid (fun X => val_impl g z4 X)
  obtain ⟨D, hD⟩ : ∃ D, decide (g.size = 0) = D := ⟨_, rfl⟩
  have e4 := empQ_size g; rw [hD] at e4
  have HD := Lib.hid hD; clear hD
  go_enter Tryz.func80, Tryz.ntmps80
  go_wp2_with fail
  rw [HW.out]
  refine (HI.out _).mono ?_
  rintro e w1 ⟨rfl, rfl⟩
  cases e1 : inB kd 1 5 with
  | false =>
    have He1 := Lib.hid e1; clear e1
    go_wp2_with fail
    go_ret
    exact ⟨ret_b (by unfold isRq; simp [He1.out]), HB.out⟩
  | true =>
    have He1 := Lib.hid e1; clear e1
    go_wp2_with fail
    refine (HA.out _).mono ?_
    rintro e w2 ⟨rfl, hb⟩
    have hbx := hb
    replace q_q0 := (hbx.cell (show (⟨w.heap.size, 0, none⟩ : Addr).block < _ from World.block_lt_of_cell? _ _ q_q0)).trans q_q0
    replace q_q1 := (hbx.cell (show (⟨w.heap.size, 1, none⟩ : Addr).block < _ from World.block_lt_of_cell? _ _ q_q1)).trans q_q1
    replace q_q2 := (hbx.cell (show (⟨w.heap.size, 2, none⟩ : Addr).block < _ from World.block_lt_of_cell? _ _ q_q2)).trans q_q2
    replace q_q3 := (hbx.cell (show (⟨w.heap.size, 3, none⟩ : Addr).block < _ from World.block_lt_of_cell? _ _ q_q3)).trans q_q3
    replace q_q4 := (hbx.cell (show (⟨w.heap.size, 4, none⟩ : Addr).block < _ from World.block_lt_of_cell? _ _ q_q4)).trans q_q4
    replace HB := Lib.hid (HB.out.trans (hbx.mono HB.out.size)); clear hbx hb
    cases e2 : isAd (h, p) with
    | false =>
      have He2 := Lib.hid e2; clear e2
      go_wp2_with fail
      go_ret
      exact ⟨ret_b (by unfold isRq; simp [He1.out, He2.out]), HB.out⟩
    | true =>
      have He2 := Lib.hid e2; clear e2
      go_wp2_with fail
      refine (HN.out _).mono ?_
      rintro e w3 ⟨rfl, rfl⟩
      cases e3 : isNm f with
      | false =>
        have He3 := Lib.hid e3; clear e3
        go_wp2_with fail
        go_ret
        exact ⟨ret_b (by unfold isRq; simp [He1.out, He2.out, He3.out]), HB.out⟩
      | true =>
        have He3 := Lib.hid e3; clear e3
        cases D with
        | true =>
          have He4 := Lib.hid (of_decide_eq_true HD.out)
          go_wp2_with fail
          go_ret
          exact ⟨ret_b (by unfold isRq; simp [He1.out, He2.out, He3.out, He4.out]), HB.out⟩
        | false =>
          have He4 := Lib.hid (of_decide_eq_false HD.out)
          go_wp2_with fail
          refine (HL.out _).mono ?_
          rintro e w4 ⟨rfl, rfl⟩
          go_wp2_with fail
          go_ret
          exact ⟨ret_b (by unfold isRq; simp [He1.out, He2.out, He3.out, He4.out]), HB.out⟩

/-- CheckRequest. -/
def rqV (q : Pol) (kd : Int) (h p f g : ByteArray) : Int := if isRq kd h p f g = true then if kd = 1 then 1 else if alB q kd h = true then 1 else 2 else 2
theorem ret_iq {a b : Int} (h : a = b) : Ending.returned (.int .i64 a) = .returned (.int .i64 b) := by rw [h]

set_option maxRecDepth 100000 in
set_option maxHeartbeats 2000000 in
theorem chQ_spec (set : Bool) (scr sty img : List ByteArray) (non : ByteArray) (a1 : Option Addr) (n1 c1 : Nat) (a2 : Option Addr) (n2 c2 : Nat) (a3 : Option Addr) (n3 c3 : Nat) (kd : Int) (h p f g : ByteArray) (ok : RqOk h p f g) (w : World) (hr : ReadP w.heap.size w (.slice a1 n1 c1) (.slice a2 n2 c2) (.slice a3 n3 c3) ⟨set, scr, sty, img, non⟩) :
    Calls Tryz.prog 78 #[.agg #[.bool set, .slice a1 n1 c1, .slice a2 n2 c2, .slice a3 n3 c3, .string non], .agg #[.int .i64 kd, .string h, .string p, .string f, .string g]] w fun e w' => e = .returned (.int .i64 (rqV (⟨set, scr, sty, img, non⟩ : Pol) kd h p f g)) ∧ Below w.heap.size w w' := by
  have HRp := Lib.hid hr; clear hr
  obtain ⟨W0, hW⟩ : ∃ W, ((w.alloc (.cells #[.bool set, .slice a1 n1 c1, .slice a2 n2 c2, .slice a3 n3 c3, .string non] 26)).alloc (.cells #[.int .i64 kd, .string h, .string p, .string f, .string g] 30)) = W := ⟨_, rfl⟩
  have HB := Lib.hid (show Below w.heap.size w W0 by rw [← hW]; exact (((Below.refl w.heap.size w).alloc (by first | (simp; done) | (simp; omega)) _).alloc (by first | (simp; done) | (simp; omega)) _))
  have q_p0 : W0.cell? ⟨w.heap.size, 0, none⟩ = some (.bool set) := by rw [← hW]; simp
  have q_p1 : W0.cell? ⟨w.heap.size, 1, none⟩ = some (.slice a1 n1 c1) := by rw [← hW]; simp
  have q_p2 : W0.cell? ⟨w.heap.size, 2, none⟩ = some (.slice a2 n2 c2) := by rw [← hW]; simp
  have q_p3 : W0.cell? ⟨w.heap.size, 3, none⟩ = some (.slice a3 n3 c3) := by rw [← hW]; simp
  have q_p4 : W0.cell? ⟨w.heap.size, 4, none⟩ = some (.string non) := by rw [← hW]; simp
  have q_q0 : W0.cell? ⟨w.heap.size + 1, 0, none⟩ = some (.int .i64 kd) := by rw [← hW]; simp
  have q_q1 : W0.cell? ⟨w.heap.size + 1, 1, none⟩ = some (.string h) := by rw [← hW]; simp
  have q_q2 : W0.cell? ⟨w.heap.size + 1, 2, none⟩ = some (.string p) := by rw [← hW]; simp
  have q_q3 : W0.cell? ⟨w.heap.size + 1, 3, none⟩ = some (.string f) := by rw [← hW]; simp
  have q_q4 : W0.cell? ⟨w.heap.size + 1, 4, none⟩ = some (.string g) := by rw [← hW]; simp
  replace HRp := Lib.hid (ReadP.up HRp.out HB.out)
  have HW := Lib.hid hW; clear hW
  have HI := Lib.hid (fun X => isRq_spec kd h p f g ok X); have HA := Lib.hid (fun X hx => allows_spec set scr sty img non a1 n1 c1 a2 n2 c2 a3 n3 c3 kd h X hx)
  clear ok
  go_enter Tryz.func78, Tryz.ntmps78
  go_wp2_with fail
  rw [HW.out]
  refine (HI.out _).mono ?_
  rintro e w1 ⟨rfl, hb⟩
  have hbx := hb
  replace q_p0 := (hbx.cell (show (⟨w.heap.size, 0, none⟩ : Addr).block < _ from World.block_lt_of_cell? _ _ q_p0)).trans q_p0
  replace q_p1 := (hbx.cell (show (⟨w.heap.size, 1, none⟩ : Addr).block < _ from World.block_lt_of_cell? _ _ q_p1)).trans q_p1
  replace q_p2 := (hbx.cell (show (⟨w.heap.size, 2, none⟩ : Addr).block < _ from World.block_lt_of_cell? _ _ q_p2)).trans q_p2
  replace q_p3 := (hbx.cell (show (⟨w.heap.size, 3, none⟩ : Addr).block < _ from World.block_lt_of_cell? _ _ q_p3)).trans q_p3
  replace q_p4 := (hbx.cell (show (⟨w.heap.size, 4, none⟩ : Addr).block < _ from World.block_lt_of_cell? _ _ q_p4)).trans q_p4
  replace q_q0 := (hbx.cell (show (⟨w.heap.size + 1, 0, none⟩ : Addr).block < _ from World.block_lt_of_cell? _ _ q_q0)).trans q_q0
  replace q_q1 := (hbx.cell (show (⟨w.heap.size + 1, 1, none⟩ : Addr).block < _ from World.block_lt_of_cell? _ _ q_q1)).trans q_q1
  replace q_q2 := (hbx.cell (show (⟨w.heap.size + 1, 2, none⟩ : Addr).block < _ from World.block_lt_of_cell? _ _ q_q2)).trans q_q2
  replace q_q3 := (hbx.cell (show (⟨w.heap.size + 1, 3, none⟩ : Addr).block < _ from World.block_lt_of_cell? _ _ q_q3)).trans q_q3
  replace q_q4 := (hbx.cell (show (⟨w.heap.size + 1, 4, none⟩ : Addr).block < _ from World.block_lt_of_cell? _ _ q_q4)).trans q_q4
  replace HRp := Lib.hid (ReadP.up HRp.out hbx)
  replace HB := Lib.hid (HB.out.trans (hbx.mono HB.out.size)); clear hbx hb
  cases e1 : isRq kd h p f g with
  | false =>
    have He1 := Lib.hid e1; clear e1
    go_wp2_with fail
    go_ret
    exact ⟨ret_iq (by unfold rqV; rw [if_neg (by rw [He1.out]; exact Bool.false_ne_true)]), HB.out⟩
  | true =>
    have He1 := Lib.hid e1; clear e1
    by_cases e2 : kd = 1
    · have He2 := Lib.hid e2
      have x1 : (kd == 1) = true := beq_iff_eq.2 e2
      have x2 : (kd != 1) = false := by rw [bne, x1]; rfl
      clear e2
      go_wp2_with fail
      go_ret
      exact ⟨ret_iq (by unfold rqV; rw [if_pos He1.out, if_pos He2.out]), HB.out⟩
    · have He2 := Lib.hid e2
      have x1 : (kd == 1) = false := beq_eq_false_iff_ne.2 e2
      have x2 : (kd != 1) = true := by rw [bne, x1]; rfl
      clear e2
      go_wp2_with fail
      refine (HA.out _ HRp.out).mono ?_
      rintro e w2 ⟨rfl, hb⟩
      have hbx := hb.below
      replace q_p0 := (hbx.cell (show (⟨w.heap.size, 0, none⟩ : Addr).block < _ from World.block_lt_of_cell? _ _ q_p0)).trans q_p0
      replace q_p1 := (hbx.cell (show (⟨w.heap.size, 1, none⟩ : Addr).block < _ from World.block_lt_of_cell? _ _ q_p1)).trans q_p1
      replace q_p2 := (hbx.cell (show (⟨w.heap.size, 2, none⟩ : Addr).block < _ from World.block_lt_of_cell? _ _ q_p2)).trans q_p2
      replace q_p3 := (hbx.cell (show (⟨w.heap.size, 3, none⟩ : Addr).block < _ from World.block_lt_of_cell? _ _ q_p3)).trans q_p3
      replace q_p4 := (hbx.cell (show (⟨w.heap.size, 4, none⟩ : Addr).block < _ from World.block_lt_of_cell? _ _ q_p4)).trans q_p4
      replace q_q0 := (hbx.cell (show (⟨w.heap.size + 1, 0, none⟩ : Addr).block < _ from World.block_lt_of_cell? _ _ q_q0)).trans q_q0
      replace q_q1 := (hbx.cell (show (⟨w.heap.size + 1, 1, none⟩ : Addr).block < _ from World.block_lt_of_cell? _ _ q_q1)).trans q_q1
      replace q_q2 := (hbx.cell (show (⟨w.heap.size + 1, 2, none⟩ : Addr).block < _ from World.block_lt_of_cell? _ _ q_q2)).trans q_q2
      replace q_q3 := (hbx.cell (show (⟨w.heap.size + 1, 3, none⟩ : Addr).block < _ from World.block_lt_of_cell? _ _ q_q3)).trans q_q3
      replace q_q4 := (hbx.cell (show (⟨w.heap.size + 1, 4, none⟩ : Addr).block < _ from World.block_lt_of_cell? _ _ q_q4)).trans q_q4
      replace HRp := Lib.hid (ReadP.up HRp.out hbx)
      replace HB := Lib.hid (HB.out.trans (hbx.mono HB.out.size)); clear hbx hb
      cases e3 : alB (⟨set, scr, sty, img, non⟩ : Pol) kd h with
      | false =>
        have He3 := Lib.hid e3; clear e3
        go_wp2_with fail
        go_ret
        exact ⟨ret_iq (by unfold rqV; rw [if_pos He1.out, if_neg He2.out, if_neg (by rw [He3.out]; exact Bool.false_ne_true)]), HB.out⟩
      | true =>
        have He3 := Lib.hid e3; clear e3
        go_wp2_with fail
        go_ret
        exact ⟨ret_iq (by unfold rqV; rw [if_pos He1.out, if_neg He2.out, if_pos He3.out]), HB.out⟩

set_option maxRecDepth 100000 in
set_option maxHeartbeats 2000000 in
theorem chQ_impl (set : Bool) (scr sty img : List ByteArray) (non : ByteArray) (a1 : Option Addr) (n1 c1 : Nat) (a2 : Option Addr) (n2 c2 : Nat) (a3 : Option Addr) (n3 c3 : Nat) (kd : Int) (h p f g : ByteArray) (ok : RqOk h p f g) (w : World) (hr : ReadP w.heap.size w (.slice a1 n1 c1) (.slice a2 n2 c2) (.slice a3 n3 c3) ⟨set, scr, sty, img, non⟩) :
    Calls Tryz.prog 16 #[.agg #[.bool set, .slice a1 n1 c1, .slice a2 n2 c2, .slice a3 n3 c3, .string non], .agg #[.int .i64 kd, .string h, .string p, .string f, .string g]] w fun e w' => e = .returned (.int .i64 (rqV (⟨set, scr, sty, img, non⟩ : Pol) kd h p f g)) ∧ Below w.heap.size w w' := by
  have HRp := Lib.hid hr; clear hr
  obtain ⟨W0, hW⟩ : ∃ W, ((w.alloc (.cells #[.bool set, .slice a1 n1 c1, .slice a2 n2 c2, .slice a3 n3 c3, .string non] 26)).alloc (.cells #[.int .i64 kd, .string h, .string p, .string f, .string g] 30)) = W := ⟨_, rfl⟩
  have HB := Lib.hid (show Below w.heap.size w W0 by rw [← hW]; exact (((Below.refl w.heap.size w).alloc (by first | (simp; done) | (simp; omega)) _).alloc (by first | (simp; done) | (simp; omega)) _))
  have q_p0 : W0.cell? ⟨w.heap.size, 0, none⟩ = some (.bool set) := by rw [← hW]; simp
  have q_p1 : W0.cell? ⟨w.heap.size, 1, none⟩ = some (.slice a1 n1 c1) := by rw [← hW]; simp
  have q_p2 : W0.cell? ⟨w.heap.size, 2, none⟩ = some (.slice a2 n2 c2) := by rw [← hW]; simp
  have q_p3 : W0.cell? ⟨w.heap.size, 3, none⟩ = some (.slice a3 n3 c3) := by rw [← hW]; simp
  have q_p4 : W0.cell? ⟨w.heap.size, 4, none⟩ = some (.string non) := by rw [← hW]; simp
  have q_q0 : W0.cell? ⟨w.heap.size + 1, 0, none⟩ = some (.int .i64 kd) := by rw [← hW]; simp
  have q_q1 : W0.cell? ⟨w.heap.size + 1, 1, none⟩ = some (.string h) := by rw [← hW]; simp
  have q_q2 : W0.cell? ⟨w.heap.size + 1, 2, none⟩ = some (.string p) := by rw [← hW]; simp
  have q_q3 : W0.cell? ⟨w.heap.size + 1, 3, none⟩ = some (.string f) := by rw [← hW]; simp
  have q_q4 : W0.cell? ⟨w.heap.size + 1, 4, none⟩ = some (.string g) := by rw [← hW]; simp
  replace HRp := Lib.hid (ReadP.up HRp.out HB.out)
  have HW := Lib.hid hW; clear hW
  have HI := Lib.hid (fun X => isRq_impl kd h p f g ok X); have HA := Lib.hid (fun X hx => allows_impl set scr sty img non a1 n1 c1 a2 n2 c2 a3 n3 c3 kd h X hx)
  clear ok
  go_enter Tryz.func16, Tryz.ntmps16
  go_wp2_with fail
  rw [HW.out]
  refine (HI.out _).mono ?_
  rintro e w1 ⟨rfl, hb⟩
  have hbx := hb
  replace q_p0 := (hbx.cell (show (⟨w.heap.size, 0, none⟩ : Addr).block < _ from World.block_lt_of_cell? _ _ q_p0)).trans q_p0
  replace q_p1 := (hbx.cell (show (⟨w.heap.size, 1, none⟩ : Addr).block < _ from World.block_lt_of_cell? _ _ q_p1)).trans q_p1
  replace q_p2 := (hbx.cell (show (⟨w.heap.size, 2, none⟩ : Addr).block < _ from World.block_lt_of_cell? _ _ q_p2)).trans q_p2
  replace q_p3 := (hbx.cell (show (⟨w.heap.size, 3, none⟩ : Addr).block < _ from World.block_lt_of_cell? _ _ q_p3)).trans q_p3
  replace q_p4 := (hbx.cell (show (⟨w.heap.size, 4, none⟩ : Addr).block < _ from World.block_lt_of_cell? _ _ q_p4)).trans q_p4
  replace q_q0 := (hbx.cell (show (⟨w.heap.size + 1, 0, none⟩ : Addr).block < _ from World.block_lt_of_cell? _ _ q_q0)).trans q_q0
  replace q_q1 := (hbx.cell (show (⟨w.heap.size + 1, 1, none⟩ : Addr).block < _ from World.block_lt_of_cell? _ _ q_q1)).trans q_q1
  replace q_q2 := (hbx.cell (show (⟨w.heap.size + 1, 2, none⟩ : Addr).block < _ from World.block_lt_of_cell? _ _ q_q2)).trans q_q2
  replace q_q3 := (hbx.cell (show (⟨w.heap.size + 1, 3, none⟩ : Addr).block < _ from World.block_lt_of_cell? _ _ q_q3)).trans q_q3
  replace q_q4 := (hbx.cell (show (⟨w.heap.size + 1, 4, none⟩ : Addr).block < _ from World.block_lt_of_cell? _ _ q_q4)).trans q_q4
  replace HRp := Lib.hid (ReadP.up HRp.out hbx)
  replace HB := Lib.hid (HB.out.trans (hbx.mono HB.out.size)); clear hbx hb
  cases e1 : isRq kd h p f g with
  | false =>
    have He1 := Lib.hid e1; clear e1
    go_wp2_with fail
    go_ret
    exact ⟨ret_iq (by unfold rqV; rw [if_neg (by rw [He1.out]; exact Bool.false_ne_true)]), HB.out⟩
  | true =>
    have He1 := Lib.hid e1; clear e1
    by_cases e2 : kd = 1
    · have He2 := Lib.hid e2
      have x1 : (kd == 1) = true := beq_iff_eq.2 e2
      have x2 : (kd != 1) = false := by rw [bne, x1]; rfl
      clear e2
      go_wp2_with fail
      go_ret
      exact ⟨ret_iq (by unfold rqV; rw [if_pos He1.out, if_pos He2.out]), HB.out⟩
    · have He2 := Lib.hid e2
      have x1 : (kd == 1) = false := beq_eq_false_iff_ne.2 e2
      have x2 : (kd != 1) = true := by rw [bne, x1]; rfl
      clear e2
      go_wp2_with fail
      refine (HA.out _ HRp.out).mono ?_
      rintro e w2 ⟨rfl, hb⟩
      have hbx := hb.below
      replace q_p0 := (hbx.cell (show (⟨w.heap.size, 0, none⟩ : Addr).block < _ from World.block_lt_of_cell? _ _ q_p0)).trans q_p0
      replace q_p1 := (hbx.cell (show (⟨w.heap.size, 1, none⟩ : Addr).block < _ from World.block_lt_of_cell? _ _ q_p1)).trans q_p1
      replace q_p2 := (hbx.cell (show (⟨w.heap.size, 2, none⟩ : Addr).block < _ from World.block_lt_of_cell? _ _ q_p2)).trans q_p2
      replace q_p3 := (hbx.cell (show (⟨w.heap.size, 3, none⟩ : Addr).block < _ from World.block_lt_of_cell? _ _ q_p3)).trans q_p3
      replace q_p4 := (hbx.cell (show (⟨w.heap.size, 4, none⟩ : Addr).block < _ from World.block_lt_of_cell? _ _ q_p4)).trans q_p4
      replace q_q0 := (hbx.cell (show (⟨w.heap.size + 1, 0, none⟩ : Addr).block < _ from World.block_lt_of_cell? _ _ q_q0)).trans q_q0
      replace q_q1 := (hbx.cell (show (⟨w.heap.size + 1, 1, none⟩ : Addr).block < _ from World.block_lt_of_cell? _ _ q_q1)).trans q_q1
      replace q_q2 := (hbx.cell (show (⟨w.heap.size + 1, 2, none⟩ : Addr).block < _ from World.block_lt_of_cell? _ _ q_q2)).trans q_q2
      replace q_q3 := (hbx.cell (show (⟨w.heap.size + 1, 3, none⟩ : Addr).block < _ from World.block_lt_of_cell? _ _ q_q3)).trans q_q3
      replace q_q4 := (hbx.cell (show (⟨w.heap.size + 1, 4, none⟩ : Addr).block < _ from World.block_lt_of_cell? _ _ q_q4)).trans q_q4
      replace HRp := Lib.hid (ReadP.up HRp.out hbx)
      replace HB := Lib.hid (HB.out.trans (hbx.mono HB.out.size)); clear hbx hb
      cases e3 : alB (⟨set, scr, sty, img, non⟩ : Pol) kd h with
      | false =>
        have He3 := Lib.hid e3; clear e3
        go_wp2_with fail
        go_ret
        exact ⟨ret_iq (by unfold rqV; rw [if_pos He1.out, if_neg He2.out, if_neg (by rw [He3.out]; exact Bool.false_ne_true)]), HB.out⟩
      | true =>
        have He3 := Lib.hid e3; clear e3
        go_wp2_with fail
        go_ret
        exact ⟨ret_iq (by unfold rqV; rw [if_pos He1.out, if_neg He2.out, if_pos He3.out]), HB.out⟩

end Go.Proofs.YtkjjiinccljhjaaGreatDoor
namespace Go.Proofs.YtkjjiinccljhjaaGreatDoor
open Go.ChangeShapes Go.WideShapes Go.ChangeAt Go.RowKit

set_option maxRecDepth 100000 in
set_option maxHeartbeats 2000000 in
theorem toR_any (st kd : Int) (bo : ByteArray) (ag : Int) (sh : Bool) (po : ByteArray) (w : World) :
    Calls Tryz.prog 31 #[.agg #[.int .i64 st, .int .i64 kd, .string bo, .int .i64 ag, .bool sh, .string po]] w fun e w' => e = .returned (.agg #[.int .i64 st, .int .i64 kd, .string bo, .int .i64 ag, .bool sh, .string po]) ∧ Grw w w' := by
  go_enter Tryz.func31, Tryz.ntmps31
  go_wp2_with fail
  refine bodyPost_ret (v := .agg #[.int .i64 st, .int .i64 kd, .string bo, .int .i64 ag, .bool sh, .string po]) (by simp [results, Tryz.results31, go_sem]) rfl ⟨rfl, ?_⟩
  repeat' (first | (with_reducible exact Grw.refl _) | (with_reducible refine Grw.alloc ?_ _))

def SzR (h p : ByteArray) (left : Int) (w : World) (e : Ending) (w' : World) : Prop :=
  ∃ r : Int, e = .returned (.int .i64 r) ∧ -1 ≤ r ∧ (0 ≤ r → r + h.size + p.size = left) ∧ Below w.heap.size w w'
set_option maxRecDepth 100000 in
set_option maxHeartbeats 2000000 in
theorem szR_any (st kd : Int) (bo : ByteArray) (ag : Int) (sh : Bool) (po : ByteArray) (left : Int) (h1 : bo.size ≤ 9223372036854775807) (h2 : po.size ≤ 9223372036854775807) (l1 : -1 ≤ left) (l2 : left ≤ 1099511627776) (w : World) :
    Calls Tryz.prog 28 #[.agg #[.int .i64 st, .int .i64 kd, .string bo, .int .i64 ag, .bool sh, .string po], .int .i64 left] w (SzR bo po left w) := by
  have HB := Lib.hid ((Below.refl w.heap.size w).alloc (Nat.le_refl _) (.cells #[.int .i64 st, .int .i64 kd, .string bo, .int .i64 ag, .bool sh, .string po] 52))
  by_cases c1 : left - bo.size < 0
  · go_enter Tryz.func28, Tryz.ntmps28
    go_wp2_with fail
    go_ret
    exact ⟨-1, rfl, by omega, by omega, HB.out⟩
  · by_cases c2 : left - bo.size - po.size < 0
    · go_enter Tryz.func28, Tryz.ntmps28
      go_wp2_with fail
      go_ret
      exact ⟨-1, rfl, by omega, by omega, HB.out⟩
    · go_enter Tryz.func28, Tryz.ntmps28
      go_wp2_with fail
      go_ret
      exact ⟨left - bo.size - po.size, rfl, by omega, by omega, HB.out⟩

end Go.Proofs.YtkjjiinccljhjaaGreatDoor
namespace Go.Proofs.YtkjjiinccljhjaaGreatDoor
open Go.ChangeShapes Go.WideShapes Go.ChangeAt Go.RowKit

/-- A slice of strings of the call's own, wherever it begins in its block. -/
def OwnO (lo hi : Nat) (w : World) (v : Value) (xs : List ByteArray) : Prop :=
  ∃ (a : Option Addr) (c : Nat), v = .slice a xs.length c ∧ xs.length ≤ c ∧ c ≤ 9223372036854775807 ∧ (a = none → c = 0) ∧ (xs.length = 0 ∨ ∃ (g off : Nat) (cs : Array Value), a = some ⟨g, off, none⟩ ∧ lo ≤ g ∧ g < hi ∧ w.heap[g]? = some (.cells cs 9 (0, 0)) ∧ ∀ (j : Nat) (x : ByteArray), xs[j]? = some x → cs[off + j]? = some (.string x))
theorem OwnO.reads {lo hi : Nat} {w : World} {v : Value} {xs : List ByteArray} (h : OwnO lo hi w v xs) : ReadsK encS 1 hi w v xs := by
  obtain ⟨a, c, rfl, h1, h2, h3, h4⟩ := h
  refine ⟨a, c, rfl, h1, h2, h3, ?_⟩
  rcases h4 with h4 | ⟨g, off, cs, rfl, _, hg, hh, hc⟩
  · exact Or.inl h4
  · refine Or.inr ⟨g, off, rfl, hg, fun j x hj i hi' => ?_⟩
    obtain rfl : i = 0 := by omega
    rw [Nat.mul_one, Nat.add_zero]
    exact box_cell hh (hc j x hj)
theorem OwnO.later {lo hi : Nat} {w w' : World} {v : Value} {xs : List ByteArray} (h : OwnO lo hi w v xs) (hb : Below w.heap.size w w') : OwnO lo hi w' v xs := by
  obtain ⟨a, c, e, h1, h2, h3, h4⟩ := h
  refine ⟨a, c, e, h1, h2, h3, ?_⟩
  rcases h4 with h4 | ⟨g, off, cs, e2, hl, hg, hh, hc⟩
  · exact Or.inl h4
  · exact Or.inr ⟨g, off, cs, e2, hl, hg, below_heap hb (heap_lt hh) hh, hc⟩
theorem OwnO.mono {lo hi lo' hi' : Nat} {w : World} {v : Value} {xs : List ByteArray} (h : OwnO lo hi w v xs) (hl' : lo' ≤ lo) (hh' : hi ≤ hi') : OwnO lo' hi' w v xs := by
  obtain ⟨a, c, e, h1, h2, h3, h4⟩ := h
  refine ⟨a, c, e, h1, h2, h3, ?_⟩
  rcases h4 with h4 | ⟨g, off, cs, e2, hl, hg, hh, hc⟩
  · exact Or.inl h4
  · exact Or.inr ⟨g, off, cs, e2, Nat.le_trans hl' hl, Nat.lt_of_lt_of_le hg hh', hh, hc⟩
theorem OwnO.top {lo hi : Nat} {w : World} {v : Value} {xs : List ByteArray} (h : OwnO lo hi w v xs) : OwnO lo w.heap.size w v xs := by
  obtain ⟨a, c, e, h1, h2, h3, h4⟩ := h
  refine ⟨a, c, e, h1, h2, h3, ?_⟩
  rcases h4 with h4 | ⟨g, off, cs, e2, hl, hg, hh, hc⟩
  · exact Or.inl h4
  · exact Or.inr ⟨g, off, cs, e2, hl, heap_lt hh, hh, hc⟩
theorem ownO_none (lo hi : Nat) (w : World) : OwnO lo hi w (.slice none 0 0) [] := ⟨_, 0, rfl, Nat.le_refl _, by omega, (fun _ => rfl), Or.inl rfl⟩
/-- The blocks in which something of it lies. -/
def blkO (v : Value) (xs : List ByteArray) : List Nat := if xs.length = 0 then [] else v.ownBlock.toList
theorem OwnO.blk {lo hi : Nat} {w : World} {v : Value} {xs : List ByteArray} (h : OwnO lo hi w v xs) : ∀ b ∈ blkO v xs, lo ≤ b ∧ b < hi ∧ b < w.heap.size := by
  obtain ⟨a, c, rfl, h1, h2, h3, h4⟩ := h
  intro b hb
  unfold blkO at hb
  rcases h4 with h4 | ⟨g, off, cs, rfl, hl, hg, hh, hc⟩
  · rw [if_pos h4] at hb; cases hb
  · split at hb
    · cases hb
    · have : b = g := by simpa [Value.ownBlock] using hb
      subst this
      exact ⟨hl, hg, heap_lt hh⟩
theorem OwnO.only {lo hi : Nat} {w w' : World} {v : Value} {xs : List ByteArray} {bs : List Nat} (h : OwnO lo hi w v xs) (hb : OnlyB bs w w') (hn : ∀ b ∈ blkO v xs, b ∉ bs) : OwnO lo hi w' v xs := by
  obtain ⟨a, c, rfl, h1, h2, h3, h4⟩ := h
  refine ⟨a, c, rfl, h1, h2, h3, ?_⟩
  rcases h4 with h4 | ⟨g, off, cs, rfl, hl, hg, hh, hc⟩
  · exact Or.inl h4
  · by_cases h0 : xs.length = 0
    · exact Or.inl h0
    · refine Or.inr ⟨g, off, cs, rfl, hl, hg, ?_, hc⟩
      rw [hb.block g (heap_lt hh) (hn g (by unfold blkO; rw [if_neg h0]; simp [Value.ownBlock]))]; exact hh
/-- What lies behind the first. -/
theorem OwnO.tail {lo hi n c g : Nat} {w : World} {x : ByteArray} {xs : List ByteArray} (h : OwnK encS 1 9 lo hi w (.slice (some ⟨g, 0, none⟩) n c) (x :: xs)) : OwnO lo hi w (if c = 1 then .slice (some ⟨g, 0, none⟩) (n - 1) (c - 1) else .slice (some ⟨g, 1, none⟩) (n - 1) (c - 1)) xs := by
  obtain ⟨hrow, hlt⟩ := h
  have hrl := hrow.1
  rcases hrow.2 with ⟨e, _⟩ | ⟨g', cap, cur, e, hg, hh, hcap, hm, hsz, htk⟩
  · cases e
  · unfold maxLen at hm
    injection e with e1 e2 e3
    injection e1 with e1
    injection e1 with e1
    subst e1; subst e3
    have hn : n = xs.length + 1 := by rw [e2]; rfl
    subst hn
    rw [Nat.add_sub_cancel]
    rw [flatS] at htk
    have hcl : ∀ (j : Nat) (y : ByteArray), xs[j]? = some y → cur[1 + j]? = some (.string y) := fun j y hj => by
      have h1 : ((x :: xs).map Value.string)[1 + j]? = some (.string y) := by rw [Nat.add_comm, List.map_cons, List.getElem?_cons_succ, List.getElem?_map, hj]; rfl
      rw [← htk, List.getElem?_take] at h1
      split at h1
      · rw [Array.getElem?_toList] at h1; exact h1
      · cases h1
    by_cases h1 : c = 1
    · subst h1
      rw [if_pos rfl]
      have : xs = [] := List.eq_nil_of_length_eq_zero (by omega)
      subst this
      exact ⟨_, 0, rfl, Nat.le_refl _, by omega, (fun h => by cases h), Or.inl rfl⟩
    · rw [if_neg h1]
      exact ⟨_, c - 1, rfl, by omega, by omega, (fun h => by cases h), Or.inr ⟨g, 1, cur, rfl, hg, hlt g rfl, hh, hcl⟩⟩
/-- A new slice of strings, wherever it begins in its block. -/
def NewO (xs : List ByteArray) (X : World) (e : Ending) (w' : World) : Prop := ∃ (a : Option Addr) (n c : Nat), e = .returned (.slice a n c) ∧ OwnO X.heap.size w'.heap.size w' (.slice a n c) xs ∧ Below X.heap.size X w'

end Go.Proofs.YtkjjiinccljhjaaGreatDoor
namespace Go.Proofs.YtkjjiinccljhjaaGreatDoor
open Go.ChangeShapes Go.WideShapes Go.ChangeAt Go.RowKit

/-- What a slice of this type holds. -/
def IsTokenS (x : Rw) : Prop := ∃ v n e cs, x = .sl v n 4 e cs ∧ ∀ j, j < n → ∃ (a0 : Int) (a1 : ByteArray) (a2 : Rw) (a3 : ByteArray), cs[j * 4]? = some (.leaf (.int .i64 a0)) ∧ cs[j * 4 + 1]? = some (.leaf (.string a1)) ∧ cs[j * 4 + 2]? = some a2 ∧ IsAttrS a2 ∧ cs[j * 4 + 3]? = some (.leaf (.string a3))
theorem is_sl_TokenS {x : Rw} (h : IsTokenS x) : ∃ v n k e cs, x = .sl v n k e cs := by
  obtain ⟨v, n, e, cs, rfl, _⟩ := h
  exact ⟨v, n, _, e, cs, rfl⟩

end Go.Proofs.YtkjjiinccljhjaaGreatDoor
