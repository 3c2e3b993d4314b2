/- Helper contracts: whether a slice of strings holds a string; whether two slices of strings are equal: of the model, and of Go's library at this type. Asked: the slices read as the lists named. -/
import Derived.Test.YtkjjiinccljhjaaDoorPolF
namespace Go.Proofs.YtkjjiinccljhjaaDoor
open Go.ChangeShapes Go.WideShapes Go.ChangeAt Go.RowKit

def notInS (xs : List ByteArray) (a : ByteArray) (k : Nat) : Prop := ∀ j : Nat, j < k → xs[j]? ≠ some a
theorem notInS.zero (xs : List ByteArray) (a : ByteArray) : notInS xs a 0 := fun _ h => absurd h (Nat.not_lt_zero _)
theorem notInS.succ {xs : List ByteArray} {a x : ByteArray} {k : Nat} (h : notInS xs a k) (hx : xs[k]? = some x) (hne : x ≠ a) : notInS xs a (k + 1) := by
  intro j hj
  by_cases e : j = k
  · subst e; rw [hx]; simpa using hne
  · exact h j (by omega)
theorem hasS_yes {xs : List ByteArray} {a : ByteArray} {k : Nat} (h : xs[k]? = some a) : hasS xs a = true := hasS_iff.2 (List.mem_of_getElem? h)
theorem hasS_no {xs : List ByteArray} {a : ByteArray} {k : Nat} (h : notInS xs a k) (hk : k = xs.length) : hasS xs a = false := by
  refine Bool.eq_false_iff.2 fun hm => ?_
  obtain ⟨j, hj⟩ := List.mem_iff_getElem?.1 (hasS_iff.1 hm)
  exact h j (by have := (List.getElem?_eq_some_iff.1 hj).1; omega) hj
/-- A string in a slice of strings. -/
theorem str_cell {hi n cap k : Nat} {w : World} {a : Option Addr} {xs : List ByteArray} {s : ByteArray} (h : ReadsK encS 1 hi w (.slice a n cap) xs) (hk : xs[k]? = some s) : ∃ g off, a = some ⟨g, off, none⟩ ∧ g < hi ∧ w.cell? ⟨g, off + k, none⟩ = some (.string s) := by
  obtain ⟨a', c', e, _, _, _, hc⟩ := h
  injection e with e1 e2 e3; subst e1
  rcases hc with h0 | ⟨g, off, rfl, hg, hc⟩
  · have := (List.getElem?_eq_some_iff.1 hk).1; omega
  · refine ⟨g, off, rfl, hg, ?_⟩
    have := hc k s hk 0 (by omega)
    rwa [Nat.mul_one] at this
theorem ssAt {xs : List ByteArray} {j : Nat} (h : j < xs.length) : ∃ x, xs[j]? = some x := ⟨_, List.getElem?_eq_getElem h⟩

set_option maxHeartbeats 1000000 in
theorem idxS_lib (v : Value) (hi : Nat) (xs : List ByteArray) (s : ByteArray) (w : World) (hr : ReadsK encS 1 hi w v xs) :
    Calls Tryd.prog 48 #[v, .string s] w fun e w' => (∃ r : Int, e = .returned (.int .i64 r) ∧ decide (0 ≤ r) = hasS xs s) ∧ w = w' := by
  obtain ⟨a, cap, rfl, hc1, hc2, _⟩ := id hr
  obtain ⟨n, hn⟩ : ∃ n, xs.length = n := ⟨_, rfl⟩
  rw [hn] at hr hc1 ⊢
  have HN := Lib.hid hn; have HR := Lib.hid hr; clear hn hr
  go_enter Tryd.func48, Tryd.ntmps48
  go_wp2
  go_loop [8] (fun i => ∃ (k : Nat), k ≤ n ∧ i = .int .i64 k ∧ notInS xs s k) (fun i => n - (intOf i).toNat)
  case atStart => exact ⟨0, Nat.zero_le _, rfl, notInS.zero _ _⟩
  case round =>
    obtain ⟨k, hk, rfl, hnot⟩ := hrel
    have HNI := Lib.hid hnot; clear hnot
    by_cases hlt : (k : Int) < (n : Int)
    · obtain ⟨x, hx⟩ := ssAt (xs := xs) (j := k) (by have := HN.out; omega)
      obtain ⟨g, off, rfl, _, c0⟩ := str_cell HR.out hx
      have HX := Lib.hid hx; clear hx
      by_cases e1 : x = s
      · have e2 : (x.toList == s.toList) = true := beqL_yes e1
        have e3 : (s.toList == x.toList) = true := beqL_yes e1.symm
        have HV := Lib.hid (show hasS xs s = true from hasS_yes (by rw [HX.out, e1]))
        clear e1
        go_wp2
        go_ret
        exact ⟨⟨_, rfl, by rw [HV.out]; exact decide_eq_true (by omega)⟩, rfl⟩
      · have e2 : (x.toList == s.toList) = false := beqL_no e1
        have e3 : (s.toList == x.toList) = false := beqL_no (Ne.symm e1)
        have HS := Lib.hid (HNI.out.succ HX.out e1)
        clear e1
        go_wp2
        go_round
        case rel => exact ⟨k + 1, by omega, by go_num, HS.out⟩
        case measure => simp [intOf]; omega
    · have hlf : decide ((k : Int) < (n : Int)) = false := decide_eq_false hlt
      have HV := Lib.hid (hasS_no HNI.out (by have := HN.out; omega))
      go_wp2
      go_ret
      exact ⟨⟨-1, rfl, by rw [HV.out]; rfl⟩, rfl⟩

theorem contS_lib (v : Value) (hi : Nat) (xs : List ByteArray) (s : ByteArray) (w : World) (hr : ReadsK encS 1 hi w v xs) :
    Calls Tryd.prog 33 #[v, .string s] w fun e w' => e = .returned (.bool (hasS xs s)) ∧ w = w' := by
  obtain ⟨a, cap, rfl, _⟩ := id hr
  have HI := Lib.hid (idxS_lib _ hi xs s w hr); clear hr
  go_enter Tryd.func33, Tryd.ntmps33
  go_wp2_with fail
  refine HI.out.mono ?_
  rintro e w' ⟨⟨r, rfl, hd⟩, rfl⟩
  have HD := Lib.hid hd; clear hd
  go_wp2_with fail
  go_ret
  exact ⟨by rw [← HD.out]; rfl, rfl⟩

def sameTo (xs ys : List ByteArray) (k : Nat) : Prop := ∀ j : Nat, j < k → xs[j]? = ys[j]?
theorem sameTo.zero (xs ys : List ByteArray) : sameTo xs ys 0 := fun _ h => absurd h (Nat.not_lt_zero _)
theorem sameTo.succ {xs ys : List ByteArray} {x : ByteArray} {k : Nat} (h : sameTo xs ys k) (hx : xs[k]? = some x) (hy : ys[k]? = some x) : sameTo xs ys (k + 1) := by
  intro j hj
  by_cases e : j = k
  · subst e; rw [hx, hy]
  · exact h j (by omega)
theorem same_all {xs ys : List ByteArray} {k : Nat} (h : sameTo xs ys k) (hx : xs.length = k) (hy : ys.length = k) : decide (xs = ys) = true := by
  refine decide_eq_true (List.ext_getElem? fun j => ?_)
  by_cases hj : j < k
  · exact h j hj
  · rw [List.getElem?_eq_none (by omega), List.getElem?_eq_none (by omega)]
theorem same_not {xs ys : List ByteArray} {x y : ByteArray} {k : Nat} (hx : xs[k]? = some x) (hy : ys[k]? = some y) (h : x ≠ y) : decide (xs = ys) = false := by
  refine decide_eq_false fun e => h ?_
  rw [e, hy] at hx
  exact (Option.some.inj hx).symm
theorem same_len {xs ys : List ByteArray} (h : xs.length ≠ ys.length) : decide (xs = ys) = false := decide_eq_false fun e => h (by rw [e])

set_option maxHeartbeats 1000000 in
theorem equalS_lib (v u : Value) (hi hi' : Nat) (xs ys : List ByteArray) (w : World) (hr : ReadsK encS 1 hi w v xs) (hr' : ReadsK encS 1 hi' w u ys) :
    Calls Tryd.prog 24 #[v, u] w fun e w' => e = .returned (.bool (decide (xs = ys))) ∧ Grw w w' := by
  obtain ⟨a, cap, rfl, hc1, hc2, _⟩ := id hr
  obtain ⟨a', cap', rfl, hc1', hc2', _⟩ := id hr'
  by_cases hl : xs.length = ys.length
  · obtain ⟨n, hn⟩ : ∃ n, ys.length = n := ⟨_, rfl⟩
    have hx := hl.trans hn
    rw [hx] at hr hc1; rw [hx, hn]; rw [hn] at hr' hc1'
    have HX := Lib.hid hx; have HY := Lib.hid hn; have HR := Lib.hid hr; have HR' := Lib.hid hr'; clear hx hn hr hr' hl
    have hnn : ((n : Int) == (n : Int)) = true := beq_self_eq_true _
    have hnb : ((n : Int) != (n : Int)) = false := by rw [bne, hnn]; rfl
    go_enter Tryd.func24, Tryd.ntmps24
    go_wp2
    go_loopw [13] (fun i wr => ∃ (k : Nat), k ≤ n ∧ i = .int .i64 k ∧ sameTo xs ys k ∧ Grw w wr) (fun i _ => n - (intOf i).toNat)
    case atStart => exact ⟨0, Nat.zero_le _, rfl, sameTo.zero _ _, Grw.refl _⟩
    case round =>
      obtain ⟨k, hk, rfl, hs, hg⟩ := hrel
      have HS := Lib.hid hs; have HG := Lib.hid hg; clear hs hg
      by_cases hlt : (k : Int) < (n : Int)
      · obtain ⟨x, hx⟩ := ssAt (xs := xs) (j := k) (by have := HX.out; omega)
        obtain ⟨y, hy⟩ := ssAt (xs := ys) (j := k) (by have := HY.out; omega)
        obtain ⟨g, off, rfl, hg, c0⟩ := str_cell HR.out hx
        obtain ⟨g', off', rfl, hg', c1⟩ := str_cell HR'.out hy
        replace c0 := (HG.out.below.cell (show (⟨g, off + k, none⟩ : Addr).block < _ from World.block_lt_of_cell? _ _ c0)).trans c0
        replace c1 := (HG.out.below.cell (show (⟨g', off' + k, none⟩ : Addr).block < _ from World.block_lt_of_cell? _ _ c1)).trans c1
        clear hg hg'
        have HXA := Lib.hid hx; have HYA := Lib.hid hy; clear hx hy
        by_cases e1 : x = y
        · have e2 : (x.toList == y.toList) = true := beqL_yes e1
          have e3 : (x.toList != y.toList) = false := by rw [bne, e2]; rfl
          have HN := Lib.hid (HS.out.succ HXA.out (by rw [HYA.out, e1]))
          clear e1
          go_wp2
          go_quiet (fail)
          go_wp2
          go_roundw
          case rel => exact ⟨k + 1, by omega, by go_num, HN.out, HG.out.drewN _⟩
          case measure => simp [intOf]; omega
        · have e2 : (x.toList == y.toList) = false := beqL_no e1
          have e3 : (x.toList != y.toList) = true := by rw [bne, e2]; rfl
          have HV := Lib.hid (same_not HXA.out HYA.out e1)
          clear e1
          go_wp2
          go_quiet (fail)
          go_wp2
          go_ret
          exact ⟨by rw [HV.out]; rfl, HG.out.drewN _⟩
      · have hlf : decide ((k : Int) < (n : Int)) = false := decide_eq_false hlt
        have HV := Lib.hid (same_all (k := n) (by rw [show n = k by omega]; exact HS.out) HX.out HY.out)
        go_wp2
        go_ret
        exact ⟨by rw [HV.out]; rfl, HG.out⟩
  · have HV := Lib.hid (same_len hl)
    obtain ⟨n, hn⟩ : ∃ n, xs.length = n := ⟨_, rfl⟩
    obtain ⟨n', hn'⟩ : ∃ n, ys.length = n := ⟨_, rfl⟩
    rw [hn] at hc1 hl; rw [hn, hn']; rw [hn'] at hc1' hl
    have hnn : ((n : Int) == (n' : Int)) = false := beq_eq_false_iff_ne.2 (by omega)
    have hnb : ((n : Int) != (n' : Int)) = true := by rw [bne, hnn]; rfl
    clear hr hr' hn hn' hl
    go_enter Tryd.func24, Tryd.ntmps24
    go_wp2
    go_ret
    exact ⟨by rw [HV.out]; rfl, Grw.refl _⟩
end Go.Proofs.YtkjjiinccljhjaaDoor
