/- Helper contracts over the functions with which the laws copy, compare, measure and mark slices, by program (deep.py). Asked: what lies in memory is as named. -/
import Derived.Test.YtpkicliimhflgaaDpAttr
import Derived.Test.YtpkicliimhflgaaRsp
import Derived.Shelf.SlSortCmp.QuietGrown
namespace Go.Proofs.Ytpkicliimhflgaa
open Go.ChangeShapes Go.WideShapes Go.ChangeAt Go.RowKit

theorem mod3 (q : Nat) : (((q : Int) % 3 : Int) == 0) = decide (q % 3 = 0) := by
  by_cases h : q % 3 = 0
  · rw [decide_eq_true h]; exact beq_iff_eq.2 (by omega)
  · rw [decide_eq_false h]; exact beq_eq_false_iff_ne.2 (by omega)
theorem tmod3 (q : Nat) : ((Int.tmod (q : Int) 3 : Int) == 0) = decide (q % 3 = 0) := by
  rw [Int.tmod_eq_emod_of_nonneg (by omega)]; exact mod3 q
theorem grw_setC {a b : World} (h : Grw a b) {c o : Nat} (hp : a.heap.size ≤ c) (u : Value) : Grw a (b.setCell ⟨c, o, none⟩ u) := by
  obtain ⟨q, os, rfl⟩ := h
  refine ⟨q, os.modify (c - a.heap.size) fun | .cells c' elem frozen => .cells (if (none : Option Bool).isSome then c' else c'.setIfInBounds o u) elem frozen | x => x, ?_⟩
  unfold World.setCell Sort.grow
  congr 1
  apply Array.ext
  · simp
  · intro i h1 h2
    have hs : (a.drewN q).heap.size = a.heap.size := rfl
    rw [Array.getElem_modify]
    change (if c = i then _ else _) = _
    by_cases hi : i < a.heap.size
    · rw [if_neg (by omega), Array.getElem_append_left (by rw [hs]; exact hi), Array.getElem_append_left (by rw [hs]; exact hi)]
    · rw [Array.getElem_append_right (by rw [hs]; omega), Array.getElem_append_right (by rw [hs]; omega), Array.getElem_modify]
      by_cases hc : c = i
      · rw [if_pos hc, if_pos (by rw [hs]; omega)]; rfl
      · rw [if_neg hc, if_neg (by rw [hs]; omega)]

set_option maxRecDepth 100000 in
set_option maxHeartbeats 4000000 in
theorem toR_lit (a1 a2 : Int) (a3 : ByteArray) (a4 : Int) (a5 : Bool) (a6 : ByteArray) (w : World) :
    Calls Try.prog 38 #[.agg #[.int .i64 a1, .int .i64 a2, .string a3, .int .i64 a4, .bool a5, .string a6]] w fun e w' => e = .returned (.agg #[.int .i64 a1, .int .i64 a2, .string a3, .int .i64 a4, .bool a5, .string a6]) ∧ w' = ((w.alloc (.cells #[.int .i64 a1, .int .i64 a2, .string a3, .int .i64 a4, .bool a5, .string a6] 62)).alloc (.cells #[.int .i64 a1, .int .i64 a2, .string a3, .int .i64 a4, .bool a5, .string a6] 28)).alloc (.cells #[.int .i64 a1, .int .i64 a2, .string a3, .int .i64 a4, .bool a5, .string a6] 28) := by
  go_enter Try.func38, Try.ntmps38
  go_wp2_with fail
  refine bodyPost_ret (v := .agg #[.int .i64 a1, .int .i64 a2, .string a3, .int .i64 a4, .bool a5, .string a6]) (by simp [results, Try.results38, go_sem]) rfl ⟨rfl, ?_⟩
  rfl

/-- What a slice of this type holds. -/
def IsFileS (x : Rw) : Prop := ∃ v n e cs, x = .sl v n 7 e cs ∧ ∀ j, j < n → ∃ (a0 : ByteArray) (a1 : Int) (a2 : Int) (a3 : ByteArray) (a4 : Int) (a5 : Bool) (a6 : ByteArray), cs[j * 7]? = some (.leaf (.string a0)) ∧ cs[j * 7 + 1]? = some (.leaf (.int .i64 a1)) ∧ cs[j * 7 + 2]? = some (.leaf (.int .i64 a2)) ∧ cs[j * 7 + 3]? = some (.leaf (.string a3)) ∧ cs[j * 7 + 4]? = some (.leaf (.int .i64 a4)) ∧ cs[j * 7 + 5]? = some (.leaf (.bool a5)) ∧ cs[j * 7 + 6]? = some (.leaf (.string a6))
theorem is_sl_FileS {x : Rw} (h : IsFileS x) : ∃ v n k e cs, x = .sl v n k e cs := by
  obtain ⟨v, n, e, cs, rfl, _⟩ := h
  exact ⟨v, n, _, e, cs, rfl⟩

set_option maxRecDepth 100000 in
set_option maxHeartbeats 4000000 in
theorem eq_File (a0 : ByteArray) (a1 : Int) (a2 : Int) (a3 : ByteArray) (a4 : Int) (a5 : Bool) (a6 : ByteArray) (w : World) :
    Calls Try.prog 36 #[.agg #[.string a0, .int .i64 a1, .int .i64 a2, .string a3, .int .i64 a4, .bool a5, .string a6], .agg #[.string a0, .int .i64 a1, .int .i64 a2, .string a3, .int .i64 a4, .bool a5, .string a6]] w fun e w' => e = .returned (.bool true) ∧ Grw w w' := by
  have e0 : (a0.toList == a0.toList) = true := beqL_yes rfl
  have HG := Lib.hid (((Grw.refl w).alloc (.cells #[.string a0, .int .i64 a1, .int .i64 a2, .string a3, .int .i64 a4, .bool a5, .string a6] 49)).alloc (.cells #[.string a0, .int .i64 a1, .int .i64 a2, .string a3, .int .i64 a4, .bool a5, .string a6] 49))
  go_enter Try.func36, Try.ntmps36
  go_wp2_with fail
  refine (eqR_self a1 a2 a3 a4 a5 a6 _).mono ?_
  rintro e w1 ⟨rfl, hg1⟩
  go_wp2_with fail
  go_ret
  exact ⟨rfl, HG.out.trans hg1⟩

set_option maxRecDepth 100000 in
set_option maxHeartbeats 4000000 in
theorem to_File (a0 : ByteArray) (a1 : Int) (a2 : Int) (a3 : ByteArray) (a4 : Int) (a5 : Bool) (a6 : ByteArray) (w : World) :
    Calls Try.prog 35 #[.agg #[.string a0, .int .i64 a1, .int .i64 a2, .string a3, .int .i64 a4, .bool a5, .string a6]] w fun e w' => e = .returned (.agg #[.string a0, .int .i64 a1, .int .i64 a2, .string a3, .int .i64 a4, .bool a5, .string a6]) ∧ Grw w w' := by
  go_enter Try.func35, Try.ntmps35
  go_wp2_with fail
  refine (toR_lit a1 a2 a3 a4 a5 a6 _).mono ?_
  rintro e w1 ⟨rfl, rfl⟩
  go_wp2_with fail
  refine bodyPost_ret (v := .agg #[.string a0, .int .i64 a1, .int .i64 a2, .string a3, .int .i64 a4, .bool a5, .string a6]) (by simp [results, Try.results35, go_sem]) rfl ⟨rfl, ?_⟩
  repeat' (first | (with_reducible exact Grw.refl _) | (with_reducible refine Grw.alloc ?_ _) | (refine grw_setC ?_ (by omega) _))

set_option maxRecDepth 100000 in
set_option maxHeartbeats 4000000 in
theorem eq_FileS (x y : Rw) (hx : IsFileS x) (hy : IsFileS y) (hd : x.data = y.data) (w : World) (rx : x.ReadR w.heap.size w) (ry : y.ReadR w.heap.size w) :
    Calls Try.prog 32 #[x.cell, y.cell] w fun e w' => e = .returned (.bool true) ∧ Grw w w' := by
  have mixed : Try.prog.follows .mixedOrders = true := by kernel_rfl
  obtain ⟨v, n, e0, cs, rfl, hrow⟩ := hx
  obtain ⟨v', n', e0', cs', rfl, hrow'⟩ := hy
  rw [Rw.data, Rw.data] at hd
  have hdd := (Dt.sl.inj hd).2; clear hd
  rw [Rw.ReadR] at rx ry
  rw [Rw.cell_sl, Rw.cell_sl]
  obtain ⟨⟨a, cap, rfl, hlen, hc1, hc2, _, hcells⟩, hin⟩ := rx
  obtain ⟨⟨a', cap', rfl, hlen', hc1', hc2', _, hcells'⟩, hin'⟩ := ry
  have hnn : n = n' := by have := congrArg List.length hdd; rw [dataL_len, dataL_len] at this; omega
  subst hnn
  have HROW := Lib.hid hrow; have HROW' := Lib.hid hrow'; have HD := Lib.hid hdd; have HC := Lib.hid hcells; have HC' := Lib.hid hcells'; have HIN := Lib.hid hin; have HIN' := Lib.hid hin'
  clear hrow hrow' hdd hcells hcells' hin hin' hlen hlen'
  go_enter Try.func32, Try.ntmps32
  go_wp2
  go_loopw [5] (fun i wr => ∃ (j : Nat), j ≤ n ∧ i = .int .i64 j ∧ Grw w wr)
    (fun i _ => n - (intOf i).toNat)
  case atStart => exact ⟨0, Nat.zero_le _, rfl, Grw.refl _⟩
  case round =>
    obtain ⟨j, hj, rfl, hs⟩ := hrel
    have HS := Lib.hid hs
    clear hs
    by_cases hlt : (j : Int) < (n : Int)
    · rcases HC.out with h0 | ⟨g, off, rfl, hg, hcells⟩
      · omega
      · rcases HC'.out with h0 | ⟨g', off', rfl, hg', hcells'⟩
        · omega
        · have HCL := Lib.hid hcells; have HCL' := Lib.hid hcells'; clear hcells hcells'
          obtain ⟨a0, a1, a2, a3, a4, a5, a6, f0, f1, f2, f3, f4, f5, f6⟩ := HROW.out j (by omega)
          obtain ⟨b0, b1, b2, b3, b4, b5, b6, f0', f1', f2', f3', f4', f5', f6'⟩ := HROW'.out j (by omega)
          have hd0 := data_same HD.out f0 f0'
          have hv0 := leaf_same hd0; obtain rfl : a0 = b0 := by cases hv0; rfl
          clear hd0 hv0
          have c0 : ∀ m os, (Sort.grow (wr.drewN m) os).cell? ⟨g, off + j * 7, none⟩ = some (.string a0) := cell_grown (show g < wr.heap.size by have := HS.out.below.size; omega) (by rw [HS.out.below.cell (show g < _ by omega)]; exact HCL.out (j * 7) _ (by rw [List.getElem?_map, f0]; rfl))
          have c0' : ∀ m os, (Sort.grow (wr.drewN m) os).cell? ⟨g', off' + j * 7, none⟩ = some (.string a0) := cell_grown (show g' < wr.heap.size by have := HS.out.below.size; omega) (by rw [HS.out.below.cell (show g' < _ by omega)]; exact HCL'.out (j * 7) _ (by rw [List.getElem?_map, f0']; rfl))
          have hd1 := data_same HD.out f1 f1'
          have hv1 := leaf_same hd1; obtain rfl : a1 = b1 := by cases hv1; rfl
          clear hd1 hv1
          have c1 : ∀ m os, (Sort.grow (wr.drewN m) os).cell? ⟨g, off + j * 7 + 1, none⟩ = some (.int .i64 a1) := cell_grown (show g < wr.heap.size by have := HS.out.below.size; omega) (by rw [HS.out.below.cell (show g < _ by omega)]; rw [Nat.add_assoc]; exact HCL.out (j * 7 + 1) _ (by rw [List.getElem?_map, f1]; rfl))
          have c1' : ∀ m os, (Sort.grow (wr.drewN m) os).cell? ⟨g', off' + j * 7 + 1, none⟩ = some (.int .i64 a1) := cell_grown (show g' < wr.heap.size by have := HS.out.below.size; omega) (by rw [HS.out.below.cell (show g' < _ by omega)]; rw [Nat.add_assoc]; exact HCL'.out (j * 7 + 1) _ (by rw [List.getElem?_map, f1']; rfl))
          have hd2 := data_same HD.out f2 f2'
          have hv2 := leaf_same hd2; obtain rfl : a2 = b2 := by cases hv2; rfl
          clear hd2 hv2
          have c2 : ∀ m os, (Sort.grow (wr.drewN m) os).cell? ⟨g, off + j * 7 + 2, none⟩ = some (.int .i64 a2) := cell_grown (show g < wr.heap.size by have := HS.out.below.size; omega) (by rw [HS.out.below.cell (show g < _ by omega)]; rw [Nat.add_assoc]; exact HCL.out (j * 7 + 2) _ (by rw [List.getElem?_map, f2]; rfl))
          have c2' : ∀ m os, (Sort.grow (wr.drewN m) os).cell? ⟨g', off' + j * 7 + 2, none⟩ = some (.int .i64 a2) := cell_grown (show g' < wr.heap.size by have := HS.out.below.size; omega) (by rw [HS.out.below.cell (show g' < _ by omega)]; rw [Nat.add_assoc]; exact HCL'.out (j * 7 + 2) _ (by rw [List.getElem?_map, f2']; rfl))
          have hd3 := data_same HD.out f3 f3'
          have hv3 := leaf_same hd3; obtain rfl : a3 = b3 := by cases hv3; rfl
          clear hd3 hv3
          have c3 : ∀ m os, (Sort.grow (wr.drewN m) os).cell? ⟨g, off + j * 7 + 3, none⟩ = some (.string a3) := cell_grown (show g < wr.heap.size by have := HS.out.below.size; omega) (by rw [HS.out.below.cell (show g < _ by omega)]; rw [Nat.add_assoc]; exact HCL.out (j * 7 + 3) _ (by rw [List.getElem?_map, f3]; rfl))
          have c3' : ∀ m os, (Sort.grow (wr.drewN m) os).cell? ⟨g', off' + j * 7 + 3, none⟩ = some (.string a3) := cell_grown (show g' < wr.heap.size by have := HS.out.below.size; omega) (by rw [HS.out.below.cell (show g' < _ by omega)]; rw [Nat.add_assoc]; exact HCL'.out (j * 7 + 3) _ (by rw [List.getElem?_map, f3']; rfl))
          have hd4 := data_same HD.out f4 f4'
          have hv4 := leaf_same hd4; obtain rfl : a4 = b4 := by cases hv4; rfl
          clear hd4 hv4
          have c4 : ∀ m os, (Sort.grow (wr.drewN m) os).cell? ⟨g, off + j * 7 + 4, none⟩ = some (.int .i64 a4) := cell_grown (show g < wr.heap.size by have := HS.out.below.size; omega) (by rw [HS.out.below.cell (show g < _ by omega)]; rw [Nat.add_assoc]; exact HCL.out (j * 7 + 4) _ (by rw [List.getElem?_map, f4]; rfl))
          have c4' : ∀ m os, (Sort.grow (wr.drewN m) os).cell? ⟨g', off' + j * 7 + 4, none⟩ = some (.int .i64 a4) := cell_grown (show g' < wr.heap.size by have := HS.out.below.size; omega) (by rw [HS.out.below.cell (show g' < _ by omega)]; rw [Nat.add_assoc]; exact HCL'.out (j * 7 + 4) _ (by rw [List.getElem?_map, f4']; rfl))
          have hd5 := data_same HD.out f5 f5'
          have hv5 := leaf_same hd5; obtain rfl : a5 = b5 := by cases hv5; rfl
          clear hd5 hv5
          have c5 : ∀ m os, (Sort.grow (wr.drewN m) os).cell? ⟨g, off + j * 7 + 5, none⟩ = some (.bool a5) := cell_grown (show g < wr.heap.size by have := HS.out.below.size; omega) (by rw [HS.out.below.cell (show g < _ by omega)]; rw [Nat.add_assoc]; exact HCL.out (j * 7 + 5) _ (by rw [List.getElem?_map, f5]; rfl))
          have c5' : ∀ m os, (Sort.grow (wr.drewN m) os).cell? ⟨g', off' + j * 7 + 5, none⟩ = some (.bool a5) := cell_grown (show g' < wr.heap.size by have := HS.out.below.size; omega) (by rw [HS.out.below.cell (show g' < _ by omega)]; rw [Nat.add_assoc]; exact HCL'.out (j * 7 + 5) _ (by rw [List.getElem?_map, f5']; rfl))
          have hd6 := data_same HD.out f6 f6'
          have hv6 := leaf_same hd6; obtain rfl : a6 = b6 := by cases hv6; rfl
          clear hd6 hv6
          have c6 : ∀ m os, (Sort.grow (wr.drewN m) os).cell? ⟨g, off + j * 7 + 6, none⟩ = some (.string a6) := cell_grown (show g < wr.heap.size by have := HS.out.below.size; omega) (by rw [HS.out.below.cell (show g < _ by omega)]; rw [Nat.add_assoc]; exact HCL.out (j * 7 + 6) _ (by rw [List.getElem?_map, f6]; rfl))
          have c6' : ∀ m os, (Sort.grow (wr.drewN m) os).cell? ⟨g', off' + j * 7 + 6, none⟩ = some (.string a6) := cell_grown (show g' < wr.heap.size by have := HS.out.below.size; omega) (by rw [HS.out.below.cell (show g' < _ by omega)]; rw [Nat.add_assoc]; exact HCL'.out (j * 7 + 6) _ (by rw [List.getElem?_map, f6']; rfl))
          have HE := Lib.hid (fun (n : Nat) (os : Array Obj) => eq_File a0 a1 a2 a3 a4 a5 a6 (Sort.grow (wr.drewN n) os))
          clear f0 f0' f1 f1' f2 f2' f3 f3' f4 f4' f5 f5' f6 f6'
          go_wp2_with fail
          refine wp_region_quiet_grown mixed (by kernel_rfl) ?_
          repeat (go_big_quiet_step (first | (go_at_call 36; refine Calls.grown_of (HE.out _ _))))
          refine wpQuiet_nil ?_; intro _ hw'; obtain ⟨⟨nq, osq⟩, hw''⟩ := hw'; subst hw''
          have HG1 := Lib.hid (HS.out.trans ⟨nq, osq, rfl⟩)
          obtain ⟨w1, hw1⟩ : ∃ x, Sort.grow (wr.drewN nq) osq = x := ⟨_, rfl⟩
          rw [hw1] at HG1 ⊢; clear hw1 c0 c0' c1 c1' c2 c2' c3 c3' c4 c4' c5 c5' c6 c6'
          go_wp2_with fail
          go_roundw
          case rel => exact ⟨j + 1, by omega, by go_num, HG1.out⟩
          case measure => simp [intOf]; omega
    · have hkn : decide ((j : Int) < (n : Int)) = false := decide_eq_false hlt
      go_wp2_with fail
      go_ret
      exact ⟨rfl, HS.out⟩

def SzRg (h p : ByteArray) (left : Int) (w : World) (e : Ending) (w' : World) : Prop :=
  ∃ r : Int, e = .returned (.int .i64 r) ∧ -1 ≤ r ∧ (0 ≤ r → r + h.size + p.size = left) ∧ Grw w w'
set_option maxRecDepth 100000 in
set_option maxHeartbeats 4000000 in
theorem szR_grw (a1 a2 : Int) (a3 : ByteArray) (a4 : Int) (a5 : Bool) (a6 : ByteArray) (left : Int) (l1 : -1 ≤ left) (l2 : left ≤ 1099511627776) (w : World) (z3 : a3.size ≤ 9223372036854775807) (z6 : a6.size ≤ 9223372036854775807) :
    Calls Try.prog 37 #[.agg #[.int .i64 a1, .int .i64 a2, .string a3, .int .i64 a4, .bool a5, .string a6], .int .i64 left] w (SzRg a3 a6 left w) := by
  have HB := Lib.hid ((Grw.refl w).alloc (.cells #[.int .i64 a1, .int .i64 a2, .string a3, .int .i64 a4, .bool a5, .string a6] 62))
  by_cases c1 : left - a3.size < 0
  · go_enter Try.func37, Try.ntmps37
    go_wp2_with fail
    go_ret
    exact ⟨-1, rfl, by omega, by omega, HB.out⟩
  · by_cases c2 : left - a3.size - a6.size < 0
    · go_enter Try.func37, Try.ntmps37
      go_wp2_with fail
      go_ret
      exact ⟨-1, rfl, by omega, by omega, HB.out⟩
    · go_enter Try.func37, Try.ntmps37
      go_wp2_with fail
      go_ret
      exact ⟨left - a3.size - a6.size, rfl, by omega, by omega, HB.out⟩

def SzFile (h b p : ByteArray) (left : Int) (w : World) (e : Ending) (w' : World) : Prop :=
  ∃ r : Int, e = .returned (.int .i64 r) ∧ -1 ≤ r ∧ (0 ≤ r → r + ((h.size : Nat) + (b.size : Nat) + (p.size : Nat)) = left) ∧ Grw w w'
set_option maxRecDepth 100000 in
set_option maxHeartbeats 4000000 in
theorem sz_File (a0 : ByteArray) (a1 : Int) (a2 : Int) (a3 : ByteArray) (a4 : Int) (a5 : Bool) (a6 : ByteArray) (left : Int) (l1 : -1 ≤ left) (l2 : left ≤ 1099511627776) (w : World) (z0 : a0.size ≤ 9223372036854775807) (z3 : a3.size ≤ 9223372036854775807) (z6 : a6.size ≤ 9223372036854775807) :
    Calls Try.prog 34 #[.agg #[.string a0, .int .i64 a1, .int .i64 a2, .string a3, .int .i64 a4, .bool a5, .string a6], .int .i64 left] w (SzFile a0 a3 a6 left w) := by
  have HB := Lib.hid ((Grw.refl w).alloc (.cells #[.string a0, .int .i64 a1, .int .i64 a2, .string a3, .int .i64 a4, .bool a5, .string a6] 64))
  by_cases c1 : left - a0.size < 0
  · go_enter Try.func34, Try.ntmps34
    go_wp2_with fail
    go_ret
    exact ⟨-1, rfl, by omega, by omega, HB.out⟩
  · go_enter Try.func34, Try.ntmps34
    go_wp2_with fail
    refine (szR_grw a1 a2 a3 a4 a5 a6 _ (by omega) (by omega) _ z3 z6).mono ?_
    rintro e w1 ⟨r, rfl, h1, h2, hg⟩
    by_cases c2 : r < 0
    · go_wp2_with fail
      go_ret
      exact ⟨-1, rfl, by omega, by omega, HB.out.trans hg⟩
    · replace h2 := h2 (by omega)
      go_wp2_with fail
      go_ret
      exact ⟨r, rfl, by omega, by omega, HB.out.trans hg⟩

set_option maxRecDepth 100000 in
set_option maxHeartbeats 4000000 in
theorem sz_FileS (x : Rw) (hx : IsFileS x) (left : Int) (l1 : 0 ≤ left) (l2 : left ≤ 1099511627776) (w : World) (rx : x.ReadR w.heap.size w) (hz : x.Small) :
    Calls Try.prog 26 #[x.cell, .int .i64 left] w fun e w' => ∃ r : Int, e = .returned (.int .i64 r) ∧ -1 ≤ r ∧ (0 ≤ r → r + (x.weight : Nat) = left) ∧ Grw w w' := by
  obtain ⟨v, n, e0, cs, rfl, hrow⟩ := hx
  rw [Rw.ReadR] at rx; rw [Rw.Small] at hz; rw [Rw.cell_sl, Rw.weight]
  obtain ⟨⟨a, cap, rfl, hlen, hc1, hc2, _, hcells⟩, hin⟩ := rx
  have HROW := Lib.hid hrow; have HC := Lib.hid hcells; have HIN := Lib.hid hin; have HZ := Lib.hid (smallL_iff.1 hz); have HLEN := Lib.hid hlen
  clear hrow hcells hin hz hlen
  obtain ⟨wt, hwt⟩ : ∃ f : Nat → Nat, f = fun m => weightL (cs.take m) := ⟨_, rfl⟩
  have HWT := Lib.hid hwt; clear hwt
  by_cases h0 : left - n < 0
  · go_enter Try.func26, Try.ntmps26
    go_wp2
    go_ret
    exact ⟨-1, rfl, by omega, by omega, Grw.refl _⟩
  · go_enter Try.func26, Try.ntmps26
    go_wp2
    go_loopw [1, 5] (fun q i wr => ∃ (j : Nat) (r : Int), j ≤ n ∧ i = .int .i64 j ∧ q = .int .i64 r ∧ 0 ≤ r ∧ r + n + (wt (j * 7) : Nat) = left ∧ Grw w wr)
      (fun _ i _ => n - (intOf i).toNat)
    case atStart => exact ⟨0, left - n, Nat.zero_le _, rfl, rfl, by omega, by rw [HWT.out]; (simp [weightL]; try omega), Grw.refl _⟩
    case round =>
      obtain ⟨j, r, hj, rfl, rfl, hr0, hr1, hs⟩ := hrel
      have HS := Lib.hid hs; have HR1 := Lib.hid hr1
      have hr2 : r ≤ 1099511627776 := by omega
      clear hs hr1
      by_cases hlt : (j : Int) < (n : Int)
      · rcases HC.out with hz0 | ⟨g, off, rfl, hg, hcells⟩
        · omega
        · have HCL := Lib.hid hcells; clear hcells
          obtain ⟨a0, a1, a2, a3, a4, a5, a6, f0, f1, f2, f3, f4, f5, f6⟩ := HROW.out j (by omega)
          have c0 : wr.cell? ⟨g, off + j * 7, none⟩ = some (.string a0) := by rw [HS.out.below.cell (show g < _ by omega)]; exact HCL.out (j * 7) _ (by rw [List.getElem?_map, f0]; rfl)
          have z0 : a0.size ≤ 9223372036854775807 := by have := HZ.out _ (List.mem_of_getElem? f0); rw [Rw.Small] at this; exact this
          have hw0 : weightL (cs.take (j * 7 + 1)) = weightL (cs.take (j * 7)) + _ := weightL_more f0; rw [Rw.weight] at hw0; simp only [weightV] at hw0
          have c1 : wr.cell? ⟨g, off + j * 7 + 1, none⟩ = some (.int .i64 a1) := by rw [HS.out.below.cell (show g < _ by omega)]; rw [Nat.add_assoc]; exact HCL.out (j * 7 + 1) _ (by rw [List.getElem?_map, f1]; rfl)
          have hw1 : weightL (cs.take (j * 7 + 2)) = weightL (cs.take (j * 7 + 1)) + _ := weightL_more f1; rw [Rw.weight] at hw1; simp only [weightV] at hw1
          have c2 : wr.cell? ⟨g, off + j * 7 + 2, none⟩ = some (.int .i64 a2) := by rw [HS.out.below.cell (show g < _ by omega)]; rw [Nat.add_assoc]; exact HCL.out (j * 7 + 2) _ (by rw [List.getElem?_map, f2]; rfl)
          have hw2 : weightL (cs.take (j * 7 + 3)) = weightL (cs.take (j * 7 + 2)) + _ := weightL_more f2; rw [Rw.weight] at hw2; simp only [weightV] at hw2
          have c3 : wr.cell? ⟨g, off + j * 7 + 3, none⟩ = some (.string a3) := by rw [HS.out.below.cell (show g < _ by omega)]; rw [Nat.add_assoc]; exact HCL.out (j * 7 + 3) _ (by rw [List.getElem?_map, f3]; rfl)
          have z3 : a3.size ≤ 9223372036854775807 := by have := HZ.out _ (List.mem_of_getElem? f3); rw [Rw.Small] at this; exact this
          have hw3 : weightL (cs.take (j * 7 + 4)) = weightL (cs.take (j * 7 + 3)) + _ := weightL_more f3; rw [Rw.weight] at hw3; simp only [weightV] at hw3
          have c4 : wr.cell? ⟨g, off + j * 7 + 4, none⟩ = some (.int .i64 a4) := by rw [HS.out.below.cell (show g < _ by omega)]; rw [Nat.add_assoc]; exact HCL.out (j * 7 + 4) _ (by rw [List.getElem?_map, f4]; rfl)
          have hw4 : weightL (cs.take (j * 7 + 5)) = weightL (cs.take (j * 7 + 4)) + _ := weightL_more f4; rw [Rw.weight] at hw4; simp only [weightV] at hw4
          have c5 : wr.cell? ⟨g, off + j * 7 + 5, none⟩ = some (.bool a5) := by rw [HS.out.below.cell (show g < _ by omega)]; rw [Nat.add_assoc]; exact HCL.out (j * 7 + 5) _ (by rw [List.getElem?_map, f5]; rfl)
          have hw5 : weightL (cs.take (j * 7 + 6)) = weightL (cs.take (j * 7 + 5)) + _ := weightL_more f5; rw [Rw.weight] at hw5; simp only [weightV] at hw5
          have c6 : wr.cell? ⟨g, off + j * 7 + 6, none⟩ = some (.string a6) := by rw [HS.out.below.cell (show g < _ by omega)]; rw [Nat.add_assoc]; exact HCL.out (j * 7 + 6) _ (by rw [List.getElem?_map, f6]; rfl)
          have z6 : a6.size ≤ 9223372036854775807 := by have := HZ.out _ (List.mem_of_getElem? f6); rw [Rw.Small] at this; exact this
          have hw6 : weightL (cs.take (j * 7 + 7)) = weightL (cs.take (j * 7 + 6)) + _ := weightL_more f6; rw [Rw.weight] at hw6; simp only [weightV] at hw6
          have HW := Lib.hid (show wt ((j + 1) * 7) = wt (j * 7) + (a0.size + a3.size + a6.size) by rw [HWT.out, Nat.add_mul, Nat.one_mul]; show weightL (cs.take (j * 7 + 7)) = weightL (cs.take (j * 7)) + _; omega)
          clear hw0 hw1 hw2 hw3 hw4 hw5 hw6
          go_wp2_with fail
          refine (sz_File a0 a1 a2 a3 a4 a5 a6 r (by omega) hr2 _ z0 z3 z6).mono ?_
          rintro e w2 ⟨r2, rfl, hr3, hr4, hg2⟩
          have HG2 := Lib.hid (HS.out.trans hg2); clear hg2
          by_cases hneg : r2 < 0
          · go_wp2_with fail
            go_ret
            exact ⟨-1, rfl, by omega, by omega, HG2.out⟩
          · have hr5 := hr4 (by omega)
            clear hr4
            have HR5 := Lib.hid hr5; clear hr5
            go_wp2_with fail
            go_roundw
            case rel => exact ⟨j + 1, r2, by omega, by go_num, rfl, by omega, by rw [HW.out]; have := HR5.out; have := HR1.out; omega, HG2.out⟩
            case measure => simp [intOf]; omega
      · have hjn : j = n := by omega
        subst hjn
        have HF := Lib.hid (show wt (j * 7) = weightL cs by rw [HWT.out]; show weightL (cs.take (j * 7)) = _; rw [List.take_of_length_le (by have := HLEN.out; omega)])
        go_wp2_with fail
        go_ret
        exact ⟨r, rfl, by omega, fun _ => by have := HF.out; have := HR1.out; omega, HS.out⟩

theorem info_FileS : (Try.prog.info? 49).map (fun i => (i.zero, i.size, i.bytes)) = some (some (.agg #[.string ⟨#[]⟩, .int .i64 0, .int .i64 0, .string ⟨#[]⟩, .int .i64 0, .bool false, .string ⟨#[]⟩]), 7, 80) := by kernel_rfl
set_option maxRecDepth 100000 in
set_option maxHeartbeats 4000000 in
theorem to_FileS (x : Rw) (hx : IsFileS x) (w : World) (rx : x.ReadR w.heap.size w) (hl : x.weight ≤ 1099511627776) :
    Calls Try.prog 27 #[x.cell] w fun e w' => ∃ y : Rw, e = .returned y.cell ∧ IsFileS y ∧ y.data = x.data ∧ y.blocks.Nodup ∧ y.OwnR w.heap.size w'.heap.size w' ∧ Below w.heap.size w w' := by
  obtain ⟨i0, hi0, hz0, hz1, hz2⟩ := info_parts info_FileS
  obtain ⟨v, n, e0, cs, rfl, hrow⟩ := hx
  rw [Rw.ReadR] at rx; rw [Rw.weight] at hl; rw [Rw.cell_sl, Rw.data]
  obtain ⟨⟨a, cap, rfl, hlen, hc1, hc2, _, hcells⟩, hin⟩ := rx
  have hnl : n ≤ 1099511627776 := by omega
  have hall : ∀ c ∈ cs, c.blocks = [] ∧ c.cell.oneCell' = true ∧ c = .leaf c.cell := rows_all (K := 7) (by decide) hlen _ fun j hj t ht => by
    obtain ⟨a0, a1, a2, a3, a4, a5, a6, f0, f1, f2, f3, f4, f5, f6⟩ := hrow j hj
    rcases (show t = 0 ∨ t = 1 ∨ t = 2 ∨ t = 3 ∨ t = 4 ∨ t = 5 ∨ t = 6 by omega) with rfl | rfl | rfl | rfl | rfl | rfl | rfl
    · exact ⟨_, f0, by rw [Rw.blocks], rfl, rfl⟩
    · exact ⟨_, f1, by rw [Rw.blocks], rfl, rfl⟩
    · exact ⟨_, f2, by rw [Rw.blocks], rfl, rfl⟩
    · exact ⟨_, f3, by rw [Rw.blocks], rfl, rfl⟩
    · exact ⟨_, f4, by rw [Rw.blocks], rfl, rfl⟩
    · exact ⟨_, f5, by rw [Rw.blocks], rfl, rfl⟩
    · exact ⟨_, f6, by rw [Rw.blocks], rfl, rfl⟩
  have HROW := Lib.hid hrow; have HC := Lib.hid hcells; have HLEN := Lib.hid hlen; have HI := Lib.hid hz2; have HALL := Lib.hid hall
  clear hrow hcells hin hlen hz2 hall hl
  go_enter Try.func27, Try.ntmps27
  go_wp2_with (at_make; refine wpList_make_full _ rfl _ _ 45 rfl w.heap.size 49 i0 (.agg #[.string ⟨#[]⟩, .int .i64 0, .int .i64 0, .string ⟨#[]⟩, .int .i64 0, .bool false, .string ⟨#[]⟩]) 7 Try.underlying45 hi0 hz0 hz1 .i64 .i64 _ _ n rfl rfl rfl rfl ?c1 ?c2 (Nat.le_refl _) ?_)
  case c1 => rw [HI.out]; omega
  case c2 => unfold maxLen; omega
  intro w1 hown1 hgr1
  have hb1 : Below w.heap.size w w1 := (Below.refl _ _).grown hgr1 (Nat.le_refl _) (fun k h => by cases h)
  have HO1 := Lib.hid hown1; have HB1 := Lib.hid hb1; clear hown1 hgr1 hb1
  go_wp2
  go_loopw [4] (fun i wr => ∃ (j : Nat) (us : List Value), j ≤ n ∧ i = .int .i64 j ∧ wr.ownsRow w.heap.size 49 7 (.slice (some ⟨w.heap.size, 0, none⟩) n n) n us ∧ (∀ i, i < j * 7 → us[i]? = (cs.map Rw.cell)[i]?) ∧ Below w.heap.size w wr)
    (fun i _ => n - (intOf i).toNat)
  case atStart => exact ⟨0, _, Nat.zero_le _, rfl, HO1.out, fun i hi => by omega, HB1.out⟩
  case round =>
    obtain ⟨j, us, hj, rfl, hown, hup, hbw⟩ := hrel
    have HO := Lib.hid hown; have HU := Lib.hid hup; have HB := Lib.hid hbw
    clear hown hup hbw HO1 HB1
    by_cases hlt : (j : Int) < (n : Int)
    · rcases HC.out with h0 | ⟨g, off, rfl, hg, hcells⟩
      · omega
      · have HCL := Lib.hid hcells; clear hcells
        obtain ⟨a0, a1, a2, a3, a4, a5, a6, f0, f1, f2, f3, f4, f5, f6⟩ := HROW.out j (by omega)
        have c0 : wr.cell? ⟨g, off + j * 7, none⟩ = some (.string a0) := by rw [HB.out.cell (show g < _ by omega)]; exact HCL.out (j * 7) _ (by rw [List.getElem?_map, f0]; rfl)
        have HM0 := Lib.hid (show (cs.map Rw.cell)[j * 7]? = some (.string a0) by rw [List.getElem?_map, f0]; rfl)
        have c1 : wr.cell? ⟨g, off + j * 7 + 1, none⟩ = some (.int .i64 a1) := by rw [HB.out.cell (show g < _ by omega)]; rw [Nat.add_assoc]; exact HCL.out (j * 7 + 1) _ (by rw [List.getElem?_map, f1]; rfl)
        have HM1 := Lib.hid (show (cs.map Rw.cell)[j * 7 + 1]? = some (.int .i64 a1) by rw [List.getElem?_map, f1]; rfl)
        have c2 : wr.cell? ⟨g, off + j * 7 + 2, none⟩ = some (.int .i64 a2) := by rw [HB.out.cell (show g < _ by omega)]; rw [Nat.add_assoc]; exact HCL.out (j * 7 + 2) _ (by rw [List.getElem?_map, f2]; rfl)
        have HM2 := Lib.hid (show (cs.map Rw.cell)[j * 7 + 2]? = some (.int .i64 a2) by rw [List.getElem?_map, f2]; rfl)
        have c3 : wr.cell? ⟨g, off + j * 7 + 3, none⟩ = some (.string a3) := by rw [HB.out.cell (show g < _ by omega)]; rw [Nat.add_assoc]; exact HCL.out (j * 7 + 3) _ (by rw [List.getElem?_map, f3]; rfl)
        have HM3 := Lib.hid (show (cs.map Rw.cell)[j * 7 + 3]? = some (.string a3) by rw [List.getElem?_map, f3]; rfl)
        have c4 : wr.cell? ⟨g, off + j * 7 + 4, none⟩ = some (.int .i64 a4) := by rw [HB.out.cell (show g < _ by omega)]; rw [Nat.add_assoc]; exact HCL.out (j * 7 + 4) _ (by rw [List.getElem?_map, f4]; rfl)
        have HM4 := Lib.hid (show (cs.map Rw.cell)[j * 7 + 4]? = some (.int .i64 a4) by rw [List.getElem?_map, f4]; rfl)
        have c5 : wr.cell? ⟨g, off + j * 7 + 5, none⟩ = some (.bool a5) := by rw [HB.out.cell (show g < _ by omega)]; rw [Nat.add_assoc]; exact HCL.out (j * 7 + 5) _ (by rw [List.getElem?_map, f5]; rfl)
        have HM5 := Lib.hid (show (cs.map Rw.cell)[j * 7 + 5]? = some (.bool a5) by rw [List.getElem?_map, f5]; rfl)
        have c6 : wr.cell? ⟨g, off + j * 7 + 6, none⟩ = some (.string a6) := by rw [HB.out.cell (show g < _ by omega)]; rw [Nat.add_assoc]; exact HCL.out (j * 7 + 6) _ (by rw [List.getElem?_map, f6]; rfl)
        have HM6 := Lib.hid (show (cs.map Rw.cell)[j * 7 + 6]? = some (.string a6) by rw [List.getElem?_map, f6]; rfl)
        clear f0 f1 f2 f3 f4 f5 f6
        go_wp2_with fail
        refine (to_File a0 a1 a2 a3 a4 a5 a6 _).mono ?_
        rintro e w2 ⟨rfl, hg2⟩
        have hb2 := hg2.below
        have hown2 := ownsRow_only HO.out (OnlyB.of_below hb2 []) (fun _ _ hm => by cases hm)
        have hxl : us.length = n * 7 := HO.out.1
        obtain ⟨u0, hu0⟩ : ∃ u, us[j * 7]? = some u := ⟨_, List.getElem?_eq_getElem (by omega)⟩
        have d0 : w2.cell? ⟨w.heap.size, j * 7, none⟩ = some u0 := by rw [hown2.cellAt (j * 7) (by omega)]; exact hu0
        have z0 : w2.frozen? ⟨w.heap.size, j * 7, none⟩ = false := hown2.frozenAt _
        obtain ⟨u1, hu1⟩ : ∃ u, us[j * 7 + 1]? = some u := ⟨_, List.getElem?_eq_getElem (by omega)⟩
        have d1 : w2.cell? ⟨w.heap.size, j * 7 + 1, none⟩ = some u1 := by rw [hown2.cellAt (j * 7 + 1) (by omega)]; exact hu1
        have z1 : w2.frozen? ⟨w.heap.size, j * 7 + 1, none⟩ = false := hown2.frozenAt _
        obtain ⟨u2, hu2⟩ : ∃ u, us[j * 7 + 2]? = some u := ⟨_, List.getElem?_eq_getElem (by omega)⟩
        have d2 : w2.cell? ⟨w.heap.size, j * 7 + 2, none⟩ = some u2 := by rw [hown2.cellAt (j * 7 + 2) (by omega)]; exact hu2
        have z2 : w2.frozen? ⟨w.heap.size, j * 7 + 2, none⟩ = false := hown2.frozenAt _
        obtain ⟨u3, hu3⟩ : ∃ u, us[j * 7 + 3]? = some u := ⟨_, List.getElem?_eq_getElem (by omega)⟩
        have d3 : w2.cell? ⟨w.heap.size, j * 7 + 3, none⟩ = some u3 := by rw [hown2.cellAt (j * 7 + 3) (by omega)]; exact hu3
        have z3 : w2.frozen? ⟨w.heap.size, j * 7 + 3, none⟩ = false := hown2.frozenAt _
        obtain ⟨u4, hu4⟩ : ∃ u, us[j * 7 + 4]? = some u := ⟨_, List.getElem?_eq_getElem (by omega)⟩
        have d4 : w2.cell? ⟨w.heap.size, j * 7 + 4, none⟩ = some u4 := by rw [hown2.cellAt (j * 7 + 4) (by omega)]; exact hu4
        have z4 : w2.frozen? ⟨w.heap.size, j * 7 + 4, none⟩ = false := hown2.frozenAt _
        obtain ⟨u5, hu5⟩ : ∃ u, us[j * 7 + 5]? = some u := ⟨_, List.getElem?_eq_getElem (by omega)⟩
        have d5 : w2.cell? ⟨w.heap.size, j * 7 + 5, none⟩ = some u5 := by rw [hown2.cellAt (j * 7 + 5) (by omega)]; exact hu5
        have z5 : w2.frozen? ⟨w.heap.size, j * 7 + 5, none⟩ = false := hown2.frozenAt _
        obtain ⟨u6, hu6⟩ : ∃ u, us[j * 7 + 6]? = some u := ⟨_, List.getElem?_eq_getElem (by omega)⟩
        have d6 : w2.cell? ⟨w.heap.size, j * 7 + 6, none⟩ = some u6 := by rw [hown2.cellAt (j * 7 + 6) (by omega)]; exact hu6
        have z6 : w2.frozen? ⟨w.heap.size, j * 7 + 6, none⟩ = false := hown2.frozenAt _
        have HO2 := Lib.hid hown2; have HX := Lib.hid hxl
        have HB2 := Lib.hid (HB.out.trans (hb2.mono HB.out.size))
        clear hu0 hu1 hu2 hu3 hu4 hu5 hu6 hown2 hb2 hg2 hxl
        go_wp2
        go_roundw
        case rel =>
          refine ⟨j + 1, _, by omega, by go_num, (((((((HO2.out.stored _ _).1.stored _ _).1.stored _ _).1.stored _ _).1.stored _ _).1.stored _ _).1.stored _ _).1, fun i hi => ?_, (((((((HB2.out.setCell (Nat.le_refl _) _).setCell (Nat.le_refl _) _).setCell (Nat.le_refl _) _).setCell (Nat.le_refl _) _).setCell (Nat.le_refl _) _).setCell (Nat.le_refl _) _).setCell (Nat.le_refl _) _)⟩
          have hxl := HX.out
          by_cases i6 : i = j * 7 + 6
          · rw [i6, List.getElem?_set_self (by first | omega | (simp only [List.length_set]; omega))]; exact HM6.out.symm
          by_cases i5 : i = j * 7 + 5
          · rw [i5, List.getElem?_set_ne (by omega), List.getElem?_set_self (by first | omega | (simp only [List.length_set]; omega))]; exact HM5.out.symm
          by_cases i4 : i = j * 7 + 4
          · rw [i4, List.getElem?_set_ne (by omega), List.getElem?_set_ne (by omega), List.getElem?_set_self (by first | omega | (simp only [List.length_set]; omega))]; exact HM4.out.symm
          by_cases i3 : i = j * 7 + 3
          · rw [i3, List.getElem?_set_ne (by omega), List.getElem?_set_ne (by omega), List.getElem?_set_ne (by omega), List.getElem?_set_self (by first | omega | (simp only [List.length_set]; omega))]; exact HM3.out.symm
          by_cases i2 : i = j * 7 + 2
          · rw [i2, List.getElem?_set_ne (by omega), List.getElem?_set_ne (by omega), List.getElem?_set_ne (by omega), List.getElem?_set_ne (by omega), List.getElem?_set_self (by first | omega | (simp only [List.length_set]; omega))]; exact HM2.out.symm
          by_cases i1 : i = j * 7 + 1
          · rw [i1, List.getElem?_set_ne (by omega), List.getElem?_set_ne (by omega), List.getElem?_set_ne (by omega), List.getElem?_set_ne (by omega), List.getElem?_set_ne (by omega), List.getElem?_set_self (by first | omega | (simp only [List.length_set]; omega))]; exact HM1.out.symm
          by_cases i0 : i = j * 7
          · rw [i0, List.getElem?_set_ne (by omega), List.getElem?_set_ne (by omega), List.getElem?_set_ne (by omega), List.getElem?_set_ne (by omega), List.getElem?_set_ne (by omega), List.getElem?_set_ne (by omega), List.getElem?_set_self (by first | omega | (simp only [List.length_set]; omega))]; exact HM0.out.symm
          rw [List.getElem?_set_ne (by omega), List.getElem?_set_ne (by omega), List.getElem?_set_ne (by omega), List.getElem?_set_ne (by omega), List.getElem?_set_ne (by omega), List.getElem?_set_ne (by omega), List.getElem?_set_ne (by omega)]; exact HU.out i (by omega)
        case measure => simp [intOf]; omega
    · have hjn : j = n := by omega
      subst hjn
      have hus : us = cs.map Rw.cell := by
        apply List.ext_getElem?
        intro i
        by_cases hi : i < j * 7
        · exact HU.out i hi
        · rw [List.getElem?_eq_none (by have := HO.out.1; omega), List.getElem?_eq_none (by rw [List.length_map]; have := HLEN.out; omega)]
      have HF := Lib.hid hus; clear hus
      have hbn := blocksL_nil fun c hc => (HALL.out c hc).1
      have HBN := Lib.hid hbn; clear hbn
      go_wp2
      go_ret
      refine ⟨.sl (.slice (some ⟨w.heap.size, 0, none⟩) j j) j 7 49 cs, rfl, ⟨_, _, _, _, rfl, HROW.out⟩, by rw [Rw.data], ?_, ?_, HB.out⟩
      · rw [Rw.blocks, HBN.out]; simp [Value.ownBlock]
      · rw [Rw.OwnR]
        refine ⟨⟨by rw [← HF.out]; exact HO.out, fun g hg => (HO.out.lt g hg).2⟩, ownRL_iff.2 fun c hc => ?_⟩
        obtain ⟨_, h2, h3⟩ := HALL.out c hc
        rw [h3, Rw.OwnR]; exact h2
end Go.Proofs.Ytpkicliimhflgaa
