/- Helper contracts over the functions with which the laws copy, compare, measure and mark slices, by program (deep.py). Asked: what lies in memory is as named. Helper contracts over the functions with which the laws copy, compare, mark and look again at slices of bytes. Asked: the slices read as the lists named. Helper contracts over the functions with which the laws copy, compare, mark and look again at slices of integers. Asked: the slices read as the lists named. More on data with slices in slices: lists of them (a struct's slices), an own slice put into a cell, new slices of zero cells, boxes. No claim of its own. Helper contracts over the functions with which the laws copy, compare, measure and mark slices, by program (deep.py). Asked: what lies in memory is as named. Strings as elements of slices; a new slice of the call's own. Helper facts, no claim of its own. Slices whose elements are plain structs (no slice among their cells), for any such struct: what it means that a slice value reads as a list of them, as data. Helper facts, no claim of its own. Helper contracts over the functions with which the laws copy, compare, measure and mark slices, by program (deep.py). Asked: what lies in memory is as named. -/
import Derived.Test.YtpkicliimhflgaaMa1
import Derived.Shelf.SlSortCmp.QuietGrown
import Derived.Laws.MakeOwn
namespace Go.Proofs.Ytpkicliimhflgaa

open Go.ChangeShapes Go.WideShapes Go.ChangeAt Go.RowKit

theorem mod3 (q : Nat) : (((q : Int) % 3 : Int) == 0) = decide (q % 3 = 0) := by
  by_cases h : q % 3 = 0
  · rw [decide_eq_true h]; exact beq_iff_eq.2 (by omega)
  · rw [decide_eq_false h]; exact beq_eq_false_iff_ne.2 (by omega)
theorem tmod3 (q : Nat) : ((Int.tmod (q : Int) 3 : Int) == 0) = decide (q % 3 = 0) := by
  rw [Int.tmod_eq_emod_of_nonneg (by omega)]; exact mod3 q
theorem grw_setC {a b : World} (h : Grw a b) {c o : Nat} (hp : a.heap.size ≤ c) (u : Value) : Grw a (b.setCell ⟨c, o, none⟩ u) := by
  obtain ⟨q, os, rfl⟩ := h
  refine ⟨q, os.modify (c - a.heap.size) fun | .cells c' elem frozen => .cells (if (none : Option Bool).isSome then c' else c'.setIfInBounds o u) elem frozen | x => x, ?_⟩
  unfold World.setCell Sort.grow
  congr 1
  apply Array.ext
  · simp
  · intro i h1 h2
    have hs : (a.drewN q).heap.size = a.heap.size := rfl
    rw [Array.getElem_modify]
    change (if c = i then _ else _) = _
    by_cases hi : i < a.heap.size
    · rw [if_neg (by omega), Array.getElem_append_left (by rw [hs]; exact hi), Array.getElem_append_left (by rw [hs]; exact hi)]
    · rw [Array.getElem_append_right (by rw [hs]; omega), Array.getElem_append_right (by rw [hs]; omega), Array.getElem_modify]
      by_cases hc : c = i
      · rw [if_pos hc, if_pos (by rw [hs]; omega)]; rfl
      · rw [if_neg hc, if_neg (by rw [hs]; omega)]

set_option maxRecDepth 100000 in
set_option maxHeartbeats 4000000 in
theorem toR_lit (a1 a2 : Int) (a3 : ByteArray) (a4 : Int) (a5 : Bool) (a6 : ByteArray) (w : World) :
    Calls Try.prog 38 #[.agg #[.int .i64 a1, .int .i64 a2, .string a3, .int .i64 a4, .bool a5, .string a6]] w fun e w' => e = .returned (.agg #[.int .i64 a1, .int .i64 a2, .string a3, .int .i64 a4, .bool a5, .string a6]) ∧ w' = ((w.alloc (.cells #[.int .i64 a1, .int .i64 a2, .string a3, .int .i64 a4, .bool a5, .string a6] 62)).alloc (.cells #[.int .i64 a1, .int .i64 a2, .string a3, .int .i64 a4, .bool a5, .string a6] 28)).alloc (.cells #[.int .i64 a1, .int .i64 a2, .string a3, .int .i64 a4, .bool a5, .string a6] 28) := by
  go_enter Try.func38, Try.ntmps38
  go_wp2_with fail
  refine bodyPost_ret (v := .agg #[.int .i64 a1, .int .i64 a2, .string a3, .int .i64 a4, .bool a5, .string a6]) (by simp [results, Try.results38, go_sem]) rfl ⟨rfl, ?_⟩
  rfl

/-- What a slice of this type holds. -/
def IsFileS (x : Rw) : Prop := ∃ v n e cs, x = .sl v n 7 e cs ∧ ∀ j, j < n → ∃ (a0 : ByteArray) (a1 : Int) (a2 : Int) (a3 : ByteArray) (a4 : Int) (a5 : Bool) (a6 : ByteArray), cs[j * 7]? = some (.leaf (.string a0)) ∧ cs[j * 7 + 1]? = some (.leaf (.int .i64 a1)) ∧ cs[j * 7 + 2]? = some (.leaf (.int .i64 a2)) ∧ cs[j * 7 + 3]? = some (.leaf (.string a3)) ∧ cs[j * 7 + 4]? = some (.leaf (.int .i64 a4)) ∧ cs[j * 7 + 5]? = some (.leaf (.bool a5)) ∧ cs[j * 7 + 6]? = some (.leaf (.string a6))
theorem is_sl_FileS {x : Rw} (h : IsFileS x) : ∃ v n k e cs, x = .sl v n k e cs := by
  obtain ⟨v, n, e, cs, rfl, _⟩ := h
  exact ⟨v, n, _, e, cs, rfl⟩

set_option maxRecDepth 100000 in
set_option maxHeartbeats 4000000 in
theorem eq_File (a0 : ByteArray) (a1 : Int) (a2 : Int) (a3 : ByteArray) (a4 : Int) (a5 : Bool) (a6 : ByteArray) (w : World) :
    Calls Try.prog 36 #[.agg #[.string a0, .int .i64 a1, .int .i64 a2, .string a3, .int .i64 a4, .bool a5, .string a6], .agg #[.string a0, .int .i64 a1, .int .i64 a2, .string a3, .int .i64 a4, .bool a5, .string a6]] w fun e w' => e = .returned (.bool true) ∧ Grw w w' := by
  have e0 : (a0.toList == a0.toList) = true := beqL_yes rfl
  have HG := Lib.hid (((Grw.refl w).alloc (.cells #[.string a0, .int .i64 a1, .int .i64 a2, .string a3, .int .i64 a4, .bool a5, .string a6] 49)).alloc (.cells #[.string a0, .int .i64 a1, .int .i64 a2, .string a3, .int .i64 a4, .bool a5, .string a6] 49))
  go_enter Try.func36, Try.ntmps36
  go_wp2_with fail
  refine (eqR_self a1 a2 a3 a4 a5 a6 _).mono ?_
  rintro e w1 ⟨rfl, hg1⟩
  go_wp2_with fail
  go_ret
  exact ⟨rfl, HG.out.trans hg1⟩

set_option maxRecDepth 100000 in
set_option maxHeartbeats 4000000 in
theorem to_File (a0 : ByteArray) (a1 : Int) (a2 : Int) (a3 : ByteArray) (a4 : Int) (a5 : Bool) (a6 : ByteArray) (w : World) :
    Calls Try.prog 35 #[.agg #[.string a0, .int .i64 a1, .int .i64 a2, .string a3, .int .i64 a4, .bool a5, .string a6]] w fun e w' => e = .returned (.agg #[.string a0, .int .i64 a1, .int .i64 a2, .string a3, .int .i64 a4, .bool a5, .string a6]) ∧ Grw w w' := by
  go_enter Try.func35, Try.ntmps35
  go_wp2_with fail
  refine (toR_lit a1 a2 a3 a4 a5 a6 _).mono ?_
  rintro e w1 ⟨rfl, rfl⟩
  go_wp2_with fail
  refine bodyPost_ret (v := .agg #[.string a0, .int .i64 a1, .int .i64 a2, .string a3, .int .i64 a4, .bool a5, .string a6]) (by simp [results, Try.results35, go_sem]) rfl ⟨rfl, ?_⟩
  repeat' (first | (with_reducible exact Grw.refl _) | (with_reducible refine Grw.alloc ?_ _) | (refine grw_setC ?_ (by omega) _))

set_option maxRecDepth 100000 in
set_option maxHeartbeats 4000000 in
theorem eq_FileS (x y : Rw) (hx : IsFileS x) (hy : IsFileS y) (hd : x.data = y.data) (w : World) (rx : x.ReadR w.heap.size w) (ry : y.ReadR w.heap.size w) :
    Calls Try.prog 32 #[x.cell, y.cell] w fun e w' => e = .returned (.bool true) ∧ Grw w w' := by
  have mixed : Try.prog.follows .mixedOrders = true := by kernel_rfl
  obtain ⟨v, n, e0, cs, rfl, hrow⟩ := hx
  obtain ⟨v', n', e0', cs', rfl, hrow'⟩ := hy
  rw [Rw.data, Rw.data] at hd
  have hdd := (Dt.sl.inj hd).2; clear hd
  rw [Rw.ReadR] at rx ry
  rw [Rw.cell_sl, Rw.cell_sl]
  obtain ⟨⟨a, cap, rfl, hlen, hc1, hc2, _, hcells⟩, hin⟩ := rx
  obtain ⟨⟨a', cap', rfl, hlen', hc1', hc2', _, hcells'⟩, hin'⟩ := ry
  have hnn : n = n' := by have := congrArg List.length hdd; rw [dataL_len, dataL_len] at this; omega
  subst hnn
  have HROW := Lib.hid hrow; have HROW' := Lib.hid hrow'; have HD := Lib.hid hdd; have HC := Lib.hid hcells; have HC' := Lib.hid hcells'; have HIN := Lib.hid hin; have HIN' := Lib.hid hin'
  clear hrow hrow' hdd hcells hcells' hin hin' hlen hlen'
  go_enter Try.func32, Try.ntmps32
  go_wp2
  go_loopw [5] (fun i wr => ∃ (j : Nat), j ≤ n ∧ i = .int .i64 j ∧ Grw w wr)
    (fun i _ => n - (intOf i).toNat)
  case atStart => exact ⟨0, Nat.zero_le _, rfl, Grw.refl _⟩
  case round =>
    obtain ⟨j, hj, rfl, hs⟩ := hrel
    have HS := Lib.hid hs
    clear hs
    by_cases hlt : (j : Int) < (n : Int)
    · rcases HC.out with h0 | ⟨g, off, rfl, hg, hcells⟩
      · omega
      · rcases HC'.out with h0 | ⟨g', off', rfl, hg', hcells'⟩
        · omega
        · have HCL := Lib.hid hcells; have HCL' := Lib.hid hcells'; clear hcells hcells'
          obtain ⟨a0, a1, a2, a3, a4, a5, a6, f0, f1, f2, f3, f4, f5, f6⟩ := HROW.out j (by omega)
          obtain ⟨b0, b1, b2, b3, b4, b5, b6, f0', f1', f2', f3', f4', f5', f6'⟩ := HROW'.out j (by omega)
          have hd0 := data_same HD.out f0 f0'
          have hv0 := leaf_same hd0; obtain rfl : a0 = b0 := by cases hv0; rfl
          clear hd0 hv0
          have c0 : ∀ m os, (Sort.grow (wr.drewN m) os).cell? ⟨g, off + j * 7, none⟩ = some (.string a0) := cell_grown (show g < wr.heap.size by have := HS.out.below.size; omega) (by rw [HS.out.below.cell (show g < _ by omega)]; exact HCL.out (j * 7) _ (by rw [List.getElem?_map, f0]; rfl))
          have c0' : ∀ m os, (Sort.grow (wr.drewN m) os).cell? ⟨g', off' + j * 7, none⟩ = some (.string a0) := cell_grown (show g' < wr.heap.size by have := HS.out.below.size; omega) (by rw [HS.out.below.cell (show g' < _ by omega)]; exact HCL'.out (j * 7) _ (by rw [List.getElem?_map, f0']; rfl))
          have hd1 := data_same HD.out f1 f1'
          have hv1 := leaf_same hd1; obtain rfl : a1 = b1 := by cases hv1; rfl
          clear hd1 hv1
          have c1 : ∀ m os, (Sort.grow (wr.drewN m) os).cell? ⟨g, off + j * 7 + 1, none⟩ = some (.int .i64 a1) := cell_grown (show g < wr.heap.size by have := HS.out.below.size; omega) (by rw [HS.out.below.cell (show g < _ by omega)]; rw [Nat.add_assoc]; exact HCL.out (j * 7 + 1) _ (by rw [List.getElem?_map, f1]; rfl))
          have c1' : ∀ m os, (Sort.grow (wr.drewN m) os).cell? ⟨g', off' + j * 7 + 1, none⟩ = some (.int .i64 a1) := cell_grown (show g' < wr.heap.size by have := HS.out.below.size; omega) (by rw [HS.out.below.cell (show g' < _ by omega)]; rw [Nat.add_assoc]; exact HCL'.out (j * 7 + 1) _ (by rw [List.getElem?_map, f1']; rfl))
          have hd2 := data_same HD.out f2 f2'
          have hv2 := leaf_same hd2; obtain rfl : a2 = b2 := by cases hv2; rfl
          clear hd2 hv2
          have c2 : ∀ m os, (Sort.grow (wr.drewN m) os).cell? ⟨g, off + j * 7 + 2, none⟩ = some (.int .i64 a2) := cell_grown (show g < wr.heap.size by have := HS.out.below.size; omega) (by rw [HS.out.below.cell (show g < _ by omega)]; rw [Nat.add_assoc]; exact HCL.out (j * 7 + 2) _ (by rw [List.getElem?_map, f2]; rfl))
          have c2' : ∀ m os, (Sort.grow (wr.drewN m) os).cell? ⟨g', off' + j * 7 + 2, none⟩ = some (.int .i64 a2) := cell_grown (show g' < wr.heap.size by have := HS.out.below.size; omega) (by rw [HS.out.below.cell (show g' < _ by omega)]; rw [Nat.add_assoc]; exact HCL'.out (j * 7 + 2) _ (by rw [List.getElem?_map, f2']; rfl))
          have hd3 := data_same HD.out f3 f3'
          have hv3 := leaf_same hd3; obtain rfl : a3 = b3 := by cases hv3; rfl
          clear hd3 hv3
          have c3 : ∀ m os, (Sort.grow (wr.drewN m) os).cell? ⟨g, off + j * 7 + 3, none⟩ = some (.string a3) := cell_grown (show g < wr.heap.size by have := HS.out.below.size; omega) (by rw [HS.out.below.cell (show g < _ by omega)]; rw [Nat.add_assoc]; exact HCL.out (j * 7 + 3) _ (by rw [List.getElem?_map, f3]; rfl))
          have c3' : ∀ m os, (Sort.grow (wr.drewN m) os).cell? ⟨g', off' + j * 7 + 3, none⟩ = some (.string a3) := cell_grown (show g' < wr.heap.size by have := HS.out.below.size; omega) (by rw [HS.out.below.cell (show g' < _ by omega)]; rw [Nat.add_assoc]; exact HCL'.out (j * 7 + 3) _ (by rw [List.getElem?_map, f3']; rfl))
          have hd4 := data_same HD.out f4 f4'
          have hv4 := leaf_same hd4; obtain rfl : a4 = b4 := by cases hv4; rfl
          clear hd4 hv4
          have c4 : ∀ m os, (Sort.grow (wr.drewN m) os).cell? ⟨g, off + j * 7 + 4, none⟩ = some (.int .i64 a4) := cell_grown (show g < wr.heap.size by have := HS.out.below.size; omega) (by rw [HS.out.below.cell (show g < _ by omega)]; rw [Nat.add_assoc]; exact HCL.out (j * 7 + 4) _ (by rw [List.getElem?_map, f4]; rfl))
          have c4' : ∀ m os, (Sort.grow (wr.drewN m) os).cell? ⟨g', off' + j * 7 + 4, none⟩ = some (.int .i64 a4) := cell_grown (show g' < wr.heap.size by have := HS.out.below.size; omega) (by rw [HS.out.below.cell (show g' < _ by omega)]; rw [Nat.add_assoc]; exact HCL'.out (j * 7 + 4) _ (by rw [List.getElem?_map, f4']; rfl))
          have hd5 := data_same HD.out f5 f5'
          have hv5 := leaf_same hd5; obtain rfl : a5 = b5 := by cases hv5; rfl
          clear hd5 hv5
          have c5 : ∀ m os, (Sort.grow (wr.drewN m) os).cell? ⟨g, off + j * 7 + 5, none⟩ = some (.bool a5) := cell_grown (show g < wr.heap.size by have := HS.out.below.size; omega) (by rw [HS.out.below.cell (show g < _ by omega)]; rw [Nat.add_assoc]; exact HCL.out (j * 7 + 5) _ (by rw [List.getElem?_map, f5]; rfl))
          have c5' : ∀ m os, (Sort.grow (wr.drewN m) os).cell? ⟨g', off' + j * 7 + 5, none⟩ = some (.bool a5) := cell_grown (show g' < wr.heap.size by have := HS.out.below.size; omega) (by rw [HS.out.below.cell (show g' < _ by omega)]; rw [Nat.add_assoc]; exact HCL'.out (j * 7 + 5) _ (by rw [List.getElem?_map, f5']; rfl))
          have hd6 := data_same HD.out f6 f6'
          have hv6 := leaf_same hd6; obtain rfl : a6 = b6 := by cases hv6; rfl
          clear hd6 hv6
          have c6 : ∀ m os, (Sort.grow (wr.drewN m) os).cell? ⟨g, off + j * 7 + 6, none⟩ = some (.string a6) := cell_grown (show g < wr.heap.size by have := HS.out.below.size; omega) (by rw [HS.out.below.cell (show g < _ by omega)]; rw [Nat.add_assoc]; exact HCL.out (j * 7 + 6) _ (by rw [List.getElem?_map, f6]; rfl))
          have c6' : ∀ m os, (Sort.grow (wr.drewN m) os).cell? ⟨g', off' + j * 7 + 6, none⟩ = some (.string a6) := cell_grown (show g' < wr.heap.size by have := HS.out.below.size; omega) (by rw [HS.out.below.cell (show g' < _ by omega)]; rw [Nat.add_assoc]; exact HCL'.out (j * 7 + 6) _ (by rw [List.getElem?_map, f6']; rfl))
          have HE := Lib.hid (fun (n : Nat) (os : Array Obj) => eq_File a0 a1 a2 a3 a4 a5 a6 (Sort.grow (wr.drewN n) os))
          clear f0 f0' f1 f1' f2 f2' f3 f3' f4 f4' f5 f5' f6 f6'
          go_wp2_with fail
          refine wp_region_quiet_grown mixed (by kernel_rfl) ?_
          repeat (go_big_quiet_step (first | (go_at_call 36; refine Calls.grown_of (HE.out _ _))))
          refine wpQuiet_nil ?_; intro _ hw'; obtain ⟨⟨nq, osq⟩, hw''⟩ := hw'; subst hw''
          have HG1 := Lib.hid (HS.out.trans ⟨nq, osq, rfl⟩)
          obtain ⟨w1, hw1⟩ : ∃ x, Sort.grow (wr.drewN nq) osq = x := ⟨_, rfl⟩
          rw [hw1] at HG1 ⊢; clear hw1 c0 c0' c1 c1' c2 c2' c3 c3' c4 c4' c5 c5' c6 c6'
          go_wp2_with fail
          go_roundw
          case rel => exact ⟨j + 1, by omega, by go_num, HG1.out⟩
          case measure => simp [intOf]; omega
    · have hkn : decide ((j : Int) < (n : Int)) = false := decide_eq_false hlt
      go_wp2_with fail
      go_ret
      exact ⟨rfl, HS.out⟩

def SzRg (h p : ByteArray) (left : Int) (w : World) (e : Ending) (w' : World) : Prop :=
  ∃ r : Int, e = .returned (.int .i64 r) ∧ -1 ≤ r ∧ (0 ≤ r → r + h.size + p.size = left) ∧ Grw w w'
set_option maxRecDepth 100000 in
set_option maxHeartbeats 4000000 in
theorem szR_grw (a1 a2 : Int) (a3 : ByteArray) (a4 : Int) (a5 : Bool) (a6 : ByteArray) (left : Int) (l1 : -1 ≤ left) (l2 : left ≤ 1099511627776) (w : World) (z3 : a3.size ≤ 9223372036854775807) (z6 : a6.size ≤ 9223372036854775807) :
    Calls Try.prog 37 #[.agg #[.int .i64 a1, .int .i64 a2, .string a3, .int .i64 a4, .bool a5, .string a6], .int .i64 left] w (SzRg a3 a6 left w) := by
  have HB := Lib.hid ((Grw.refl w).alloc (.cells #[.int .i64 a1, .int .i64 a2, .string a3, .int .i64 a4, .bool a5, .string a6] 62))
  by_cases c1 : left - a3.size < 0
  · go_enter Try.func37, Try.ntmps37
    go_wp2_with fail
    go_ret
    exact ⟨-1, rfl, by omega, by omega, HB.out⟩
  · by_cases c2 : left - a3.size - a6.size < 0
    · go_enter Try.func37, Try.ntmps37
      go_wp2_with fail
      go_ret
      exact ⟨-1, rfl, by omega, by omega, HB.out⟩
    · go_enter Try.func37, Try.ntmps37
      go_wp2_with fail
      go_ret
      exact ⟨left - a3.size - a6.size, rfl, by omega, by omega, HB.out⟩

def SzFile (h b p : ByteArray) (left : Int) (w : World) (e : Ending) (w' : World) : Prop :=
  ∃ r : Int, e = .returned (.int .i64 r) ∧ -1 ≤ r ∧ (0 ≤ r → r + ((h.size : Nat) + (b.size : Nat) + (p.size : Nat)) = left) ∧ Grw w w'
set_option maxRecDepth 100000 in
set_option maxHeartbeats 4000000 in
theorem sz_File (a0 : ByteArray) (a1 : Int) (a2 : Int) (a3 : ByteArray) (a4 : Int) (a5 : Bool) (a6 : ByteArray) (left : Int) (l1 : -1 ≤ left) (l2 : left ≤ 1099511627776) (w : World) (z0 : a0.size ≤ 9223372036854775807) (z3 : a3.size ≤ 9223372036854775807) (z6 : a6.size ≤ 9223372036854775807) :
    Calls Try.prog 34 #[.agg #[.string a0, .int .i64 a1, .int .i64 a2, .string a3, .int .i64 a4, .bool a5, .string a6], .int .i64 left] w (SzFile a0 a3 a6 left w) := by
  have HB := Lib.hid ((Grw.refl w).alloc (.cells #[.string a0, .int .i64 a1, .int .i64 a2, .string a3, .int .i64 a4, .bool a5, .string a6] 64))
  by_cases c1 : left - a0.size < 0
  · go_enter Try.func34, Try.ntmps34
    go_wp2_with fail
    go_ret
    exact ⟨-1, rfl, by omega, by omega, HB.out⟩
  · go_enter Try.func34, Try.ntmps34
    go_wp2_with fail
    refine (szR_grw a1 a2 a3 a4 a5 a6 _ (by omega) (by omega) _ z3 z6).mono ?_
    rintro e w1 ⟨r, rfl, h1, h2, hg⟩
    by_cases c2 : r < 0
    · go_wp2_with fail
      go_ret
      exact ⟨-1, rfl, by omega, by omega, HB.out.trans hg⟩
    · replace h2 := h2 (by omega)
      go_wp2_with fail
      go_ret
      exact ⟨r, rfl, by omega, by omega, HB.out.trans hg⟩

set_option maxRecDepth 100000 in
set_option maxHeartbeats 4000000 in
theorem sz_FileS (x : Rw) (hx : IsFileS x) (left : Int) (l1 : 0 ≤ left) (l2 : left ≤ 1099511627776) (w : World) (rx : x.ReadR w.heap.size w) (hz : x.Small) :
    Calls Try.prog 26 #[x.cell, .int .i64 left] w fun e w' => ∃ r : Int, e = .returned (.int .i64 r) ∧ -1 ≤ r ∧ (0 ≤ r → r + (x.weight : Nat) = left) ∧ Grw w w' := by
  obtain ⟨v, n, e0, cs, rfl, hrow⟩ := hx
  rw [Rw.ReadR] at rx; rw [Rw.Small] at hz; rw [Rw.cell_sl, Rw.weight]
  obtain ⟨⟨a, cap, rfl, hlen, hc1, hc2, _, hcells⟩, hin⟩ := rx
  have HROW := Lib.hid hrow; have HC := Lib.hid hcells; have HIN := Lib.hid hin; have HZ := Lib.hid (smallL_iff.1 hz); have HLEN := Lib.hid hlen
  clear hrow hcells hin hz hlen
  obtain ⟨wt, hwt⟩ : ∃ f : Nat → Nat, f = fun m => weightL (cs.take m) := ⟨_, rfl⟩
  have HWT := Lib.hid hwt; clear hwt
  by_cases h0 : left - n < 0
  · go_enter Try.func26, Try.ntmps26
    go_wp2
    go_ret
    exact ⟨-1, rfl, by omega, by omega, Grw.refl _⟩
  · go_enter Try.func26, Try.ntmps26
    go_wp2
    go_loopw [1, 5] (fun q i wr => ∃ (j : Nat) (r : Int), j ≤ n ∧ i = .int .i64 j ∧ q = .int .i64 r ∧ 0 ≤ r ∧ r + n + (wt (j * 7) : Nat) = left ∧ Grw w wr)
      (fun _ i _ => n - (intOf i).toNat)
    case atStart => exact ⟨0, left - n, Nat.zero_le _, rfl, rfl, by omega, by rw [HWT.out]; (simp [weightL]; try omega), Grw.refl _⟩
    case round =>
      obtain ⟨j, r, hj, rfl, rfl, hr0, hr1, hs⟩ := hrel
      have HS := Lib.hid hs; have HR1 := Lib.hid hr1
      have hr2 : r ≤ 1099511627776 := by omega
      clear hs hr1
      by_cases hlt : (j : Int) < (n : Int)
      · rcases HC.out with hz0 | ⟨g, off, rfl, hg, hcells⟩
        · omega
        · have HCL := Lib.hid hcells; clear hcells
          obtain ⟨a0, a1, a2, a3, a4, a5, a6, f0, f1, f2, f3, f4, f5, f6⟩ := HROW.out j (by omega)
          have c0 : wr.cell? ⟨g, off + j * 7, none⟩ = some (.string a0) := by rw [HS.out.below.cell (show g < _ by omega)]; exact HCL.out (j * 7) _ (by rw [List.getElem?_map, f0]; rfl)
          have z0 : a0.size ≤ 9223372036854775807 := by have := HZ.out _ (List.mem_of_getElem? f0); rw [Rw.Small] at this; exact this
          have hw0 : weightL (cs.take (j * 7 + 1)) = weightL (cs.take (j * 7)) + _ := weightL_more f0; rw [Rw.weight] at hw0; simp only [weightV] at hw0
          have c1 : wr.cell? ⟨g, off + j * 7 + 1, none⟩ = some (.int .i64 a1) := by rw [HS.out.below.cell (show g < _ by omega)]; rw [Nat.add_assoc]; exact HCL.out (j * 7 + 1) _ (by rw [List.getElem?_map, f1]; rfl)
          have hw1 : weightL (cs.take (j * 7 + 2)) = weightL (cs.take (j * 7 + 1)) + _ := weightL_more f1; rw [Rw.weight] at hw1; simp only [weightV] at hw1
          have c2 : wr.cell? ⟨g, off + j * 7 + 2, none⟩ = some (.int .i64 a2) := by rw [HS.out.below.cell (show g < _ by omega)]; rw [Nat.add_assoc]; exact HCL.out (j * 7 + 2) _ (by rw [List.getElem?_map, f2]; rfl)
          have hw2 : weightL (cs.take (j * 7 + 3)) = weightL (cs.take (j * 7 + 2)) + _ := weightL_more f2; rw [Rw.weight] at hw2; simp only [weightV] at hw2
          have c3 : wr.cell? ⟨g, off + j * 7 + 3, none⟩ = some (.string a3) := by rw [HS.out.below.cell (show g < _ by omega)]; rw [Nat.add_assoc]; exact HCL.out (j * 7 + 3) _ (by rw [List.getElem?_map, f3]; rfl)
          have z3 : a3.size ≤ 9223372036854775807 := by have := HZ.out _ (List.mem_of_getElem? f3); rw [Rw.Small] at this; exact this
          have hw3 : weightL (cs.take (j * 7 + 4)) = weightL (cs.take (j * 7 + 3)) + _ := weightL_more f3; rw [Rw.weight] at hw3; simp only [weightV] at hw3
          have c4 : wr.cell? ⟨g, off + j * 7 + 4, none⟩ = some (.int .i64 a4) := by rw [HS.out.below.cell (show g < _ by omega)]; rw [Nat.add_assoc]; exact HCL.out (j * 7 + 4) _ (by rw [List.getElem?_map, f4]; rfl)
          have hw4 : weightL (cs.take (j * 7 + 5)) = weightL (cs.take (j * 7 + 4)) + _ := weightL_more f4; rw [Rw.weight] at hw4; simp only [weightV] at hw4
          have c5 : wr.cell? ⟨g, off + j * 7 + 5, none⟩ = some (.bool a5) := by rw [HS.out.below.cell (show g < _ by omega)]; rw [Nat.add_assoc]; exact HCL.out (j * 7 + 5) _ (by rw [List.getElem?_map, f5]; rfl)
          have hw5 : weightL (cs.take (j * 7 + 6)) = weightL (cs.take (j * 7 + 5)) + _ := weightL_more f5; rw [Rw.weight] at hw5; simp only [weightV] at hw5
          have c6 : wr.cell? ⟨g, off + j * 7 + 6, none⟩ = some (.string a6) := by rw [HS.out.below.cell (show g < _ by omega)]; rw [Nat.add_assoc]; exact HCL.out (j * 7 + 6) _ (by rw [List.getElem?_map, f6]; rfl)
          have z6 : a6.size ≤ 9223372036854775807 := by have := HZ.out _ (List.mem_of_getElem? f6); rw [Rw.Small] at this; exact this
          have hw6 : weightL (cs.take (j * 7 + 7)) = weightL (cs.take (j * 7 + 6)) + _ := weightL_more f6; rw [Rw.weight] at hw6; simp only [weightV] at hw6
          have HW := Lib.hid (show wt ((j + 1) * 7) = wt (j * 7) + (a0.size + a3.size + a6.size) by rw [HWT.out, Nat.add_mul, Nat.one_mul]; show weightL (cs.take (j * 7 + 7)) = weightL (cs.take (j * 7)) + _; omega)
          clear hw0 hw1 hw2 hw3 hw4 hw5 hw6
          go_wp2_with fail
          refine (sz_File a0 a1 a2 a3 a4 a5 a6 r (by omega) hr2 _ z0 z3 z6).mono ?_
          rintro e w2 ⟨r2, rfl, hr3, hr4, hg2⟩
          have HG2 := Lib.hid (HS.out.trans hg2); clear hg2
          by_cases hneg : r2 < 0
          · go_wp2_with fail
            go_ret
            exact ⟨-1, rfl, by omega, by omega, HG2.out⟩
          · have hr5 := hr4 (by omega)
            clear hr4
            have HR5 := Lib.hid hr5; clear hr5
            go_wp2_with fail
            go_roundw
            case rel => exact ⟨j + 1, r2, by omega, by go_num, rfl, by omega, by rw [HW.out]; have := HR5.out; have := HR1.out; omega, HG2.out⟩
            case measure => simp [intOf]; omega
      · have hjn : j = n := by omega
        subst hjn
        have HF := Lib.hid (show wt (j * 7) = weightL cs by rw [HWT.out]; show weightL (cs.take (j * 7)) = _; rw [List.take_of_length_le (by have := HLEN.out; omega)])
        go_wp2_with fail
        go_ret
        exact ⟨r, rfl, by omega, fun _ => by have := HF.out; have := HR1.out; omega, HS.out⟩

theorem info_FileS : (Try.prog.info? 49).map (fun i => (i.zero, i.size, i.bytes)) = some (some (.agg #[.string ⟨#[]⟩, .int .i64 0, .int .i64 0, .string ⟨#[]⟩, .int .i64 0, .bool false, .string ⟨#[]⟩]), 7, 80) := by kernel_rfl
set_option maxRecDepth 100000 in
set_option maxHeartbeats 4000000 in
theorem to_FileS (x : Rw) (hx : IsFileS x) (w : World) (rx : x.ReadR w.heap.size w) (hl : x.weight ≤ 1099511627776) :
    Calls Try.prog 27 #[x.cell] w fun e w' => ∃ y : Rw, e = .returned y.cell ∧ IsFileS y ∧ y.data = x.data ∧ y.blocks.Nodup ∧ y.OwnR w.heap.size w'.heap.size w' ∧ Below w.heap.size w w' := by
  obtain ⟨i0, hi0, hz0, hz1, hz2⟩ := info_parts info_FileS
  obtain ⟨v, n, e0, cs, rfl, hrow⟩ := hx
  rw [Rw.ReadR] at rx; rw [Rw.weight] at hl; rw [Rw.cell_sl, Rw.data]
  obtain ⟨⟨a, cap, rfl, hlen, hc1, hc2, _, hcells⟩, hin⟩ := rx
  have hnl : n ≤ 1099511627776 := by omega
  have hall : ∀ c ∈ cs, c.blocks = [] ∧ c.cell.oneCell' = true ∧ c = .leaf c.cell := rows_all (K := 7) (by decide) hlen _ fun j hj t ht => by
    obtain ⟨a0, a1, a2, a3, a4, a5, a6, f0, f1, f2, f3, f4, f5, f6⟩ := hrow j hj
    rcases (show t = 0 ∨ t = 1 ∨ t = 2 ∨ t = 3 ∨ t = 4 ∨ t = 5 ∨ t = 6 by omega) with rfl | rfl | rfl | rfl | rfl | rfl | rfl
    · exact ⟨_, f0, by rw [Rw.blocks], rfl, rfl⟩
    · exact ⟨_, f1, by rw [Rw.blocks], rfl, rfl⟩
    · exact ⟨_, f2, by rw [Rw.blocks], rfl, rfl⟩
    · exact ⟨_, f3, by rw [Rw.blocks], rfl, rfl⟩
    · exact ⟨_, f4, by rw [Rw.blocks], rfl, rfl⟩
    · exact ⟨_, f5, by rw [Rw.blocks], rfl, rfl⟩
    · exact ⟨_, f6, by rw [Rw.blocks], rfl, rfl⟩
  have HROW := Lib.hid hrow; have HC := Lib.hid hcells; have HLEN := Lib.hid hlen; have HI := Lib.hid hz2; have HALL := Lib.hid hall
  clear hrow hcells hin hlen hz2 hall hl
  go_enter Try.func27, Try.ntmps27
  go_wp2_with (at_make; refine wpList_make_full _ rfl _ _ 45 rfl w.heap.size 49 i0 (.agg #[.string ⟨#[]⟩, .int .i64 0, .int .i64 0, .string ⟨#[]⟩, .int .i64 0, .bool false, .string ⟨#[]⟩]) 7 Try.underlying45 hi0 hz0 hz1 .i64 .i64 _ _ n rfl rfl rfl rfl ?c1 ?c2 (Nat.le_refl _) ?_)
  case c1 => rw [HI.out]; omega
  case c2 => unfold maxLen; omega
  intro w1 hown1 hgr1
  have hb1 : Below w.heap.size w w1 := (Below.refl _ _).grown hgr1 (Nat.le_refl _) (fun k h => by cases h)
  have HO1 := Lib.hid hown1; have HB1 := Lib.hid hb1; clear hown1 hgr1 hb1
  go_wp2
  go_loopw [4] (fun i wr => ∃ (j : Nat) (us : List Value), j ≤ n ∧ i = .int .i64 j ∧ wr.ownsRow w.heap.size 49 7 (.slice (some ⟨w.heap.size, 0, none⟩) n n) n us ∧ (∀ i, i < j * 7 → us[i]? = (cs.map Rw.cell)[i]?) ∧ Below w.heap.size w wr)
    (fun i _ => n - (intOf i).toNat)
  case atStart => exact ⟨0, _, Nat.zero_le _, rfl, HO1.out, fun i hi => by omega, HB1.out⟩
  case round =>
    obtain ⟨j, us, hj, rfl, hown, hup, hbw⟩ := hrel
    have HO := Lib.hid hown; have HU := Lib.hid hup; have HB := Lib.hid hbw
    clear hown hup hbw HO1 HB1
    by_cases hlt : (j : Int) < (n : Int)
    · rcases HC.out with h0 | ⟨g, off, rfl, hg, hcells⟩
      · omega
      · have HCL := Lib.hid hcells; clear hcells
        obtain ⟨a0, a1, a2, a3, a4, a5, a6, f0, f1, f2, f3, f4, f5, f6⟩ := HROW.out j (by omega)
        have c0 : wr.cell? ⟨g, off + j * 7, none⟩ = some (.string a0) := by rw [HB.out.cell (show g < _ by omega)]; exact HCL.out (j * 7) _ (by rw [List.getElem?_map, f0]; rfl)
        have HM0 := Lib.hid (show (cs.map Rw.cell)[j * 7]? = some (.string a0) by rw [List.getElem?_map, f0]; rfl)
        have c1 : wr.cell? ⟨g, off + j * 7 + 1, none⟩ = some (.int .i64 a1) := by rw [HB.out.cell (show g < _ by omega)]; rw [Nat.add_assoc]; exact HCL.out (j * 7 + 1) _ (by rw [List.getElem?_map, f1]; rfl)
        have HM1 := Lib.hid (show (cs.map Rw.cell)[j * 7 + 1]? = some (.int .i64 a1) by rw [List.getElem?_map, f1]; rfl)
        have c2 : wr.cell? ⟨g, off + j * 7 + 2, none⟩ = some (.int .i64 a2) := by rw [HB.out.cell (show g < _ by omega)]; rw [Nat.add_assoc]; exact HCL.out (j * 7 + 2) _ (by rw [List.getElem?_map, f2]; rfl)
        have HM2 := Lib.hid (show (cs.map Rw.cell)[j * 7 + 2]? = some (.int .i64 a2) by rw [List.getElem?_map, f2]; rfl)
        have c3 : wr.cell? ⟨g, off + j * 7 + 3, none⟩ = some (.string a3) := by rw [HB.out.cell (show g < _ by omega)]; rw [Nat.add_assoc]; exact HCL.out (j * 7 + 3) _ (by rw [List.getElem?_map, f3]; rfl)
        have HM3 := Lib.hid (show (cs.map Rw.cell)[j * 7 + 3]? = some (.string a3) by rw [List.getElem?_map, f3]; rfl)
        have c4 : wr.cell? ⟨g, off + j * 7 + 4, none⟩ = some (.int .i64 a4) := by rw [HB.out.cell (show g < _ by omega)]; rw [Nat.add_assoc]; exact HCL.out (j * 7 + 4) _ (by rw [List.getElem?_map, f4]; rfl)
        have HM4 := Lib.hid (show (cs.map Rw.cell)[j * 7 + 4]? = some (.int .i64 a4) by rw [List.getElem?_map, f4]; rfl)
        have c5 : wr.cell? ⟨g, off + j * 7 + 5, none⟩ = some (.bool a5) := by rw [HB.out.cell (show g < _ by omega)]; rw [Nat.add_assoc]; exact HCL.out (j * 7 + 5) _ (by rw [List.getElem?_map, f5]; rfl)
        have HM5 := Lib.hid (show (cs.map Rw.cell)[j * 7 + 5]? = some (.bool a5) by rw [List.getElem?_map, f5]; rfl)
        have c6 : wr.cell? ⟨g, off + j * 7 + 6, none⟩ = some (.string a6) := by rw [HB.out.cell (show g < _ by omega)]; rw [Nat.add_assoc]; exact HCL.out (j * 7 + 6) _ (by rw [List.getElem?_map, f6]; rfl)
        have HM6 := Lib.hid (show (cs.map Rw.cell)[j * 7 + 6]? = some (.string a6) by rw [List.getElem?_map, f6]; rfl)
        clear f0 f1 f2 f3 f4 f5 f6
        go_wp2_with fail
        refine (to_File a0 a1 a2 a3 a4 a5 a6 _).mono ?_
        rintro e w2 ⟨rfl, hg2⟩
        have hb2 := hg2.below
        have hown2 := ownsRow_only HO.out (OnlyB.of_below hb2 []) (fun _ _ hm => by cases hm)
        have hxl : us.length = n * 7 := HO.out.1
        obtain ⟨u0, hu0⟩ : ∃ u, us[j * 7]? = some u := ⟨_, List.getElem?_eq_getElem (by omega)⟩
        have d0 : w2.cell? ⟨w.heap.size, j * 7, none⟩ = some u0 := by rw [hown2.cellAt (j * 7) (by omega)]; exact hu0
        have z0 : w2.frozen? ⟨w.heap.size, j * 7, none⟩ = false := hown2.frozenAt _
        obtain ⟨u1, hu1⟩ : ∃ u, us[j * 7 + 1]? = some u := ⟨_, List.getElem?_eq_getElem (by omega)⟩
        have d1 : w2.cell? ⟨w.heap.size, j * 7 + 1, none⟩ = some u1 := by rw [hown2.cellAt (j * 7 + 1) (by omega)]; exact hu1
        have z1 : w2.frozen? ⟨w.heap.size, j * 7 + 1, none⟩ = false := hown2.frozenAt _
        obtain ⟨u2, hu2⟩ : ∃ u, us[j * 7 + 2]? = some u := ⟨_, List.getElem?_eq_getElem (by omega)⟩
        have d2 : w2.cell? ⟨w.heap.size, j * 7 + 2, none⟩ = some u2 := by rw [hown2.cellAt (j * 7 + 2) (by omega)]; exact hu2
        have z2 : w2.frozen? ⟨w.heap.size, j * 7 + 2, none⟩ = false := hown2.frozenAt _
        obtain ⟨u3, hu3⟩ : ∃ u, us[j * 7 + 3]? = some u := ⟨_, List.getElem?_eq_getElem (by omega)⟩
        have d3 : w2.cell? ⟨w.heap.size, j * 7 + 3, none⟩ = some u3 := by rw [hown2.cellAt (j * 7 + 3) (by omega)]; exact hu3
        have z3 : w2.frozen? ⟨w.heap.size, j * 7 + 3, none⟩ = false := hown2.frozenAt _
        obtain ⟨u4, hu4⟩ : ∃ u, us[j * 7 + 4]? = some u := ⟨_, List.getElem?_eq_getElem (by omega)⟩
        have d4 : w2.cell? ⟨w.heap.size, j * 7 + 4, none⟩ = some u4 := by rw [hown2.cellAt (j * 7 + 4) (by omega)]; exact hu4
        have z4 : w2.frozen? ⟨w.heap.size, j * 7 + 4, none⟩ = false := hown2.frozenAt _
        obtain ⟨u5, hu5⟩ : ∃ u, us[j * 7 + 5]? = some u := ⟨_, List.getElem?_eq_getElem (by omega)⟩
        have d5 : w2.cell? ⟨w.heap.size, j * 7 + 5, none⟩ = some u5 := by rw [hown2.cellAt (j * 7 + 5) (by omega)]; exact hu5
        have z5 : w2.frozen? ⟨w.heap.size, j * 7 + 5, none⟩ = false := hown2.frozenAt _
        obtain ⟨u6, hu6⟩ : ∃ u, us[j * 7 + 6]? = some u := ⟨_, List.getElem?_eq_getElem (by omega)⟩
        have d6 : w2.cell? ⟨w.heap.size, j * 7 + 6, none⟩ = some u6 := by rw [hown2.cellAt (j * 7 + 6) (by omega)]; exact hu6
        have z6 : w2.frozen? ⟨w.heap.size, j * 7 + 6, none⟩ = false := hown2.frozenAt _
        have HO2 := Lib.hid hown2; have HX := Lib.hid hxl
        have HB2 := Lib.hid (HB.out.trans (hb2.mono HB.out.size))
        clear hu0 hu1 hu2 hu3 hu4 hu5 hu6 hown2 hb2 hg2 hxl
        go_wp2
        go_roundw
        case rel =>
          refine ⟨j + 1, _, by omega, by go_num, (((((((HO2.out.stored _ _).1.stored _ _).1.stored _ _).1.stored _ _).1.stored _ _).1.stored _ _).1.stored _ _).1, fun i hi => ?_, (((((((HB2.out.setCell (Nat.le_refl _) _).setCell (Nat.le_refl _) _).setCell (Nat.le_refl _) _).setCell (Nat.le_refl _) _).setCell (Nat.le_refl _) _).setCell (Nat.le_refl _) _).setCell (Nat.le_refl _) _)⟩
          have hxl := HX.out
          by_cases i6 : i = j * 7 + 6
          · rw [i6, List.getElem?_set_self (by first | omega | (simp only [List.length_set]; omega))]; exact HM6.out.symm
          by_cases i5 : i = j * 7 + 5
          · rw [i5, List.getElem?_set_ne (by omega), List.getElem?_set_self (by first | omega | (simp only [List.length_set]; omega))]; exact HM5.out.symm
          by_cases i4 : i = j * 7 + 4
          · rw [i4, List.getElem?_set_ne (by omega), List.getElem?_set_ne (by omega), List.getElem?_set_self (by first | omega | (simp only [List.length_set]; omega))]; exact HM4.out.symm
          by_cases i3 : i = j * 7 + 3
          · rw [i3, List.getElem?_set_ne (by omega), List.getElem?_set_ne (by omega), List.getElem?_set_ne (by omega), List.getElem?_set_self (by first | omega | (simp only [List.length_set]; omega))]; exact HM3.out.symm
          by_cases i2 : i = j * 7 + 2
          · rw [i2, List.getElem?_set_ne (by omega), List.getElem?_set_ne (by omega), List.getElem?_set_ne (by omega), List.getElem?_set_ne (by omega), List.getElem?_set_self (by first | omega | (simp only [List.length_set]; omega))]; exact HM2.out.symm
          by_cases i1 : i = j * 7 + 1
          · rw [i1, List.getElem?_set_ne (by omega), List.getElem?_set_ne (by omega), List.getElem?_set_ne (by omega), List.getElem?_set_ne (by omega), List.getElem?_set_ne (by omega), List.getElem?_set_self (by first | omega | (simp only [List.length_set]; omega))]; exact HM1.out.symm
          by_cases i0 : i = j * 7
          · rw [i0, List.getElem?_set_ne (by omega), List.getElem?_set_ne (by omega), List.getElem?_set_ne (by omega), List.getElem?_set_ne (by omega), List.getElem?_set_ne (by omega), List.getElem?_set_ne (by omega), List.getElem?_set_self (by first | omega | (simp only [List.length_set]; omega))]; exact HM0.out.symm
          rw [List.getElem?_set_ne (by omega), List.getElem?_set_ne (by omega), List.getElem?_set_ne (by omega), List.getElem?_set_ne (by omega), List.getElem?_set_ne (by omega), List.getElem?_set_ne (by omega), List.getElem?_set_ne (by omega)]; exact HU.out i (by omega)
        case measure => simp [intOf]; omega
    · have hjn : j = n := by omega
      subst hjn
      have hus : us = cs.map Rw.cell := by
        apply List.ext_getElem?
        intro i
        by_cases hi : i < j * 7
        · exact HU.out i hi
        · rw [List.getElem?_eq_none (by have := HO.out.1; omega), List.getElem?_eq_none (by rw [List.length_map]; have := HLEN.out; omega)]
      have HF := Lib.hid hus; clear hus
      have hbn := blocksL_nil fun c hc => (HALL.out c hc).1
      have HBN := Lib.hid hbn; clear hbn
      go_wp2
      go_ret
      refine ⟨.sl (.slice (some ⟨w.heap.size, 0, none⟩) j j) j 7 49 cs, rfl, ⟨_, _, _, _, rfl, HROW.out⟩, by rw [Rw.data], ?_, ?_, HB.out⟩
      · rw [Rw.blocks, HBN.out]; simp [Value.ownBlock]
      · rw [Rw.OwnR]
        refine ⟨⟨by rw [← HF.out]; exact HO.out, fun g hg => (HO.out.lt g hg).2⟩, ownRL_iff.2 fun c hc => ?_⟩
        obtain ⟨_, h2, h3⟩ := HALL.out c hc
        rw [h3, Rw.OwnR]; exact h2

end Go.Proofs.Ytpkicliimhflgaa
namespace Go.Proofs.Ytpkicliimhflgaa
open Go.ChangeShapes Go.WideShapes Go.ChangeAt Go.RowKit

/-- A new slice of these numbers, the call's own; of what lay in memory nothing is written. -/
def New (k : IntKind) (e : TypeId) (zs : List Int) (w : World) (en : Ending) (w' : World) : Prop :=
  ∃ v, en = .returned v ∧ Own k e w.heap.size w'.heap.size w' v zs ∧ Below w.heap.size w w'

/-- The marks that a law writes: byte(k), byte(k+1), .. -/
def marks (k n : Nat) : List Int := (List.range n).map (fun i => (((k + i) % 256 : Nat) : Int))
theorem marks_len (k n : Nat) : (marks k n).length = n := by simp [marks]
theorem marks_at {k n j : Nat} (h : j < n) : (marks k n).getD j 0 = ((k : Int) + (j : Int)) % 256 := by
  rw [List.getD_eq_getElem?_getD]
  simp [marks, h]

def Marked (k : IntKind) (e : TypeId) (lo hi : Nat) (v : Value) (ms : List Int) (m : Int) (w : World) (en : Ending) (w' : World) : Prop :=
  en = .returned (.int .i64 m) ∧ Own k e lo hi w' v ms ∧ w.grownBy w' v.ownBlock

end Go.Proofs.Ytpkicliimhflgaa
namespace Go.Proofs.Ytpkicliimhflgaa
open Go.ChangeShapes Go.WideShapes Go.ChangeAt Go.RowKit

/-- The marks that a law writes: k, k+1, .. -/
def marksI (k n : Nat) : List Int := (List.range n).map (fun i => ((k + i : Nat) : Int))
theorem marksI_len (k n : Nat) : (marksI k n).length = n := by simp [marksI]
theorem marksI_at {k n j : Nat} (h : j < n) : (marksI k n).getD j 0 = ((k : Int) + (j : Int)) := by
  rw [List.getD_eq_getElem?_getD]
  simp [marksI, h]

end Go.Proofs.Ytpkicliimhflgaa
namespace Go.Proofs.Ytpkicliimhflgaa
open Go.ChangeShapes Go.WideShapes Go.ChangeAt Go.RowKit

theorem own_top {lo hi : Nat} {w : World} : ∀ (x : Rw), x.OwnR lo hi w → x.OwnR lo w.heap.size w := by
  refine Rw.ind (fun v h => ?_) (fun v n k e cs ih h => ?_)
  · rw [Rw.OwnR] at h ⊢; exact h
  · rw [Rw.OwnR] at h ⊢
    exact ⟨⟨h.1.1, fun g hg => (h.1.1.lt g hg).2⟩, ownRL_iff.2 fun c hc => ih c hc (ownRL_iff.1 h.2 c hc)⟩
theorem Rw.OwnR.top {lo hi : Nat} {w : World} {x : Rw} (h : x.OwnR lo hi w) : x.OwnR lo w.heap.size w := own_top x h
theorem sl_form {x : Rw} {hi : Nat} {w : World} (hx : ∃ v n k e cs, x = .sl v n k e cs) (h : x.ReadR hi w) : ∃ a n c, x.cell = .slice a n c := by
  obtain ⟨v, n, k, e, cs, rfl⟩ := hx
  rw [Rw.ReadR] at h
  obtain ⟨⟨a, cap, rfl, _⟩, _⟩ := h
  exact ⟨a, n, cap, rfl⟩
theorem is_sl_mark {x : Rw} (hx : ∃ v n k e cs, x = .sl v n k e cs) (q : Nat) : ∃ v n k e cs, x.mark q = .sl v n k e cs := by
  obtain ⟨v, n, k, e, cs, rfl⟩ := hx
  exact ⟨v, n, k, e, markL cs q, by rw [mark_cell_sl]⟩
theorem weightL_mem : ∀ {cs : List Rw} {c : Rw}, c ∈ cs → c.weight ≤ weightL cs
  | [], c, h => by cases h
  | d :: cs, c, h => by
    rw [weightL]
    rcases List.mem_cons.1 h with e | h2
    · rw [e]; omega
    · have := weightL_mem h2; omega
/-- A cell that holds a plain value takes an own slice (or another plain value). -/
theorem Rw.OwnR.put {lo hi g n k cap m : Nat} {e : TypeId} {w : World} {cs : List Rw} {u : Value} {y : Rw} (h : (Rw.sl (.slice (some ⟨g, 0, none⟩) n cap) n k e cs).OwnR lo hi w) (hn : g ∉ blocksL cs) (hm : cs[m]? = some (.leaf u)) (hy : y.OwnR lo hi w) (hg : g ∉ y.blocks) :
    (Rw.sl (.slice (some ⟨g, 0, none⟩) n cap) n k e (cs.set m y)).OwnR lo hi (w.setCell ⟨g, m, none⟩ y.cell) ∧ OnlyB [g] w (w.setCell ⟨g, m, none⟩ y.cell) ∧ (∀ b, b ∈ blocksL (cs.set m y) ↔ b ∈ y.blocks ∨ b ∈ blocksL cs) ∧
      ((blocksL cs).Nodup → y.blocks.Nodup → (∀ b ∈ y.blocks, b ∉ blocksL cs) → (blocksL (cs.set m y)).Nodup) := by
  have hml : m < cs.length := (List.getElem?_eq_some_iff.1 hm).1
  rw [Rw.OwnR] at h
  have hst := h.1.1.stored m y.cell
  have hon : OnlyB [g] w (w.setCell ⟨g, m, none⟩ y.cell) := OnlyB.of_grown hst.2
  have e1 : cs = cs.take m ++ .leaf u :: cs.drop (m + 1) := by
    conv => lhs; rw [← List.take_append_drop m cs, List.drop_eq_getElem_cons hml]
    rw [show cs[m] = .leaf u from Option.some.inj ((List.getElem?_eq_getElem hml).symm.trans hm)]
  have e2 : cs.set m y = cs.take m ++ y :: cs.drop (m + 1) := List.set_eq_take_append_cons_drop.trans (if_pos hml)
  have b1 : blocksL cs = blocksL (cs.take m) ++ blocksL (cs.drop (m + 1)) := by
    conv => lhs; rw [e1, blocksL_append, blocksL, Rw.blocks]
    rfl
  have b2 : blocksL (cs.set m y) = blocksL (cs.take m) ++ (y.blocks ++ blocksL (cs.drop (m + 1))) := by rw [e2, blocksL_append, blocksL]
  refine ⟨?_, hon, fun b => ?_, fun hd hyd hdis => ?_⟩
  · rw [Rw.OwnR]
    refine ⟨⟨by rw [List.map_set]; exact hst.1, h.1.2⟩, ownRL_iff.2 fun c hc => ?_⟩
    rcases List.mem_or_eq_of_mem_set hc with h1 | h1
    · refine Rw.OwnR.only hon c (ownRL_iff.1 h.2 c h1) fun b hb hbg => ?_
      rw [List.mem_singleton] at hbg
      subst hbg
      exact hn (blocksL_mem.2 ⟨c, h1, hb⟩)
    · rw [h1]
      refine Rw.OwnR.only hon y hy fun b hb hbg => ?_
      rw [List.mem_singleton] at hbg
      subst hbg
      exact hg hb
  · rw [b2, b1]; simp only [List.mem_append]; constructor
    · rintro (h | h | h)
      · exact Or.inr (Or.inl h)
      · exact Or.inl h
      · exact Or.inr (Or.inr h)
    · rintro (h | h | h)
      · exact Or.inr (Or.inl h)
      · exact Or.inl h
      · exact Or.inr (Or.inr h)
  · rw [b2]
    rw [b1] at hd hdis
    have hA := List.nodup_append.1 hd
    refine List.nodup_append.2 ⟨hA.1, List.nodup_append.2 ⟨hyd, hA.2.1, fun a ha b hb e => ?_⟩, fun a ha b hb e => ?_⟩
    · subst e; exact hdis a ha (List.mem_append.2 (Or.inr hb))
    · subst e
      rcases List.mem_append.1 hb with hb | hb
      · exact hdis a hb (List.mem_append.2 (Or.inl ha))
      · exact hA.2.2 a ha a hb rfl

theorem made_one {z : Array Value} (h : ∀ u ∈ z, u.oneCell' = true) (hz : 0 < z.size) (n : Nat) : ∀ u ∈ (madeCells z n).toList, u.oneCell' = true := by
  intro u hu
  unfold madeCells at hu
  simp only [Array.toList_map, List.mem_map] at hu
  obtain ⟨i, _, rfl⟩ := hu
  have hi : i % z.size < z.size := Nat.mod_lt _ hz
  rw [getElem!_pos z (i % z.size) hi]
  exact h _ (Array.getElem_mem hi)
theorem leaves_blocks (us : List Value) : blocksL (us.map Rw.leaf) = [] := blocksL_nil fun c hc => by
  obtain ⟨u, _, rfl⟩ := List.mem_map.1 hc
  rw [Rw.blocks]
theorem leaves_own {lo k n : Nat} {e : TypeId} {w : World} {v : Value} {us : List Value} (h : w.ownsRow lo e k v n us) (h1 : ∀ u ∈ us, u.oneCell' = true) : (Rw.sl v n k e (us.map Rw.leaf)).OwnR lo w.heap.size w := by
  rw [Rw.OwnR]
  refine ⟨⟨?_, fun g hg => (h.lt g hg).2⟩, ownRL_iff.2 fun c hc => ?_⟩
  · rw [List.map_map, show (Rw.cell ∘ Rw.leaf) = (id : Value → Value) from rfl, List.map_id]; exact h
  · obtain ⟨u, hu, rfl⟩ := List.mem_map.1 hc
    rw [Rw.OwnR]; exact h1 u hu
theorem dataL_ext {cs ds : List Rw} (hl : cs.length = ds.length) (h : ∀ (m : Nat) (c d : Rw), cs[m]? = some c → ds[m]? = some d → c.data = d.data) : dataL cs = dataL ds := by
  apply List.ext_getElem?
  intro m
  rw [dataL_at, dataL_at]
  by_cases hm : m < cs.length
  · rw [List.getElem?_eq_getElem hm, List.getElem?_eq_getElem (hl ▸ hm)]
    show some _ = some _
    rw [h m _ _ (List.getElem?_eq_getElem hm) (List.getElem?_eq_getElem (hl ▸ hm))]
  · rw [List.getElem?_eq_none (by omega), List.getElem?_eq_none (by omega)]

theorem ownL_only {lo hi : Nat} {w w' : World} {bs : List Nat} {L : List Rw} (h : OwnRL lo hi w L) (hb : OnlyB bs w w') (hd : ∀ b ∈ blocksL L, b ∉ bs) : OwnRL lo hi w' L :=
  ownRL_iff.2 fun c hc => Rw.OwnR.only hb c (ownRL_iff.1 h c hc) fun b hbc => hd b (blocksL_mem.2 ⟨c, hc, hbc⟩)
theorem ownL_later {lo hi : Nat} {w w' : World} {L : List Rw} (h : OwnRL lo hi w L) (hb : Below w.heap.size w w') : OwnRL lo hi w' L :=
  ownL_only h (OnlyB.of_below hb []) fun _ _ hm => by cases hm
theorem ownL_lt {lo hi : Nat} {w : World} {L : List Rw} (h : OwnRL lo hi w L) : ∀ b ∈ blocksL L, lo ≤ b ∧ b < hi ∧ b < w.heap.size := by
  intro b hb
  obtain ⟨c, hc, hbc⟩ := blocksL_mem.1 hb
  exact Rw.OwnR.lt c (ownRL_iff.1 h c hc) b hbc
theorem ownL_mono {lo hi lo' hi' : Nat} {w : World} {L : List Rw} (h : OwnRL lo hi w L) (hl : lo' ≤ lo) (hh : hi ≤ hi') : OwnRL lo' hi' w L :=
  ownRL_iff.2 fun c hc => Rw.OwnR.mono hl hh c (ownRL_iff.1 h c hc)
theorem ownL_reads {lo hi : Nat} {w : World} {L : List Rw} (h : OwnRL lo hi w L) : ReadRL hi w L := readRL_iff.2 fun c hc => Rw.OwnR.reads c (ownRL_iff.1 h c hc)
theorem ownL_read {lo hi hi' : Nat} {w : World} {L : List Rw} (h : OwnRL lo hi w L) (hh : hi ≤ hi') : ReadRL hi' w L := readRL_iff.2 fun c hc => Rw.ReadR.mono hh c (Rw.OwnR.reads c (ownRL_iff.1 h c hc))
theorem ownL_apart {lo hi lo' hi' : Nat} {w w' : World} {L M : List Rw} (h : OwnRL lo hi w L) (hy : OwnRL lo' hi' w M) (hh : hi ≤ lo' ∨ hi' ≤ lo) (ho : OnlyB (blocksL M) w w') : OwnRL lo hi w' L :=
  ownL_only h ho fun b hb hby => by
    have h1 := ownL_lt h b hb
    have h2 := ownL_lt hy b hby
    omega
theorem ownL_back {lo hi : Nat} {w0 w w' : World} {M : List Rw} (hb : Below lo w0 w) (hy : OwnRL lo hi w M) (hl : lo ≤ w.heap.size) (ho : OnlyB (blocksL M) w w') : Below lo w0 w' :=
  hb.trans (ho.below (fun b hbm => (ownL_lt hy b hbm).1) hl)
theorem own_mono_L {lo hi lo' : Nat} {w : World} {L : List Rw} (h : OwnRL lo hi w L) (hl : lo' ≤ lo) : OwnRL lo' w.heap.size w L :=
  ownRL_iff.2 fun c hc => Rw.OwnR.top (Rw.OwnR.mono hl (Nat.le_refl _) c (ownRL_iff.1 h c hc))
theorem own_mono {x : Rw} {lo hi lo' hi' : Nat} {w : World} (h : x.OwnR lo hi w) (hl : lo' ≤ lo) (hh : hi ≤ hi') : x.OwnR lo' hi' w := Rw.OwnR.mono hl hh x h
theorem nodup_in : ∀ {L : List Rw} {c : Rw}, (blocksL L).Nodup → c ∈ L → c.blocks.Nodup
  | [], c, _, h => by cases h
  | d :: L, c, hn, h => by
    rw [blocksL] at hn
    rcases List.mem_cons.1 h with e | h2
    · rw [e]; exact (List.nodup_append.1 hn).1
    · exact nodup_in (List.nodup_append.1 hn).2.1 h2
theorem nodup_apart : ∀ {L : List Rw} {a b : Rw} {i j : Nat}, (blocksL L).Nodup → L[i]? = some a → L[j]? = some b → i ≠ j → ∀ x ∈ a.blocks, x ∉ b.blocks
  | [], _, _, _, _, _, h, _, _ => by simp at h
  | c :: L, a, b, 0, 0, _, _, _, h => absurd rfl h
  | c :: L, a, b, 0, j + 1, hn, ha, hb, _ => fun x hx hy => by
    rw [blocksL] at hn
    have e : c = a := by simpa using ha
    subst e
    exact (List.nodup_append.1 hn).2.2 x hx x (blocksL_mem.2 ⟨b, List.mem_of_getElem? (by simpa using hb), hy⟩) rfl
  | c :: L, a, b, i + 1, 0, hn, ha, hb, _ => fun x hx hy => by
    rw [blocksL] at hn
    have e : c = b := by simpa using hb
    subst e
    exact (List.nodup_append.1 hn).2.2 x hy x (blocksL_mem.2 ⟨a, List.mem_of_getElem? (by simpa using ha), hx⟩) rfl
  | c :: L, a, b, i + 1, j + 1, hn, ha, hb, h => by
    rw [blocksL] at hn
    exact nodup_apart (List.nodup_append.1 hn).2.1 (by simpa using ha) (by simpa using hb) (fun e => h (by rw [e]))
theorem cell_only {bs : List Nat} {w w' : World} {a : Addr} (h : OnlyB bs w w') (hn : a.block ∉ bs) (hl : a.block < w.heap.size) : w'.cell? a = w.cell? a := World.cell?_of_block (h.block _ hl hn)
theorem ownL_top {lo hi : Nat} {w : World} {L : List Rw} (h : OwnRL lo hi w L) : OwnRL lo w.heap.size w L := ownRL_iff.2 fun c hc => Rw.OwnR.top (ownRL_iff.1 h c hc)
theorem ownL_one {lo hi : Nat} {w : World} {a : Rw} : OwnRL lo hi w [a] ↔ a.OwnR lo hi w := by rw [ownRL_iff]; simp
theorem ownL_two {lo hi : Nat} {w : World} {a b : Rw} : OwnRL lo hi w [a, b] ↔ a.OwnR lo hi w ∧ b.OwnR lo hi w := by rw [ownRL_iff]; simp
theorem rd_of {lo hi : Nat} {w : World} {x : Rw} (h : x.OwnR lo hi w) : x.ReadR w.heap.size w := Rw.OwnR.reads _ h.top
theorem rdL1 {lo hi : Nat} {w : World} {a b : Rw} (h : OwnRL lo hi w [a, b]) : a.ReadR w.heap.size w := rd_of (ownL_two.1 h).1
theorem rdL2 {lo hi : Nat} {w : World} {a b : Rw} (h : OwnRL lo hi w [a, b]) : b.ReadR w.heap.size w := rd_of (ownL_two.1 h).2

theorem OnlyB.set {bs : List Nat} {w w' : World} {b o : Nat} {u : Value} (h : OnlyB bs w w') (hb : b ∈ bs) : OnlyB bs w (w'.setCell ⟨b, o, none⟩ u) :=
  ⟨h.os, h.tape, h.output, Nat.le_trans h.size (by simp [World.setCell]), fun i hi hn => by
    rw [Below.heap_setCell _ _ _ _ (show i ≠ b from fun e => hn (e ▸ hb))]; exact h.block i hi hn⟩
theorem size_alloc (w : World) (o : Obj) : (w.alloc o).heap.size = w.heap.size + 1 := by show (w.heap.push o).size = _; simp
theorem size_set (w : World) (a : Addr) (u : Value) : w.heap.size ≤ (w.setCell a u).heap.size := by simp [World.setCell]
theorem heap_lt {w : World} {b : Nat} {o : Obj} (h : w.heap[b]? = some o) : b < w.heap.size := (Array.getElem?_eq_some_iff.1 h).1
theorem below_heap {B b : Nat} {w w' : World} {o : Obj} (h : Below B w w') (hb : b < B) (hw : w.heap[b]? = some o) : w'.heap[b]? = some o := by rw [h.block b hb]; exact hw
theorem heap_one {w : World} {b o : Nat} {cs : Array Value} {T : TypeId} (h : w.heap[b]? = some (.cells cs T (0, 0))) (u : Value) : (w.setCell ⟨b, o, none⟩ u).heap[b]? = some (.cells (cs.setIfInBounds o u) T (0, 0)) := heap_setCell_same w b o cs T u h
theorem box_cell {w : World} {b j : Nat} {cs : Array Value} {T : TypeId} {u : Value} (h : w.heap[b]? = some (.cells cs T (0, 0))) (hj : cs[j]? = some u) : w.cell? ⟨b, j, none⟩ = some u := by
  unfold World.cell?; rw [h]; exact hj
theorem box_frz {w : World} {b : Nat} {cs : Array Value} {T : TypeId} (h : w.heap[b]? = some (.cells cs T (0, 0))) (j : Nat) : w.frozen? ⟨b, j, none⟩ = false := by
  unfold World.frozen?; rw [h]; simp
theorem box_far {w : World} {b c : Nat} {o : Obj} (h : w.heap[b]? = some o) (hne : b ≠ c) (j : Nat) (u : Value) : (w.setCell ⟨c, j, none⟩ u).heap[b]? = some o := by
  rw [Below.heap_setCell _ _ _ _ hne]; exact h
theorem three_new0 (w : World) (o0 o1 o2 : Obj) : (((w.alloc o0).alloc o1).alloc o2).heap[w.heap.size]? = some o0 := by
  rw [Below.heap_alloc _ _ _ (by rw [size_alloc, size_alloc]; omega), Below.heap_alloc _ _ _ (by rw [size_alloc]; omega)]
  exact heap_alloc_new w _
theorem three_new1 (w : World) (o0 o1 o2 : Obj) : (((w.alloc o0).alloc o1).alloc o2).heap[w.heap.size + 1]? = some o1 := by
  rw [Below.heap_alloc _ _ _ (by rw [size_alloc, size_alloc]; omega)]
  have h := heap_alloc_new (w.alloc o0) o1
  rw [size_alloc] at h
  exact h
theorem three_new2 (w : World) (o0 o1 o2 : Obj) : (((w.alloc o0).alloc o1).alloc o2).heap[w.heap.size + 2]? = some o2 := by
  have h := heap_alloc_new ((w.alloc o0).alloc o1) o2
  rw [size_alloc, size_alloc] at h
  exact h

/-- A slice of integers. -/
def intCells (zs : List Int) : List Rw := zs.map fun z => .leaf (.int .i64 z)
def rwI (v : Value) (zs : List Int) : Rw := .sl v zs.length 1 3 (intCells zs)
def IsIntS (x : Rw) : Prop := ∃ v zs, x = rwI v zs
theorem rwI_is (v : Value) (zs : List Int) : IsIntS (rwI v zs) := ⟨v, zs, rfl⟩
theorem is_sl_IntS {x : Rw} (h : IsIntS x) : ∃ v n k e cs, x = .sl v n k e cs := by
  obtain ⟨v, zs, rfl⟩ := h
  exact ⟨v, _, _, _, _, rfl⟩
theorem intCells_map (zs : List Int) : (intCells zs).map Rw.cell = zs.map (.int .i64) := by
  unfold intCells; rw [List.map_map]; rfl
theorem intCells_len (zs : List Int) : (intCells zs).length = zs.length := by unfold intCells; rw [List.length_map]
theorem intCells_leaf {zs : List Int} {c : Rw} (h : c ∈ intCells zs) : ∃ z, c = .leaf (.int .i64 z) := by
  obtain ⟨z, _, rfl⟩ := List.mem_map.1 h
  exact ⟨z, rfl⟩
theorem intCells_blocks (zs : List Int) : blocksL (intCells zs) = [] := blocksL_nil fun c hc => by
  obtain ⟨z, rfl⟩ := intCells_leaf hc
  rw [Rw.blocks]
theorem intCells_count : ∀ zs : List Int, countL (intCells zs) = zs.length
  | [] => rfl
  | z :: zs => by
    have := intCells_count zs
    unfold intCells at this ⊢
    rw [List.map_cons, countL, Rw.count, this, List.length_cons]; omega
theorem intCells_weight : ∀ zs : List Int, weightL (intCells zs) = 0
  | [] => rfl
  | z :: zs => by
    have := intCells_weight zs
    unfold intCells at this ⊢
    rw [List.map_cons, weightL, Rw.weight, this]; rfl
theorem marksI_cons (k n : Nat) : marksI k (n + 1) = (k : Int) :: marksI (k + 1) n := by
  unfold marksI
  rw [List.range_succ_eq_map, List.map_cons, List.map_map]
  congr 1
  apply List.map_congr_left
  intro i _
  show ((k + (i + 1) : Nat) : Int) = ((k + 1 + i : Nat) : Int)
  congr 1; omega
theorem intCells_mark : ∀ (zs : List Int) (q : Nat), markL (intCells zs) q = intCells (marksI q zs.length)
  | [], q => by rw [List.length_nil]; rfl
  | z :: zs, q => by
    have := intCells_mark zs (q + 1)
    rw [List.length_cons, marksI_cons]
    unfold intCells at this ⊢
    rw [List.map_cons, List.map_cons, markL, mark_leaf, Rw.count, this]; rfl
theorem rwI_blocks (v : Value) (zs : List Int) : (rwI v zs).blocks = v.ownBlock.toList := by rw [rwI, Rw.blocks, intCells_blocks, List.append_nil]
theorem rwI_count (v : Value) (zs : List Int) : (rwI v zs).count = zs.length := by rw [rwI, Rw.count, intCells_count]
theorem rwI_weight (v : Value) (zs : List Int) : (rwI v zs).weight = zs.length := by rw [rwI, Rw.weight, intCells_weight]; rfl
theorem rwI_mark (v : Value) (zs : List Int) (q : Nat) : (rwI v zs).mark q = rwI v (marksI q zs.length) := by
  rw [rwI, mark_cell_sl, intCells_mark, rwI, marksI_len]
theorem rwI_own {lo hi : Nat} {w : World} {v : Value} {zs : List Int} : (rwI v zs).OwnR lo hi w ↔ Own .i64 3 lo hi w v zs := by
  rw [rwI, Rw.OwnR, intCells_map]
  constructor
  · intro h; exact h.1
  · intro h; exact ⟨h, ownRL_iff.2 fun c hc => by obtain ⟨z, rfl⟩ := intCells_leaf hc; rw [Rw.OwnR]; rfl⟩
theorem rwI_reads {hi : Nat} {w : World} {v : Value} {zs : List Int} : (rwI v zs).ReadR hi w ↔ Reads .i64 hi w v zs := by
  rw [rwI, Rw.ReadR, intCells_map]
  constructor
  · rintro ⟨⟨a, cap, rfl, _, h2, h3, h4, h5⟩, _⟩
    refine ⟨a, cap, rfl, h2, h3, h4, ?_⟩
    rcases h5 with h5 | ⟨g, off, e2, hg, hc⟩
    · exact Or.inl h5
    · exact Or.inr ⟨g, off, e2, hg, fun j hj => hc j _ (by rw [List.getElem?_map, getD_at hj]; rfl)⟩
  · rintro ⟨a, cap, rfl, h2, h3, h4, h5⟩
    refine ⟨⟨a, cap, rfl, by rw [intCells_len, Nat.mul_one], h2, h3, h4, ?_⟩, readRL_iff.2 fun c hc => by obtain ⟨z, rfl⟩ := intCells_leaf hc; rw [Rw.ReadR]; rfl⟩
    rcases h5 with h5 | ⟨g, off, e2, hg, hc⟩
    · exact Or.inl h5
    · refine Or.inr ⟨g, off, e2, hg, fun j c hj => ?_⟩
      have hjl : j < zs.length := by have := (List.getElem?_eq_some_iff.1 hj).1; simpa using this
      rw [List.getElem?_map, getD_at hjl] at hj
      cases hj
      exact hc j hjl
theorem intCells_inj {zs ys : List Int} (h : dataL (intCells zs) = dataL (intCells ys)) : zs = ys := by
  induction zs generalizing ys with
  | nil =>
    cases ys with
    | nil => rfl
    | cons y ys => unfold intCells at h; rw [List.map_nil, List.map_cons, dataL, dataL] at h; cases h
  | cons z zs ih =>
    cases ys with
    | nil => unfold intCells at h; rw [List.map_nil, List.map_cons, dataL, dataL] at h; cases h
    | cons y ys =>
      unfold intCells at h
      rw [List.map_cons, List.map_cons, dataL, dataL] at h
      obtain ⟨h1, h2⟩ := List.cons.inj h
      rw [Rw.data, Rw.data] at h1
      injection h1 with h3
      injection h3 with _ h4
      rw [h4, ih h2]
theorem rwI_data {v u : Value} {zs ys : List Int} : (rwI v zs).data = (rwI u ys).data ↔ zs = ys := by
  rw [rwI, rwI, Rw.data, Rw.data]
  constructor
  · intro h; exact intCells_inj (Dt.sl.inj h).2
  · intro h; rw [h]

end Go.Proofs.Ytpkicliimhflgaa
namespace Go.Proofs.Ytpkicliimhflgaa
open Go.ChangeShapes Go.WideShapes Go.ChangeAt Go.RowKit

set_option maxHeartbeats 2000000 in
theorem eq_Server (a0 : ByteArray) (a1 b1 : Rw) (w : World) (hx1 : IsFileS a1) (hy1 : IsFileS b1) (hd1 : a1.data = b1.data) (rx1 : a1.ReadR w.heap.size w) (ry1 : b1.ReadR w.heap.size w) :
    Calls Try.prog 23 #[.agg #[.string a0, a1.cell], .agg #[.string a0, b1.cell]] w fun e w' => e = .returned (.bool true) ∧ Grw w w' := by
  have e0 : (a0.toList == a0.toList) = true := beqL_yes rfl
  go_enter Try.func23, Try.ntmps23
  go_wp2_with fail
  obtain ⟨w0, hw0⟩ : ∃ x, ((w.alloc (.cells #[.string a0, a1.cell] 47)).alloc (.cells #[.string a0, b1.cell] 47)) = x := ⟨_, rfl⟩
  rw [hw0]
  have HG0 := Lib.hid (show Grw w w0 by rw [← hw0]; exact ((Grw.refl w).alloc _).alloc _)
  clear hw0
  refine (eq_FileS a1 b1 hx1 hy1 hd1 _ (rx1.up HG0.out) (ry1.up HG0.out)).mono ?_
  rintro e w1 ⟨rfl, hg1⟩
  have HG1 := Lib.hid (HG0.out.trans hg1); clear hg1
  go_wp2_with fail
  go_ret
  exact ⟨rfl, HG1.out⟩

def SzServer (a0 : ByteArray) (a1 : Rw) (left : Int) (w : World) (e : Ending) (w' : World) : Prop :=
  ∃ r : Int, e = .returned (.int .i64 r) ∧ -1 ≤ r ∧ (0 ≤ r → r + (a0.size : Nat) + (a1.weight : Nat) = left) ∧ Grw w w'
set_option maxRecDepth 100000 in
set_option maxHeartbeats 4000000 in
theorem sz_Server (a0 : ByteArray) (a1 : Rw) (left : Int) (l1 : 0 ≤ left) (l2 : left ≤ 1099511627776) (w : World) (z0 : a0.size ≤ 9223372036854775807) (hx1 : IsFileS a1) (rx1 : a1.ReadR w.heap.size w) (z1 : a1.Small) :
    Calls Try.prog 15 #[.agg #[.string a0, a1.cell], .int .i64 left] w (SzServer a0 a1 left w) := by
  have HB := Lib.hid ((Grw.refl w).alloc (.cells #[.string a0, a1.cell] 41))
  have HR1 := Lib.hid (rx1.up HB.out)
  obtain ⟨xa1, xn1, xc1, hxc1⟩ := sl_form (is_sl_FileS hx1) rx1
  rw [hxc1] at HB ⊢
  rw [hxc1] at HR1
  by_cases c0 : left - (a0.size : Int) < 0
  · go_enter Try.func15, Try.ntmps15
    go_wp2_with fail
    go_ret
    exact ⟨-1, rfl, by omega, by omega, HB.out⟩
  have hsz1 := sz_FileS a1 hx1 (left - (a0.size : Int)) (by omega) (by omega) _ HR1.out z1
  simp only [hxc1] at hsz1
  have HSZ1 := Lib.hid hsz1; clear hsz1
  go_enter Try.func15, Try.ntmps15
  go_wp2_with fail
  refine HSZ1.out.mono ?_
  rintro e w1 ⟨r1, rfl, lo1, hr1, hg1⟩
  have HG1 := Lib.hid (HB.out.trans hg1); clear hg1
  by_cases d1 : r1 < 0
  · go_wp2_with fail
    go_ret
    exact ⟨-1, rfl, by omega, by omega, HG1.out⟩
  replace hr1 := hr1 (by omega)
  go_wp2_with fail
  go_ret
  exact ⟨r1, rfl, by omega, by omega, HG1.out⟩

set_option maxRecDepth 100000 in
set_option maxHeartbeats 4000000 in
theorem toL_Server (a0 : ByteArray) (a1 : Rw) (w : World) (hx1 : IsFileS a1) (rx1 : a1.ReadR w.heap.size w) (hl1 : a1.weight ≤ 1099511627776) :
    Calls Try.prog 19 #[.agg #[.string a0, a1.cell]] w fun e w' => ∃ b1 : Rw, e = .returned (.agg #[.string a0, b1.cell]) ∧ IsFileS b1 ∧ b1.data = a1.data ∧ OwnRL w.heap.size w'.heap.size w' [b1] ∧ (blocksL [b1]).Nodup ∧ Below w.heap.size w w' := by
  obtain ⟨xa1, xn1, xc1, hxc1⟩ := sl_form (is_sl_FileS hx1) rx1
  obtain ⟨W, hW⟩ : ∃ W, ((w.alloc (.cells #[.string a0, .slice xa1 xn1 xc1] 41)).alloc (.cells #[.string ⟨#[]⟩, .slice none 0 0] 47)).alloc (.cells #[.string a0, .slice none 0 0] 47) = W := ⟨_, rfl⟩
  have hg0 : Grw w W := by rw [← hW]; exact (((Grw.refl w).alloc _).alloc _).alloc _
  have ho : W.heap[w.heap.size + 2]? = some (.cells #[.string a0, .slice none 0 0] 47 (0, 0)) := by rw [← hW]; exact three_new2 w _ _ _
  have hz : W.heap[w.heap.size + 1]? = some (.cells #[.string ⟨#[]⟩, .slice none 0 0] 47 (0, 0)) := by rw [← hW]; exact three_new1 w _ _ _
  have ha : W.heap[w.heap.size]? = some (.cells #[.string a0, .slice xa1 xn1 xc1] 41 (0, 0)) := by rw [← hW]; exact three_new0 w _ _ _
  have HSZ := Lib.hid (show w.heap.size + 3 ≤ W.heap.size by rw [← hW, size_alloc, size_alloc, size_alloc]; exact Nat.le_refl _)
  have HTO1 := Lib.hid (fun (V : World) (hv : Below w.heap.size w V) => by have hr := to_FileS a1 hx1 V (Rw.ReadR.mono hv.size _ (Rw.ReadR.below hv (Nat.le_refl _) _ rx1)) hl1; rw [hxc1] at hr; exact hr)
  rw [hxc1]
  have HB := Lib.hid hg0.below; have HO := Lib.hid ho; have HZ := Lib.hid hz; have HA := Lib.hid ha; have HW := Lib.hid hW
  clear rx1 hxc1 hg0 ho hz ha hW
  go_enter Try.func19, Try.ntmps19
  go_wp2_with fail
  rw [HW.out]
  refine (HTO1.out _ HB.out).mono ?_
  rintro e w1 ⟨y1, rfl, hy1, hd1, hn1, ho1, hb⟩
  obtain ⟨ya1, yn1, yc1, hyc1⟩ := sl_form (is_sl_FileS hy1) (Rw.OwnR.reads _ ho1)
  rw [hyc1]
  have HY1 := Lib.hid hy1; have HD1 := Lib.hid hd1; have HN1 := Lib.hid hn1; have HYC1 := Lib.hid hyc1; clear hy1 hd1 hn1 hyc1
  have HOW1 := Lib.hid (own_mono ho1 HSZ.out (Nat.le_refl _)); clear ho1
  have h1 := below_heap hb (heap_lt HO.out) HO.out; have h2 := below_heap hb (heap_lt HA.out) HA.out; have h3 := below_heap hb (heap_lt HZ.out) HZ.out
  replace HB := Lib.hid (HB.out.trans (hb.mono HB.out.size)); replace HSZ := Lib.hid (Nat.le_trans HSZ.out hb.size); clear hb
  have oq0 := box_cell h1 (j := 0) rfl; have oz0 := box_frz h1 0
  have oq1 := box_cell h1 (j := 1) rfl; have oz1 := box_frz h1 1
  have pq0 := box_cell h2 (j := 0) rfl
  have pq1 := box_cell h2 (j := 1) rfl
  have sq0 := box_cell h3 (j := 0) rfl; have sz0 := box_frz h3 0
  have sq1 := box_cell h3 (j := 1) rfl; have sz1 := box_frz h3 1
  replace HO := Lib.hid h1; replace HA := Lib.hid h2; replace HZ := Lib.hid h3; clear h1 h2 h3
  go_wp2_with fail
  have h1 := HO.out; have h2 := HA.out; have h3 := HZ.out
  replace h1 := heap_one (o := 1) h1 (.slice ya1 yn1 yc1)
  replace h2 := box_far h2 (show w.heap.size ≠ w.heap.size + 2 by omega) 1 (.slice ya1 yn1 yc1)
  replace h3 := box_far h3 (show w.heap.size + 1 ≠ w.heap.size + 2 by omega) 1 (.slice ya1 yn1 yc1)
  replace h1 : (w1.setCell ⟨w.heap.size + 2, 1, none⟩ (.slice ya1 yn1 yc1)).heap[w.heap.size + 2]? = some (.cells #[.string a0, .slice ya1 yn1 yc1] 47 (0, 0)) := h1
  replace h3 := heap_one (o := 0) h3 (.string a0)
  replace h3 := heap_one (o := 1) h3 (.slice ya1 yn1 yc1)
  replace h3 : (((w1.setCell ⟨w.heap.size + 2, 1, none⟩ (.slice ya1 yn1 yc1)).setCell ⟨w.heap.size + 1, 0, none⟩ (.string a0)).setCell ⟨w.heap.size + 1, 1, none⟩ (.slice ya1 yn1 yc1)).heap[w.heap.size + 1]? = some (.cells #[.string a0, .slice ya1 yn1 yc1] 47 (0, 0)) := h3
  have HON := Lib.hid (show OnlyB [w.heap.size + 1, w.heap.size + 2] w1 (((w1.setCell ⟨w.heap.size + 2, 1, none⟩ (.slice ya1 yn1 yc1)).setCell ⟨w.heap.size + 1, 0, none⟩ (.string a0)).setCell ⟨w.heap.size + 1, 1, none⟩ (.slice ya1 yn1 yc1)) from (((OnlyB.refl _ w1).set (by simp)).set (by simp)).set (by simp))
  replace HOW1 := Lib.hid (Rw.OwnR.top (Rw.OwnR.only HON.out y1 HOW1.out fun b hb hm => by have h := (Rw.OwnR.lt y1 HOW1.out b hb).1; simp only [List.mem_cons, List.mem_nil_iff, or_false] at hm; omega))
  replace HB := Lib.hid (HB.out.trans (HON.out.below (fun b hb => by simp only [List.mem_cons, List.mem_nil_iff, or_false] at hb; omega) HB.out.size)); replace HSZ := Lib.hid (Nat.le_trans HSZ.out HON.out.size)
  clear HON
  have fq0 := box_cell h3 (j := 0) rfl
  have fq1 := box_cell h3 (j := 1) rfl
  refine bodyPost_ret (v := .agg #[.string a0, .slice ya1 yn1 yc1]) (by simp [results, Try.results19, go_sem, fq0, fq1]) rfl ?_
  refine ⟨y1, by rw [HYC1.out], HY1.out, HD1.out, ?_, ?_, HB.out⟩
  · refine ownRL_iff.2 fun c hc => ?_
    simp only [List.mem_cons, List.mem_nil_iff, or_false] at hc
    rcases hc with rfl
    exact own_mono HOW1.out (by omega) (Nat.le_refl _)
  · simp only [blocksL, List.append_nil]
    exact HN1.out

/-- What a slice of this type holds. -/
def IsServerS (x : Rw) : Prop := ∃ v n e cs, x = .sl v n 2 e cs ∧ ∀ j, j < n → ∃ (a0 : ByteArray) (a1 : Rw), cs[j * 2]? = some (.leaf (.string a0)) ∧ cs[j * 2 + 1]? = some a1 ∧ IsFileS a1
theorem is_sl_ServerS {x : Rw} (h : IsServerS x) : ∃ v n k e cs, x = .sl v n k e cs := by
  obtain ⟨v, n, e, cs, rfl, _⟩ := h
  exact ⟨v, n, _, e, cs, rfl⟩

set_option maxRecDepth 100000 in
set_option maxHeartbeats 4000000 in
theorem eq_ServerS (x y : Rw) (hx : IsServerS x) (hy : IsServerS y) (hd : x.data = y.data) (w : World) (rx : x.ReadR w.heap.size w) (ry : y.ReadR w.heap.size w) :
    Calls Try.prog 12 #[x.cell, y.cell] w fun e w' => e = .returned (.bool true) ∧ Grw w w' := by
  have mixed : Try.prog.follows .mixedOrders = true := by kernel_rfl
  obtain ⟨v, n, e0, cs, rfl, hrow⟩ := hx
  obtain ⟨v', n', e0', cs', rfl, hrow'⟩ := hy
  rw [Rw.data, Rw.data] at hd
  have hdd := (Dt.sl.inj hd).2; clear hd
  rw [Rw.ReadR] at rx ry
  rw [Rw.cell_sl, Rw.cell_sl]
  obtain ⟨⟨a, cap, rfl, hlen, hc1, hc2, _, hcells⟩, hin⟩ := rx
  obtain ⟨⟨a', cap', rfl, hlen', hc1', hc2', _, hcells'⟩, hin'⟩ := ry
  have hnn : n = n' := by have := congrArg List.length hdd; rw [dataL_len, dataL_len] at this; omega
  subst hnn
  have HROW := Lib.hid hrow; have HROW' := Lib.hid hrow'; have HD := Lib.hid hdd; have HC := Lib.hid hcells; have HC' := Lib.hid hcells'; have HIN := Lib.hid hin; have HIN' := Lib.hid hin'
  clear hrow hrow' hdd hcells hcells' hin hin' hlen hlen'
  go_enter Try.func12, Try.ntmps12
  go_wp2
  go_loopw [5] (fun i wr => ∃ (j : Nat), j ≤ n ∧ i = .int .i64 j ∧ Grw w wr)
    (fun i _ => n - (intOf i).toNat)
  case atStart => exact ⟨0, Nat.zero_le _, rfl, Grw.refl _⟩
  case round =>
    obtain ⟨j, hj, rfl, hs⟩ := hrel
    have HS := Lib.hid hs
    clear hs
    by_cases hlt : (j : Int) < (n : Int)
    · rcases HC.out with h0 | ⟨g, off, rfl, hg, hcells⟩
      · omega
      · rcases HC'.out with h0 | ⟨g', off', rfl, hg', hcells'⟩
        · omega
        · have HCL := Lib.hid hcells; have HCL' := Lib.hid hcells'; clear hcells hcells'
          obtain ⟨a0, a1, f0, f1, s1⟩ := HROW.out j (by omega)
          obtain ⟨b0, b1, f0', f1', s1'⟩ := HROW'.out j (by omega)
          have hd0 := data_same HD.out f0 f0'
          have hv0 := leaf_same hd0; obtain rfl : a0 = b0 := by cases hv0; rfl
          clear hd0 hv0
          have c0 : ∀ m os, (Sort.grow (wr.drewN m) os).cell? ⟨g, off + j * 2, none⟩ = some (.string a0) := cell_grown (show g < wr.heap.size by have := HS.out.below.size; omega) (by rw [HS.out.below.cell (show g < _ by omega)]; exact HCL.out (j * 2) _ (by rw [List.getElem?_map, f0]; rfl))
          have c0' : ∀ m os, (Sort.grow (wr.drewN m) os).cell? ⟨g', off' + j * 2, none⟩ = some (.string a0) := cell_grown (show g' < wr.heap.size by have := HS.out.below.size; omega) (by rw [HS.out.below.cell (show g' < _ by omega)]; exact HCL'.out (j * 2) _ (by rw [List.getElem?_map, f0']; rfl))
          have hd1 := data_same HD.out f1 f1'
          have c1 : ∀ m os, (Sort.grow (wr.drewN m) os).cell? ⟨g, off + j * 2 + 1, none⟩ = some (a1.cell) := cell_grown (show g < wr.heap.size by have := HS.out.below.size; omega) (by rw [HS.out.below.cell (show g < _ by omega)]; rw [Nat.add_assoc]; exact HCL.out (j * 2 + 1) _ (by rw [List.getElem?_map, f1]; rfl))
          have c1' : ∀ m os, (Sort.grow (wr.drewN m) os).cell? ⟨g', off' + j * 2 + 1, none⟩ = some (b1.cell) := cell_grown (show g' < wr.heap.size by have := HS.out.below.size; omega) (by rw [HS.out.below.cell (show g' < _ by omega)]; rw [Nat.add_assoc]; exact HCL'.out (j * 2 + 1) _ (by rw [List.getElem?_map, f1']; rfl))
          have HE := Lib.hid (fun (n : Nat) (os : Array Obj) => (show Grw w wr from HS.out) |> fun HG0 => eq_Server a0 a1 b1 (Sort.grow (wr.drewN n) os) s1 s1' hd1 ((HG0.trans ⟨n, os, rfl⟩).rd (readRL_iff.1 HIN.out _ (List.mem_of_getElem? f1))) ((HG0.trans ⟨n, os, rfl⟩).rd (readRL_iff.1 HIN'.out _ (List.mem_of_getElem? f1'))))
          clear f0 f0' f1 f1'
          go_wp2_with fail
          refine wp_region_quiet_grown mixed (by kernel_rfl) ?_
          repeat (go_big_quiet_step (first | (go_at_call 23; refine Calls.grown_of (HE.out _ _))))
          refine wpQuiet_nil ?_; intro _ hw'; obtain ⟨⟨nq, osq⟩, hw''⟩ := hw'; subst hw''
          have HG1 := Lib.hid (HS.out.trans ⟨nq, osq, rfl⟩)
          obtain ⟨w1, hw1⟩ : ∃ x, Sort.grow (wr.drewN nq) osq = x := ⟨_, rfl⟩
          rw [hw1] at HG1 ⊢; clear hw1 c0 c0' c1 c1'
          go_wp2_with fail
          go_roundw
          case rel => exact ⟨j + 1, by omega, by go_num, HG1.out⟩
          case measure => simp [intOf]; omega
    · have hkn : decide ((j : Int) < (n : Int)) = false := decide_eq_false hlt
      go_wp2_with fail
      go_ret
      exact ⟨rfl, HS.out⟩

set_option maxRecDepth 100000 in
set_option maxHeartbeats 4000000 in
theorem sz_ServerS (x : Rw) (hx : IsServerS x) (left : Int) (l1 : 0 ≤ left) (l2 : left ≤ 1099511627776) (w : World) (rx : x.ReadR w.heap.size w) (hz : x.Small) :
    Calls Try.prog 5 #[x.cell, .int .i64 left] w fun e w' => ∃ r : Int, e = .returned (.int .i64 r) ∧ -1 ≤ r ∧ (0 ≤ r → r + (x.weight : Nat) = left) ∧ Grw w w' := by
  obtain ⟨v, n, e0, cs, rfl, hrow⟩ := hx
  rw [Rw.ReadR] at rx; rw [Rw.Small] at hz; rw [Rw.cell_sl, Rw.weight]
  obtain ⟨⟨a, cap, rfl, hlen, hc1, hc2, _, hcells⟩, hin⟩ := rx
  have HROW := Lib.hid hrow; have HC := Lib.hid hcells; have HIN := Lib.hid hin; have HZ := Lib.hid (smallL_iff.1 hz); have HLEN := Lib.hid hlen
  clear hrow hcells hin hz hlen
  obtain ⟨wt, hwt⟩ : ∃ f : Nat → Nat, f = fun m => weightL (cs.take m) := ⟨_, rfl⟩
  have HWT := Lib.hid hwt; clear hwt
  by_cases h0 : left - n < 0
  · go_enter Try.func5, Try.ntmps5
    go_wp2
    go_ret
    exact ⟨-1, rfl, by omega, by omega, Grw.refl _⟩
  · go_enter Try.func5, Try.ntmps5
    go_wp2
    go_loopw [1, 5] (fun q i wr => ∃ (j : Nat) (r : Int), j ≤ n ∧ i = .int .i64 j ∧ q = .int .i64 r ∧ 0 ≤ r ∧ r + n + (wt (j * 2) : Nat) = left ∧ Grw w wr)
      (fun _ i _ => n - (intOf i).toNat)
    case atStart => exact ⟨0, left - n, Nat.zero_le _, rfl, rfl, by omega, by rw [HWT.out]; (simp [weightL]; try omega), Grw.refl _⟩
    case round =>
      obtain ⟨j, r, hj, rfl, rfl, hr0, hr1, hs⟩ := hrel
      have HS := Lib.hid hs; have HR1 := Lib.hid hr1
      have hr2 : r ≤ 1099511627776 := by omega
      clear hs hr1
      by_cases hlt : (j : Int) < (n : Int)
      · rcases HC.out with hz0 | ⟨g, off, rfl, hg, hcells⟩
        · omega
        · have HCL := Lib.hid hcells; clear hcells
          obtain ⟨a0, a1, f0, f1, s1⟩ := HROW.out j (by omega)
          have c0 : wr.cell? ⟨g, off + j * 2, none⟩ = some (.string a0) := by rw [HS.out.below.cell (show g < _ by omega)]; exact HCL.out (j * 2) _ (by rw [List.getElem?_map, f0]; rfl)
          have z0 : a0.size ≤ 9223372036854775807 := by have := HZ.out _ (List.mem_of_getElem? f0); rw [Rw.Small] at this; exact this
          have hw0 : weightL (cs.take (j * 2 + 1)) = weightL (cs.take (j * 2)) + _ := weightL_more f0; rw [Rw.weight] at hw0; simp only [weightV] at hw0
          have c1 : wr.cell? ⟨g, off + j * 2 + 1, none⟩ = some (a1.cell) := by rw [HS.out.below.cell (show g < _ by omega)]; rw [Nat.add_assoc]; exact HCL.out (j * 2 + 1) _ (by rw [List.getElem?_map, f1]; rfl)
          have z1 := HZ.out _ (List.mem_of_getElem? f1)
          have hw1 : weightL (cs.take (j * 2 + 2)) = weightL (cs.take (j * 2 + 1)) + _ := weightL_more f1
          have HW := Lib.hid (show wt ((j + 1) * 2) = wt (j * 2) + (a0.size + a1.weight) by rw [HWT.out, Nat.add_mul, Nat.one_mul]; show weightL (cs.take (j * 2 + 2)) = weightL (cs.take (j * 2)) + _; omega)
          clear hw0 hw1
          go_wp2_with fail
          refine (sz_Server a0 a1 r (by omega) hr2 _ z0 s1 (HS.out.rd (readRL_iff.1 HIN.out _ (List.mem_of_getElem? f1))) z1).mono ?_
          rintro e w2 ⟨r2, rfl, hr3, hr4, hg2⟩
          have HG2 := Lib.hid (HS.out.trans hg2); clear hg2
          by_cases hneg : r2 < 0
          · go_wp2_with fail
            go_ret
            exact ⟨-1, rfl, by omega, by omega, HG2.out⟩
          · have hr5 := hr4 (by omega)
            clear hr4
            have HR5 := Lib.hid hr5; clear hr5
            go_wp2_with fail
            go_roundw
            case rel => exact ⟨j + 1, r2, by omega, by go_num, rfl, by omega, by rw [HW.out]; have := HR5.out; have := HR1.out; omega, HG2.out⟩
            case measure => simp [intOf]; omega
      · have hjn : j = n := by omega
        subst hjn
        have HF := Lib.hid (show wt (j * 2) = weightL cs by rw [HWT.out]; show weightL (cs.take (j * 2)) = _; rw [List.take_of_length_le (by have := HLEN.out; omega)])
        go_wp2_with fail
        go_ret
        exact ⟨r, rfl, by omega, fun _ => by have := HF.out; have := HR1.out; omega, HS.out⟩

theorem info_ServerS : (Try.prog.info? 47).map (fun i => (i.zero, i.size, i.bytes)) = some (some (.agg #[.string ⟨#[]⟩, .slice none 0 0]), 2, 40) := by kernel_rfl
set_option maxRecDepth 100000 in
set_option maxHeartbeats 4000000 in
theorem to_ServerS (x : Rw) (hx : IsServerS x) (w : World) (rx : x.ReadR w.heap.size w) (hl : x.weight ≤ 1099511627776) :
    Calls Try.prog 8 #[x.cell] w fun e w' => ∃ y : Rw, e = .returned y.cell ∧ IsServerS y ∧ y.data = x.data ∧ y.blocks.Nodup ∧ y.OwnR w.heap.size w'.heap.size w' ∧ Below w.heap.size w w' := by
  obtain ⟨i0, hi0, hz0, hz1, hz2⟩ := info_parts info_ServerS
  obtain ⟨v, n, e0, cs, rfl, hrow⟩ := hx
  rw [Rw.ReadR] at rx; rw [Rw.weight] at hl; rw [Rw.cell_sl, Rw.data]
  obtain ⟨⟨a, cap, rfl, hlen, hc1, hc2, _, hcells⟩, hin⟩ := rx
  have hnl : n ≤ 1099511627776 := by omega
  have HWL := Lib.hid (show weightL cs ≤ 1099511627776 by omega)
  have HROW := Lib.hid hrow; have HC := Lib.hid hcells; have HLEN := Lib.hid hlen; have HI := Lib.hid hz2; have HIN := Lib.hid (readRL_iff.1 hin)
  clear hrow hcells hin hlen hz2 hl
  go_enter Try.func8, Try.ntmps8
  go_wp2_with (at_make; refine wpList_make_full _ rfl _ _ 30 rfl w.heap.size 47 i0 (.agg #[.string ⟨#[]⟩, .slice none 0 0]) 2 Try.underlying30 hi0 hz0 hz1 .i64 .i64 _ _ n rfl rfl rfl rfl ?c1 ?c2 (Nat.le_refl _) ?_)
  case c1 => rw [HI.out]; omega
  case c2 => unfold maxLen; omega
  intro w1 hown1 hgr1
  have hb1 : Below w.heap.size w w1 := (Below.refl _ _).grown hgr1 (Nat.le_refl _) (fun k h => by cases h)
  have hml : (madeCells #[.string ⟨#[]⟩, .slice none 0 0] (n * 2)).toList.length = n * 2 := by rw [Array.length_toList, size_madeCells]
  have ho1 := leaves_own hown1 (made_one (by intro u hu; have hm : u ∈ [.string ⟨#[]⟩, .slice none 0 0] := Array.mem_toList_iff.2 hu; simp only [List.mem_cons, List.mem_nil_iff, or_false] at hm; rcases hm with rfl | rfl <;> rfl) (by decide) _)
  have hb0 := leaves_blocks (madeCells #[.string ⟨#[]⟩, .slice none 0 0] (n * 2)).toList
  have hlf : ∀ m, m < n * 2 → ∃ u, ((madeCells #[.string ⟨#[]⟩, .slice none 0 0] (n * 2)).toList.map Rw.leaf)[m]? = some (.leaf u) := fun m hm => ⟨_, by rw [List.getElem?_map, List.getElem?_eq_getElem (by omega)]; rfl⟩
  obtain ⟨ds0, hds0⟩ : ∃ d, (madeCells #[.string ⟨#[]⟩, .slice none 0 0] (n * 2)).toList.map Rw.leaf = d := ⟨_, rfl⟩
  rw [hds0] at ho1 hb0 hlf; clear hds0 hml hown1 hgr1
  have HO1 := Lib.hid ho1; have HB1 := Lib.hid hb1; have HBL := Lib.hid hb0; have HLF := Lib.hid hlf; clear ho1 hb1 hb0 hlf
  go_wp2
  go_loopw [4] (fun i wr => ∃ (j : Nat) (ds : List Rw), j ≤ n ∧ i = .int .i64 j ∧ (Rw.sl (.slice (some ⟨w.heap.size, 0, none⟩) n n) n 2 47 ds).OwnR w.heap.size wr.heap.size wr ∧ (w.heap.size ∉ blocksL ds ∧ (blocksL ds).Nodup) ∧ (∀ p, p < j → ∃ (a0 : ByteArray) (a1 : Rw), ds[p * 2]? = some (.leaf (.string a0)) ∧ ds[p * 2 + 1]? = some a1 ∧ IsFileS a1) ∧ (∀ m, m < j * 2 → ∀ c d, ds[m]? = some c → cs[m]? = some d → c.data = d.data) ∧ (∀ m, j * 2 ≤ m → m < n * 2 → ∃ u, ds[m]? = some (.leaf u)) ∧ Below w.heap.size w wr)
    (fun i _ => n - (intOf i).toNat)
  case atStart => exact ⟨0, ds0, Nat.zero_le _, rfl, HO1.out, ⟨by rw [HBL.out]; simp, by rw [HBL.out]; simp⟩, fun p hp => by omega, fun m hm => by omega, fun m _ hm => HLF.out m hm, HB1.out⟩
  case round =>
    obtain ⟨j, ds, hj, rfl, hown, hnd, hrows, hdat, hzero, hbw⟩ := hrel
    have HO := Lib.hid hown; have HND := Lib.hid hnd; have HRS := Lib.hid hrows; have HDT := Lib.hid hdat; have HZR := Lib.hid hzero; have HB := Lib.hid hbw
    clear hown hnd hrows hdat hzero hbw HO1 HB1 HBL HLF
    have HDL := Lib.hid (show ds.length = n * 2 by have h := HO.out; rw [Rw.OwnR] at h; have := h.1.1.1; rwa [List.length_map] at this)
    by_cases hlt : (j : Int) < (n : Int)
    · rcases HC.out with h0 | ⟨g, off, rfl, hg, hcells⟩
      · omega
      · have HCL := Lib.hid hcells; clear hcells
        obtain ⟨a0, a1, f0, f1, s1⟩ := HROW.out j (by omega)
        have c0 : wr.cell? ⟨g, off + j * 2, none⟩ = some (.string a0) := by rw [HB.out.cell (show g < _ by omega)]; exact HCL.out (j * 2) _ (by rw [List.getElem?_map, f0]; rfl)
        have HM0 := Lib.hid f0; clear f0
        have c1 : wr.cell? ⟨g, off + j * 2 + 1, none⟩ = some (a1.cell) := by rw [HB.out.cell (show g < _ by omega)]; rw [Nat.add_assoc]; exact HCL.out (j * 2 + 1) _ (by rw [List.getElem?_map, f1]; rfl)
        have HM1 := Lib.hid f1; clear f1
        have hto := toL_Server a0 a1 wr s1 (Rw.ReadR.mono HB.out.size _ (Rw.ReadR.below HB.out (Nat.le_refl _) _ (HIN.out _ (List.mem_of_getElem? HM1.out)))) (Nat.le_trans (weightL_mem (List.mem_of_getElem? HM1.out)) HWL.out)
        obtain ⟨xa1, xn1, xc1, hxc1⟩ := sl_form (is_sl_FileS s1) (HIN.out _ (List.mem_of_getElem? HM1.out))
        rw [hxc1] at hto c1
        have HTO := Lib.hid hto; clear hto
        go_wp2_with fail
        refine HTO.out.mono ?_
        rintro e w2 ⟨y1, rfl, hy1, hd1, hoy, hny, hb2⟩
        obtain ⟨ya1, yn1, yc1, hyc1⟩ := sl_form (is_sl_FileS hy1) (Rw.OwnR.reads _ (ownRL_iff.1 hoy y1 (by simp)))
        rw [hyc1]
        have HY1 := Lib.hid hy1; have HDY1 := Lib.hid hd1; have HYC1 := Lib.hid hyc1; clear hy1 hd1 hyc1
        have HX := Lib.hid (show ∀ b ∈ blocksL [y1], b ∉ blocksL ds ∧ b ≠ w.heap.size from fun b hb => by have h1 := (ownL_lt hoy b hb).1; refine ⟨fun hm => ?_, ?_⟩; · { have h := HO.out; rw [Rw.OwnR] at h; have h2 := ownL_lt h.2 b hm; omega }; · { have h := HO.out; rw [Rw.OwnR] at h; have h2 := h.1.1.lt w.heap.size rfl; omega })
        have HO2 := Lib.hid (Rw.OwnR.top (HO.out.later hb2)); have HB2 := Lib.hid (HB.out.trans (hb2.mono HB.out.size)); have HOY := Lib.hid (own_mono_L hoy HB.out.size); have HNY := Lib.hid hny
        clear hoy hny hb2
        obtain ⟨u0, hu0⟩ := HZR.out (j * 2) (by omega) (by omega)
        have d0 : w2.cell? ⟨w.heap.size, j * 2, none⟩ = some u0 := by have h := HO2.out; rw [Rw.OwnR] at h; rw [h.1.1.cellAt (j * 2) (by omega), List.getElem?_map, hu0]; rfl
        have z0 : w2.frozen? ⟨w.heap.size, j * 2, none⟩ = false := by have h := HO2.out; rw [Rw.OwnR] at h; exact h.1.1.frozenAt _
        have HU0 := Lib.hid hu0; clear hu0
        obtain ⟨u1, hu1⟩ := HZR.out (j * 2 + 1) (by omega) (by omega)
        have d1 : w2.cell? ⟨w.heap.size, j * 2 + 1, none⟩ = some u1 := by have h := HO2.out; rw [Rw.OwnR] at h; rw [h.1.1.cellAt (j * 2 + 1) (by omega), List.getElem?_map, hu1]; rfl
        have z1 : w2.frozen? ⟨w.heap.size, j * 2 + 1, none⟩ = false := by have h := HO2.out; rw [Rw.OwnR] at h; exact h.1.1.frozenAt _
        have HU1 := Lib.hid hu1; clear hu1
        go_wp2
        go_roundw
        case rel =>
          have P0 := HO2.out
          have N0 := HND.out
          have D0 := HOY.out
          have Q0 := P0.put (y := .leaf (.string a0)) N0.1 (show (ds)[j * 2]? = some (.leaf u0) by exact HU0.out) (by rw [Rw.OwnR]; rfl) (by rw [Rw.blocks]; simp)
          have P1 := Rw.OwnR.top Q0.1
          have N1 : w.heap.size ∉ blocksL ((ds).set (j * 2) (.leaf (.string a0))) ∧ (blocksL ((ds).set (j * 2) (.leaf (.string a0)))).Nodup := ⟨fun h => by rcases (Q0.2.2.1 _).1 h with h | h; · { rw [Rw.blocks] at h; cases h }; · { exact N0.1 h }, Q0.2.2.2 N0.2 (by rw [Rw.blocks]; simp) (by rw [Rw.blocks]; intro b hb; cases hb)⟩
          have D1 := ownL_only (L := [y1]) D0 Q0.2.1 (fun b hb hm => by rw [List.mem_singleton] at hm; exact (HX.out b hb).2 hm)
          have Q1 := P1.put (y := y1) N1.1 (show (((ds).set (j * 2) (.leaf (.string a0))))[j * 2 + 1]? = some (.leaf u1) by rw [List.getElem?_set_ne (by omega)]; exact HU1.out) (Rw.OwnR.top (ownRL_iff.1 D1 y1 (by simp))) (fun hm => (HX.out _ (blocksL_mem.2 ⟨y1, by simp, hm⟩)).2 rfl)
          rw [HYC1.out] at Q1
          have P2 := Rw.OwnR.top Q1.1
          have N2 : w.heap.size ∉ blocksL ((((ds).set (j * 2) (.leaf (.string a0)))).set (j * 2 + 1) (y1)) ∧ (blocksL ((((ds).set (j * 2) (.leaf (.string a0)))).set (j * 2 + 1) (y1))).Nodup := ⟨fun h => by rcases (Q1.2.2.1 _).1 h with h | h; · { exact (HX.out _ (blocksL_mem.2 ⟨y1, by simp, h⟩)).2 rfl }; · { exact N1.1 h }, Q1.2.2.2 N1.2 (nodup_in HNY.out (by simp)) (fun b hb hm => by rcases (Q0.2.2.1 _).1 hm with hm | hm; · { rw [Rw.blocks] at hm; cases hm }; exact (HX.out b (blocksL_mem.2 ⟨y1, by simp, hb⟩)).1 hm)⟩
          have D2 := ownL_only (L := [y1]) D1 Q1.2.1 (fun b hb hm => by rw [List.mem_singleton] at hm; exact (HX.out b hb).2 hm)
          refine ⟨j + 1, ((((ds).set (j * 2) (.leaf (.string a0)))).set (j * 2 + 1) (y1)), by omega, by go_num, P2, N2, fun p hp => ?_, fun m hm c d hc hd => ?_, fun m hm1 hm2 => ?_, ((HB2.out.setCell (Nat.le_refl _) _).setCell (Nat.le_refl _) _)⟩
          · by_cases e : p = j
            · subst e
              exact ⟨a0, y1, by rw [List.getElem?_set_ne (by omega), List.getElem?_set_self (by have := HDL.out; first | omega | (simp only [List.length_set]; omega))], by rw [List.getElem?_set_self (by have := HDL.out; first | omega | (simp only [List.length_set]; omega))], HY1.out⟩
            · obtain ⟨o0, o1, f0, f1, s1⟩ := HRS.out p (by omega)
              exact ⟨o0, o1, by rw [List.getElem?_set_ne (by omega), List.getElem?_set_ne (by omega)]; exact f0, by rw [List.getElem?_set_ne (by omega), List.getElem?_set_ne (by omega)]; exact f1, s1⟩
          · have hmm : m < j * 2 ∨ m = j * 2 ∨ m = j * 2 + 1 := by omega
            rcases hmm with h | rfl | rfl
            · rw [List.getElem?_set_ne (by omega), List.getElem?_set_ne (by omega)] at hc; exact HDT.out m h c d hc hd
            · rw [List.getElem?_set_ne (by omega), List.getElem?_set_self (by have := HDL.out; first | omega | (simp only [List.length_set]; omega))] at hc; cases hc; rw [HM0.out] at hd; cases hd; rfl
            · rw [List.getElem?_set_self (by have := HDL.out; first | omega | (simp only [List.length_set]; omega))] at hc; cases hc; rw [HM1.out] at hd; cases hd; exact HDY1.out
          · obtain ⟨u, hu⟩ := HZR.out m (by omega) hm2; exact ⟨u, by rw [List.getElem?_set_ne (by omega), List.getElem?_set_ne (by omega)]; exact hu⟩
        case measure => simp [intOf]; omega
    · have hjn : j = n := by omega
      subst hjn
      go_wp2
      go_ret
      refine ⟨.sl (.slice (some ⟨w.heap.size, 0, none⟩) j j) j 2 47 ds, rfl, ⟨_, _, _, _, rfl, HRS.out⟩, ?_, ?_, HO.out, HB.out⟩
      · rw [Rw.data, dataL_ext (by rw [HDL.out, HLEN.out]) fun m c d hc hd => HDT.out m (by have := (List.getElem?_eq_some_iff.1 hc).1; have := HDL.out; omega) c d hc hd]
      · rw [Rw.blocks]; exact List.nodup_cons.2 HND.out

end Go.Proofs.Ytpkicliimhflgaa
namespace Go.Proofs.Ytpkicliimhflgaa
open Go.ChangeShapes Go.WideShapes Go.ChangeAt Go.RowKit

def encS (s : ByteArray) : List Value := [.string s]
theorem encS_len (s : ByteArray) : (encS s).length = 1 := rfl
theorem encS_one (s : ByteArray) : ∀ u ∈ encS s, u.oneCell' = true := by
  intro u hu
  simp only [encS, List.mem_cons, List.mem_nil_iff, or_false] at hu
  subst hu; rfl
theorem infoStr : (Try.prog.info? 9).map (fun i => (i.zero, i.size, i.bytes)) = some (some (.string ⟨#[]⟩), 1, 16) := by kernel_rfl
/-- A new slice of these elements, the call's own; of what lay in memory nothing is written. -/
def NewK {α : Type} (enc : α → List Value) (k : Nat) (e : TypeId) (xs : List α) (w : World) (en : Ending) (w' : World) : Prop :=
  ∃ v, en = .returned v ∧ OwnK enc k e w.heap.size w'.heap.size w' v xs ∧ Below w.heap.size w w'
theorem add_off (g off t : Nat) : (⟨g, off, none⟩ : Addr).add t = ⟨g, off + t, none⟩ := by unfold Addr.add; split <;> simp_all
theorem leaf_of_data {c : Rw} {v : Value} (h : c.data = (Rw.leaf v).data) : c = .leaf v := by
  cases c with
  | leaf u => rw [leaf_same h]
  | sl u n k e cs => rw [Rw.data, Rw.data] at h; cases h

end Go.Proofs.Ytpkicliimhflgaa
namespace Go.Proofs.Ytpkicliimhflgaa
open Go.ChangeShapes Go.WideShapes Go.ChangeAt Go.RowKit

section
variable {α : Type} {enc : α → List Value} {k : Nat}
theorem leaf_cells : ∀ l : List Value, (l.map Rw.leaf).map Rw.cell = l
  | [] => rfl
  | a :: l => by rw [List.map_cons, List.map_cons, leaf_cells l]; rfl
def lfCells (enc : α → List Value) (xs : List α) : List Rw := (xs.flatMap enc).map Rw.leaf
/-- A slice of plain structs. -/
def rwP (enc : α → List Value) (k : Nat) (e : TypeId) (v : Value) (xs : List α) : Rw := .sl v xs.length k e (lfCells enc xs)
theorem rwP_cell (enc : α → List Value) (k : Nat) (e : TypeId) (v : Value) (xs : List α) : (rwP enc k e v xs).cell = v := rfl
theorem lf_map (xs : List α) : (lfCells enc xs).map Rw.cell = xs.flatMap enc := leaf_cells _
theorem lf_len (hk : ∀ x, (enc x).length = k) (xs : List α) : (lfCells enc xs).length = xs.length * k := by unfold lfCells; rw [List.length_map, flat_len hk]
theorem lf_at (hk : ∀ x, (enc x).length = k) {xs : List α} {j : Nat} {x : α} (h : xs[j]? = some x) {i : Nat} (hi : i < k) {u : Value} (hu : (enc x)[i]? = some u) : (lfCells enc xs)[j * k + i]? = some (.leaf u) := by
  unfold lfCells; rw [List.getElem?_map, flat_at hk h hi, hu]; rfl
theorem lf_leaf {xs : List α} {c : Rw} (h : c ∈ lfCells enc xs) : ∃ x, x ∈ xs ∧ ∃ u, u ∈ enc x ∧ c = .leaf u := by
  obtain ⟨u, hu, rfl⟩ := List.mem_map.1 h
  obtain ⟨x, hx, hux⟩ := List.mem_flatMap.1 hu
  exact ⟨x, hx, u, hux, rfl⟩
theorem lf_blocks (xs : List α) : blocksL (lfCells enc xs) = [] := blocksL_nil fun c hc => by
  obtain ⟨_, _, u, _, rfl⟩ := lf_leaf hc
  rw [Rw.blocks]
theorem rwP_blocks (e : TypeId) (v : Value) (xs : List α) : (rwP enc k e v xs).blocks = v.ownBlock.toList := by rw [rwP, Rw.blocks, lf_blocks, List.append_nil]
theorem rwP_nodup (e : TypeId) (v : Value) (xs : List α) : (rwP enc k e v xs).blocks.Nodup := by rw [rwP_blocks]; cases v.ownBlock <;> simp
theorem rwP_own (h1 : ∀ x, ∀ u ∈ enc x, u.oneCell' = true) {e : TypeId} {lo hi : Nat} {w : World} {v : Value} {xs : List α} (h : OwnK enc k e lo hi w v xs) : (rwP enc k e v xs).OwnR lo hi w := by
  rw [rwP, Rw.OwnR]
  exact ⟨by rw [lf_map]; exact h, ownRL_iff.2 fun c hc => by obtain ⟨x, _, u, hu, rfl⟩ := lf_leaf hc; rw [Rw.OwnR]; exact h1 x u hu⟩
theorem own_rwP {e : TypeId} {lo hi : Nat} {w : World} {v : Value} {xs : List α} (h : (rwP enc k e v xs).OwnR lo hi w) : OwnK enc k e lo hi w v xs := by
  rw [rwP, Rw.OwnR, lf_map] at h
  exact h.1
theorem rwP_reads (hk : ∀ x, (enc x).length = k) (h1 : ∀ x, ∀ u ∈ enc x, u.oneCell' = true) (e : TypeId) {hi : Nat} {w : World} {v : Value} {xs : List α} (h : ReadsK enc k hi w v xs) : (rwP enc k e v xs).ReadR hi w := by
  rw [rwP, Rw.ReadR]
  have h0 := h
  obtain ⟨a, cap, rfl, g1, g2, g3, g4⟩ := h
  refine ⟨⟨a, cap, rfl, lf_len hk xs, g1, g2, g3, ?_⟩, readRL_iff.2 fun c hc => by obtain ⟨x, _, u, hu, rfl⟩ := lf_leaf hc; rw [Rw.ReadR]; exact h1 x u hu⟩
  rcases g4 with g4 | ⟨g, off, rfl, hg, hc⟩
  · exact Or.inl g4
  · refine Or.inr ⟨g, off, rfl, hg, fun j c hj => ?_⟩
    rw [lf_map] at hj
    have := h0.news hk j c hj
    rwa [add_off] at this
theorem rwP_data (e e' : TypeId) (v u : Value) (xs : List α) : (rwP enc k e v xs).data = (rwP enc k e' u xs).data := by rw [rwP, rwP, Rw.data, Rw.data]
theorem rowP_of_data (hk : ∀ x, (enc x).length = k) {x : Rw} {e : TypeId} {u : Value} {xs : List α} {hi : Nat} {w : World} (h : x.data = (rwP enc k e u xs).data) (hr : x.ReadR hi w) (hk0 : 0 < k) : ReadsK enc k hi w x.cell xs := by
  cases x with
  | leaf v => rw [rwP, Rw.data, Rw.data] at h; cases h
  | sl v n k' e' cs =>
    rw [rwP, Rw.data, Rw.data] at h
    obtain ⟨rfl, hd⟩ := Dt.sl.inj h
    have hl : cs.length = xs.length * k' := by have := congrArg List.length hd; rwa [dataL_len, dataL_len, lf_len hk] at this
    rw [Rw.ReadR] at hr
    obtain ⟨⟨a, cap, rfl, g1, g2, g3, g4, g5⟩, _⟩ := hr
    have hn : n = xs.length := Nat.eq_of_mul_eq_mul_right hk0 (by omega)
    subst hn
    refine ⟨a, cap, rfl, g2, g3, g4, ?_⟩
    rcases g5 with g5 | ⟨g, off, rfl, hg, hc⟩
    · exact Or.inl g5
    · refine Or.inr ⟨g, off, rfl, hg, fun j y hj i hi' => ?_⟩
      have hjl := (List.getElem?_eq_some_iff.1 hj).1
      have hb : j * k' + i < xs.length * k' := by have := Nat.mul_le_mul_right k' (show j + 1 ≤ xs.length by omega); rw [Nat.add_mul] at this; omega
      obtain ⟨c, hcm⟩ : ∃ c, cs[j * k' + i]? = some c := ⟨_, List.getElem?_eq_getElem (by omega)⟩
      obtain ⟨s, hs⟩ : ∃ s, (enc y)[i]? = some s := ⟨_, List.getElem?_eq_getElem (by rw [hk]; exact hi')⟩
      have e1 := leaf_of_data (data_same hd hcm (lf_at hk hj hi' hs))
      rw [Nat.add_assoc, hs]
      refine hc (j * k' + i) _ ?_
      rw [List.getElem?_map, hcm, e1]; rfl
theorem weight_mem {c : Rw} : ∀ {cs : List Rw}, c ∈ cs → c.weight ≤ weightL cs
  | [], h => by cases h
  | d :: ds, h => by
    rw [weightL]
    rcases List.mem_cons.1 h with e | h
    · rw [e]; omega
    · have := weight_mem h; omega
theorem rwP_weight (e : TypeId) (v : Value) (xs : List α) : xs.length ≤ (rwP enc k e v xs).weight := by rw [rwP, Rw.weight]; omega
/-- A string among an element's cells is no longer than the whole. -/
theorem rwP_str {e : TypeId} {v : Value} {xs : List α} {x : α} (hx : x ∈ xs) {s : ByteArray} (hs : Value.string s ∈ enc x) : s.size ≤ (rwP enc k e v xs).weight := by
  have hm : Rw.leaf (.string s) ∈ lfCells enc xs := List.mem_map.2 ⟨_, List.mem_flatMap.2 ⟨x, hx, hs⟩, rfl⟩
  have h1 := weight_mem hm
  have h2 : (Rw.leaf (.string s)).weight = s.size := by rw [Rw.weight]; rfl
  rw [rwP, Rw.weight]; omega
theorem count_leafs : ∀ l : List Value, countL (l.map Rw.leaf) = l.length
  | [] => rfl
  | a :: l => by rw [List.map_cons, countL, count_leafs l, Rw.count, List.length_cons]; omega
theorem rwP_count (hk : ∀ x, (enc x).length = k) (e : TypeId) (v : Value) (xs : List α) : (rwP enc k e v xs).count = xs.length * k := by rw [rwP, Rw.count, lfCells, count_leafs, flat_len hk]
theorem rwP_small {e : TypeId} {v : Value} {xs : List α} (h : ∀ x ∈ xs, ∀ u ∈ enc x, weightV u ≤ 9223372036854775807) : (rwP enc k e v xs).Small := by
  rw [rwP, Rw.Small]
  refine smallL_iff.2 fun c hc => ?_
  obtain ⟨x, hx, u, hu, rfl⟩ := lf_leaf hc
  rw [Rw.Small]; exact h x hx u hu
/-- The cells of an element of such a slice. -/
theorem ReadsK.cells {hi n cap j : Nat} {w : World} {a : Option Addr} {xs : List α} {x : α} (h : ReadsK enc k hi w (.slice a n cap) xs) (hj : xs[j]? = some x) : ∃ g off, a = some ⟨g, off, none⟩ ∧ g < hi ∧ ∀ i, i < k → w.cell? ⟨g, off + j * k + i, none⟩ = (enc x)[i]? := by
  obtain ⟨a', c', e, _, _, _, hc⟩ := h
  injection e with e1 e2 e3; subst e1
  rcases hc with h0 | ⟨g, off, rfl, hg, hc⟩
  · have := (List.getElem?_eq_some_iff.1 hj).1; omega
  · exact ⟨g, off, rfl, hg, hc j x hj⟩
end

end Go.Proofs.Ytpkicliimhflgaa
namespace Go.Proofs.Ytpkicliimhflgaa
open Go.ChangeShapes Go.WideShapes Go.ChangeAt Go.RowKit

/-- What a slice of this type holds. -/
def IsTokenS (x : Rw) : Prop := ∃ v n e cs, x = .sl v n 4 e cs ∧ ∀ j, j < n → ∃ (a0 : Int) (a1 : ByteArray) (a2 : Rw) (a3 : ByteArray), cs[j * 4]? = some (.leaf (.int .i64 a0)) ∧ cs[j * 4 + 1]? = some (.leaf (.string a1)) ∧ cs[j * 4 + 2]? = some a2 ∧ IsAttrS a2 ∧ cs[j * 4 + 3]? = some (.leaf (.string a3))
theorem is_sl_TokenS {x : Rw} (h : IsTokenS x) : ∃ v n k e cs, x = .sl v n k e cs := by
  obtain ⟨v, n, e, cs, rfl, _⟩ := h
  exact ⟨v, n, _, e, cs, rfl⟩

end Go.Proofs.Ytpkicliimhflgaa
