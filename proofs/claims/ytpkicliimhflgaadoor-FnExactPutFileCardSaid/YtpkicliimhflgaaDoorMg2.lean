/- Helper contracts over the functions with which the laws copy, compare, measure and mark slices, by program (deep.py). Asked: what lies in memory is as named. Helper contracts over the functions with which the laws copy, compare, mark and look again at slices of bytes. Asked: the slices read as the lists named. Helper contracts over the functions with which the laws copy, compare, mark and look again at slices of integers. Asked: the slices read as the lists named. More on data with slices in slices: lists of them (a struct's slices), an own slice put into a cell, new slices of zero cells, boxes. No claim of its own. -/
import Derived.Test.YtpkicliimhflgaaDoorMg1
import Derived.Shelf.SlSortCmp.QuietGrown
import Derived.Laws.MakeOwn
namespace Go.Proofs.YtpkicliimhflgaaDoor

open Go.ChangeShapes Go.WideShapes Go.ChangeAt Go.RowKit

theorem mod3 (q : Nat) : (((q : Int) % 3 : Int) == 0) = decide (q % 3 = 0) := by
  by_cases h : q % 3 = 0
  · rw [decide_eq_true h]; exact beq_iff_eq.2 (by omega)
  · rw [decide_eq_false h]; exact beq_eq_false_iff_ne.2 (by omega)
theorem tmod3 (q : Nat) : ((Int.tmod (q : Int) 3 : Int) == 0) = decide (q % 3 = 0) := by
  rw [Int.tmod_eq_emod_of_nonneg (by omega)]; exact mod3 q
theorem grw_setC {a b : World} (h : Grw a b) {c o : Nat} (hp : a.heap.size ≤ c) (u : Value) : Grw a (b.setCell ⟨c, o, none⟩ u) := by
  obtain ⟨q, os, rfl⟩ := h
  refine ⟨q, os.modify (c - a.heap.size) fun | .cells c' elem frozen => .cells (if (none : Option Bool).isSome then c' else c'.setIfInBounds o u) elem frozen | x => x, ?_⟩
  unfold World.setCell Sort.grow
  congr 1
  apply Array.ext
  · simp
  · intro i h1 h2
    have hs : (a.drewN q).heap.size = a.heap.size := rfl
    rw [Array.getElem_modify]
    change (if c = i then _ else _) = _
    by_cases hi : i < a.heap.size
    · rw [if_neg (by omega), Array.getElem_append_left (by rw [hs]; exact hi), Array.getElem_append_left (by rw [hs]; exact hi)]
    · rw [Array.getElem_append_right (by rw [hs]; omega), Array.getElem_append_right (by rw [hs]; omega), Array.getElem_modify]
      by_cases hc : c = i
      · rw [if_pos hc, if_pos (by rw [hs]; omega)]; rfl
      · rw [if_neg hc, if_neg (by rw [hs]; omega)]

set_option maxRecDepth 100000 in
set_option maxHeartbeats 4000000 in
theorem toR_lit (a1 a2 : Int) (a3 : ByteArray) (a4 : Int) (a5 : Bool) (a6 : ByteArray) (w : World) :
    Calls Tryd.prog 17 #[.agg #[.int .i64 a1, .int .i64 a2, .string a3, .int .i64 a4, .bool a5, .string a6]] w fun e w' => e = .returned (.agg #[.int .i64 a1, .int .i64 a2, .string a3, .int .i64 a4, .bool a5, .string a6]) ∧ w' = ((w.alloc (.cells #[.int .i64 a1, .int .i64 a2, .string a3, .int .i64 a4, .bool a5, .string a6] 37)).alloc (.cells #[.int .i64 a1, .int .i64 a2, .string a3, .int .i64 a4, .bool a5, .string a6] 47)).alloc (.cells #[.int .i64 a1, .int .i64 a2, .string a3, .int .i64 a4, .bool a5, .string a6] 47) := by
  go_enter Tryd.func17, Tryd.ntmps17
  go_wp2_with fail
  refine bodyPost_ret (v := .agg #[.int .i64 a1, .int .i64 a2, .string a3, .int .i64 a4, .bool a5, .string a6]) (by simp [results, Tryd.results17, go_sem]) rfl ⟨rfl, ?_⟩
  rfl

/-- What a slice of this type holds. -/
def IsFileS (x : Rw) : Prop := ∃ v n e cs, x = .sl v n 7 e cs ∧ ∀ j, j < n → ∃ (a0 : ByteArray) (a1 : Int) (a2 : Int) (a3 : ByteArray) (a4 : Int) (a5 : Bool) (a6 : ByteArray), cs[j * 7]? = some (.leaf (.string a0)) ∧ cs[j * 7 + 1]? = some (.leaf (.int .i64 a1)) ∧ cs[j * 7 + 2]? = some (.leaf (.int .i64 a2)) ∧ cs[j * 7 + 3]? = some (.leaf (.string a3)) ∧ cs[j * 7 + 4]? = some (.leaf (.int .i64 a4)) ∧ cs[j * 7 + 5]? = some (.leaf (.bool a5)) ∧ cs[j * 7 + 6]? = some (.leaf (.string a6))
theorem is_sl_FileS {x : Rw} (h : IsFileS x) : ∃ v n k e cs, x = .sl v n k e cs := by
  obtain ⟨v, n, e, cs, rfl, _⟩ := h
  exact ⟨v, n, _, e, cs, rfl⟩

set_option maxRecDepth 100000 in
set_option maxHeartbeats 4000000 in
theorem mk_FileS (x : Rw) (hx : IsFileS x) (lo hi k0 : Nat) (q : Int) (hq : q = k0) (w : World) (ho : x.OwnR lo hi w) (hd : x.blocks.Nodup) (hk : k0 + x.count ≤ 4611686018427387904) :
    Calls Tryd.prog 37 #[x.cell, .int .i64 q] w fun e w' => e = .returned (.int .i64 ((k0 + x.count : Nat) : Int)) ∧ (x.mark k0).OwnR lo hi w' ∧ OnlyB x.blocks w w' := by
  subst hq
  obtain ⟨v, n, e0, cs, rfl, hrow⟩ := hx
  rw [Rw.cell_sl]; rw [Rw.count] at hk ⊢; rw [mark_cell_sl]
  have ho2 := ho; rw [Rw.OwnR] at ho2
  have hlen : cs.length = n * 7 := by have := ho2.1.1.1; rwa [List.length_map] at this
  have hrw := ho2.1.1.2; clear ho2
  have HROW := Lib.hid hrow; have HD := Lib.hid hd; have HO0 := Lib.hid ho; have HLEN := Lib.hid hlen; have HK := Lib.hid hk; clear hrow hd ho hlen hk
  rcases hrw with ⟨rfl, h0⟩ | ⟨g, cap, cur, rfl, hg, _, hcap, hm, _⟩
  · subst h0
    have hz : cs = [] := List.eq_nil_of_length_eq_zero (by have := HLEN.out; omega)
    subst hz
    go_enter Tryd.func37, Tryd.ntmps37
    go_wp2
    refine wp_loop_rounds 1 ?_
    rw [rounds_succ]
    go_wp2
    go_ret
    exact ⟨by simp [countL], by rw [markL]; exact HO0.out, OnlyB.refl _ _⟩
  · unfold maxLen at hm
    obtain ⟨st, hst⟩ : ∃ f : Nat → List Rw, f = markTo cs k0 := ⟨_, rfl⟩
    obtain ⟨cn, hcn⟩ : ∃ f : Nat → Nat, f = fun m => k0 + countL (cs.take m) := ⟨_, rfl⟩
    have HST := Lib.hid hst; have HCN := Lib.hid hcn; clear hst hcn
    have HTOP := Lib.hid (fun m => show cn m ≤ 4611686018427387904 by rw [HCN.out]; have := countL_take_le cs m; have := HK.out; show k0 + countL (cs.take m) ≤ _; omega)
    have HNOT := Lib.hid (show g ∉ blocksL cs by have := HD.out; rw [Rw.blocks] at this; exact (List.nodup_cons.1 (show (g :: blocksL cs).Nodup from this)).1)
    have HOB := Lib.hid (show ∀ m, blocksL (st m) = blocksL cs from fun m => by rw [HST.out]; exact markTo_blocks cs k0 m)
    go_enter Tryd.func37, Tryd.ntmps37
    go_wp2
    go_loopw [1, 5] (fun m i wr => ∃ (j : Nat), j ≤ n ∧ i = .int .i64 j ∧ m = .int .i64 (cn (j * 7) : Int) ∧ (Rw.sl (.slice (some ⟨g, 0, none⟩) n cap) n 7 e0 (st (j * 7))).OwnR lo hi wr ∧ OnlyB (Rw.sl (.slice (some ⟨g, 0, none⟩) n cap) n 7 e0 cs).blocks w wr)
      (fun _ i _ => n - (intOf i).toNat)
    case atStart => exact ⟨0, Nat.zero_le _, rfl, by rw [HCN.out]; simp [countL], by rw [HST.out, Nat.zero_mul, markTo_zero]; exact HO0.out, OnlyB.refl _ _⟩
    case round =>
      obtain ⟨j, hj, rfl, rfl, hown, hon⟩ := hrel
      have HO := Lib.hid hown; have HN := Lib.hid hon
      clear hown hon
      by_cases hlt : (j : Int) < (n : Int)
      · obtain ⟨a0, a1, a2, a3, a4, a5, a6, f0, f1, f2, f3, f4, f5, f6⟩ := HROW.out j (by omega)
        have hc0 : cn (j * 7 + 1) = cn (j * 7) + 1 := by rw [HCN.out]; have := countL_more f0; rw [Rw.count] at this; show k0 + countL (cs.take (j * 7 + 1)) = k0 + countL (cs.take (j * 7)) + _; omega
        have hs0 : (st (j * 7)).set (j * 7) (.leaf (.string (mt (cn (j * 7))))) = st (j * 7 + 1) := by rw [HST.out, HCN.out]; have := markTo_next f0 k0; rw [mark_leaf] at this; exact this
        have ha0 : (st (j * 7))[j * 7]? = some (.leaf (.string a0)) := by rw [HST.out]; exact markTo_at f0 k0
        have HC0 := Lib.hid hc0; have HS0 := Lib.hid hs0; have HA0 := Lib.hid ha0; clear hc0 hs0 ha0 f0
        have hc1 : cn (j * 7 + 2) = cn (j * 7 + 1) + 1 := by rw [HCN.out]; have := countL_more f1; rw [Rw.count] at this; show k0 + countL (cs.take (j * 7 + 1 + 1)) = k0 + countL (cs.take (j * 7 + 1)) + _; omega
        have hs1 : (st (j * 7 + 1)).set (j * 7 + 1) (.leaf (.int .i64 (cn (j * 7 + 1) : Int))) = st (j * 7 + 2) := by rw [HST.out, HCN.out]; have := markTo_next f1 k0; rw [mark_leaf] at this; exact this
        have ha1 : (st (j * 7 + 1))[j * 7 + 1]? = some (.leaf (.int .i64 a1)) := by rw [HST.out]; exact markTo_at f1 k0
        have HC1 := Lib.hid hc1; have HS1 := Lib.hid hs1; have HA1 := Lib.hid ha1; clear hc1 hs1 ha1 f1
        have hc2 : cn (j * 7 + 3) = cn (j * 7 + 2) + 1 := by rw [HCN.out]; have := countL_more f2; rw [Rw.count] at this; show k0 + countL (cs.take (j * 7 + 2 + 1)) = k0 + countL (cs.take (j * 7 + 2)) + _; omega
        have hs2 : (st (j * 7 + 2)).set (j * 7 + 2) (.leaf (.int .i64 (cn (j * 7 + 2) : Int))) = st (j * 7 + 3) := by rw [HST.out, HCN.out]; have := markTo_next f2 k0; rw [mark_leaf] at this; exact this
        have ha2 : (st (j * 7 + 2))[j * 7 + 2]? = some (.leaf (.int .i64 a2)) := by rw [HST.out]; exact markTo_at f2 k0
        have HC2 := Lib.hid hc2; have HS2 := Lib.hid hs2; have HA2 := Lib.hid ha2; clear hc2 hs2 ha2 f2
        have hc3 : cn (j * 7 + 4) = cn (j * 7 + 3) + 1 := by rw [HCN.out]; have := countL_more f3; rw [Rw.count] at this; show k0 + countL (cs.take (j * 7 + 3 + 1)) = k0 + countL (cs.take (j * 7 + 3)) + _; omega
        have hs3 : (st (j * 7 + 3)).set (j * 7 + 3) (.leaf (.string (mt (cn (j * 7 + 3))))) = st (j * 7 + 4) := by rw [HST.out, HCN.out]; have := markTo_next f3 k0; rw [mark_leaf] at this; exact this
        have ha3 : (st (j * 7 + 3))[j * 7 + 3]? = some (.leaf (.string a3)) := by rw [HST.out]; exact markTo_at f3 k0
        have HC3 := Lib.hid hc3; have HS3 := Lib.hid hs3; have HA3 := Lib.hid ha3; clear hc3 hs3 ha3 f3
        have hc4 : cn (j * 7 + 5) = cn (j * 7 + 4) + 1 := by rw [HCN.out]; have := countL_more f4; rw [Rw.count] at this; show k0 + countL (cs.take (j * 7 + 4 + 1)) = k0 + countL (cs.take (j * 7 + 4)) + _; omega
        have hs4 : (st (j * 7 + 4)).set (j * 7 + 4) (.leaf (.int .i64 (cn (j * 7 + 4) : Int))) = st (j * 7 + 5) := by rw [HST.out, HCN.out]; have := markTo_next f4 k0; rw [mark_leaf] at this; exact this
        have ha4 : (st (j * 7 + 4))[j * 7 + 4]? = some (.leaf (.int .i64 a4)) := by rw [HST.out]; exact markTo_at f4 k0
        have HC4 := Lib.hid hc4; have HS4 := Lib.hid hs4; have HA4 := Lib.hid ha4; clear hc4 hs4 ha4 f4
        have hc5 : cn (j * 7 + 6) = cn (j * 7 + 5) + 1 := by rw [HCN.out]; have := countL_more f5; rw [Rw.count] at this; show k0 + countL (cs.take (j * 7 + 5 + 1)) = k0 + countL (cs.take (j * 7 + 5)) + _; omega
        have hs5 : (st (j * 7 + 5)).set (j * 7 + 5) (.leaf (.bool (decide (cn (j * 7 + 5) % 3 = 0)))) = st (j * 7 + 6) := by rw [HST.out, HCN.out]; have := markTo_next f5 k0; rw [mark_leaf] at this; exact this
        have ha5 : (st (j * 7 + 5))[j * 7 + 5]? = some (.leaf (.bool a5)) := by rw [HST.out]; exact markTo_at f5 k0
        have HC5 := Lib.hid hc5; have HS5 := Lib.hid hs5; have HA5 := Lib.hid ha5; clear hc5 hs5 ha5 f5
        have hc6 : cn (j * 7 + 7) = cn (j * 7 + 6) + 1 := by rw [HCN.out]; have := countL_more f6; rw [Rw.count] at this; show k0 + countL (cs.take (j * 7 + 6 + 1)) = k0 + countL (cs.take (j * 7 + 6)) + _; omega
        have hs6 : (st (j * 7 + 6)).set (j * 7 + 6) (.leaf (.string (mt (cn (j * 7 + 6))))) = st (j * 7 + 7) := by rw [HST.out, HCN.out]; have := markTo_next f6 k0; rw [mark_leaf] at this; exact this
        have ha6 : (st (j * 7 + 6))[j * 7 + 6]? = some (.leaf (.string a6)) := by rw [HST.out]; exact markTo_at f6 k0
        have HC6 := Lib.hid hc6; have HS6 := Lib.hid hs6; have HA6 := Lib.hid ha6; clear hc6 hs6 ha6 f6
        obtain ⟨q0, hq0⟩ : ∃ q, cn (j * 7) = q := ⟨_, rfl⟩
        obtain ⟨q1, hq1⟩ : ∃ q, cn (j * 7 + 1) = q := ⟨_, rfl⟩
        obtain ⟨q2, hq2⟩ : ∃ q, cn (j * 7 + 2) = q := ⟨_, rfl⟩
        obtain ⟨q3, hq3⟩ : ∃ q, cn (j * 7 + 3) = q := ⟨_, rfl⟩
        obtain ⟨q4, hq4⟩ : ∃ q, cn (j * 7 + 4) = q := ⟨_, rfl⟩
        obtain ⟨q5, hq5⟩ : ∃ q, cn (j * 7 + 5) = q := ⟨_, rfl⟩
        obtain ⟨q6, hq6⟩ : ∃ q, cn (j * 7 + 6) = q := ⟨_, rfl⟩
        obtain ⟨q7, hq7⟩ : ∃ q, cn (j * 7 + 7) = q := ⟨_, rfl⟩
        rw [hq0, hq1] at HC0
        rw [hq0] at HS0
        rw [hq1, hq2] at HC1
        rw [hq1] at HS1
        rw [hq2, hq3] at HC2
        rw [hq2] at HS2
        rw [hq3, hq4] at HC3
        rw [hq3] at HS3
        rw [hq4, hq5] at HC4
        rw [hq4] at HS4
        rw [hq5, hq6] at HC5
        rw [hq5] at HS5
        rw [hq6, hq7] at HC6
        rw [hq6] at HS6
        have ht0 : q0 ≤ 4611686018427387904 := by rw [← hq0]; exact HTOP.out _
        have ht1 : q1 ≤ 4611686018427387904 := by rw [← hq1]; exact HTOP.out _
        have ht2 : q2 ≤ 4611686018427387904 := by rw [← hq2]; exact HTOP.out _
        have ht3 : q3 ≤ 4611686018427387904 := by rw [← hq3]; exact HTOP.out _
        have ht4 : q4 ≤ 4611686018427387904 := by rw [← hq4]; exact HTOP.out _
        have ht5 : q5 ≤ 4611686018427387904 := by rw [← hq5]; exact HTOP.out _
        have ht6 : q6 ≤ 4611686018427387904 := by rw [← hq6]; exact HTOP.out _
        have ht7 : q7 ≤ 4611686018427387904 := by rw [← hq7]; exact HTOP.out _
        rw [hq0]
        have HE := Lib.hid (show cn ((j + 1) * 7) = q7 by rw [Nat.add_mul, Nat.one_mul]; exact hq7)
        clear hq0 hq1 hq2 hq3 hq4 hq5 hq6 hq7
        go_wp2_with fail
        refine (mark_anyI q0 _ rfl (by omega) _).mono ?_
        rintro e w0 ⟨rfl, hg0⟩
        have HO0a := Lib.hid (HO.out.later hg0.below)
        have HN0a := Lib.hid (HN.out.trans (OnlyB.of_below hg0.below _))
        have r0 := HO0a.out; rw [Rw.OwnR] at r0
        have d0 : w0.cell? ⟨g, j * 7, none⟩ = some (.string a0) := by rw [r0.1.1.cellAt (j * 7) (by omega), List.getElem?_map, HA0.out]; rfl
        have z0 : w0.frozen? ⟨g, j * 7, none⟩ = false := r0.1.1.frozenAt _
        have hsto := HO0a.out.store (v := .string (mt q0)) (by rw [HOB.out]; exact HNOT.out) HA0.out rfl
        rw [HS0.out] at hsto
        have HO0' := Lib.hid hsto.1; have HN0' := Lib.hid (HN0a.out.trans (hsto.2.1.mono (by intro i hi; rw [Rw.blocks]; exact List.mem_append.2 (Or.inl hi)))); clear hsto r0 hg0
        have r1 := HO0'.out; rw [Rw.OwnR] at r1
        have d1 := r1.1.1.cellAt (j * 7 + 1) (by omega); rw [List.getElem?_map, HA1.out] at d1; replace d1 := d1.trans (show _ = some (Value.int .i64 a1) from rfl)
        have z1 := r1.1.1.frozenAt (j * 7 + 1)
        have hsx : (st (j * 7 + 1)).set (j * 7 + 1) (.leaf (.int .i64 ((q0 : Int) + 1))) = st (j * 7 + 2) := by rw [show ((q0 : Int) + 1) = (q1 : Int) from by have := HC0.out; omega]; exact HS1.out
        have hsto := HO0'.out.store (v := .int .i64 ((q0 : Int) + 1)) (by rw [HOB.out]; exact HNOT.out) HA1.out rfl
        rw [hsx] at hsto
        have HO1' := Lib.hid hsto.1; have HN1' := Lib.hid (HN0'.out.trans (hsto.2.1.mono (by intro i hi; rw [Rw.blocks]; exact List.mem_append.2 (Or.inl hi)))); clear hsto r1 hsx
        have r2 := HO1'.out; rw [Rw.OwnR] at r2
        have d2 := r2.1.1.cellAt (j * 7 + 2) (by omega); rw [List.getElem?_map, HA2.out] at d2; replace d2 := d2.trans (show _ = some (Value.int .i64 a2) from rfl)
        have z2 := r2.1.1.frozenAt (j * 7 + 2)
        have hsx : (st (j * 7 + 2)).set (j * 7 + 2) (.leaf (.int .i64 ((q0 : Int) + 1 + 1))) = st (j * 7 + 3) := by rw [show ((q0 : Int) + 1 + 1) = (q2 : Int) from by have := HC0.out; have := HC1.out; omega]; exact HS2.out
        have hsto := HO1'.out.store (v := .int .i64 ((q0 : Int) + 1 + 1)) (by rw [HOB.out]; exact HNOT.out) HA2.out rfl
        rw [hsx] at hsto
        have HO2' := Lib.hid hsto.1; have HN2' := Lib.hid (HN1'.out.trans (hsto.2.1.mono (by intro i hi; rw [Rw.blocks]; exact List.mem_append.2 (Or.inl hi)))); clear hsto r2 hsx
        go_wp2_with fail
        refine (mark_anyI q3 _ (by have := HC0.out; have := HC1.out; have := HC2.out; omega) (by omega) _).mono ?_
        rintro e w3 ⟨rfl, hg3⟩
        have HO3a := Lib.hid (HO2'.out.later hg3.below)
        have HN3a := Lib.hid (HN2'.out.trans (OnlyB.of_below hg3.below _))
        have r3 := HO3a.out; rw [Rw.OwnR] at r3
        have d3 : w3.cell? ⟨g, j * 7 + 3, none⟩ = some (.string a3) := by rw [r3.1.1.cellAt (j * 7 + 3) (by omega), List.getElem?_map, HA3.out]; rfl
        have z3 : w3.frozen? ⟨g, j * 7 + 3, none⟩ = false := r3.1.1.frozenAt _
        have hsto := HO3a.out.store (v := .string (mt q3)) (by rw [HOB.out]; exact HNOT.out) HA3.out rfl
        rw [HS3.out] at hsto
        have HO3' := Lib.hid hsto.1; have HN3' := Lib.hid (HN3a.out.trans (hsto.2.1.mono (by intro i hi; rw [Rw.blocks]; exact List.mem_append.2 (Or.inl hi)))); clear hsto r3 hg3
        have r4 := HO3'.out; rw [Rw.OwnR] at r4
        have d4 := r4.1.1.cellAt (j * 7 + 4) (by omega); rw [List.getElem?_map, HA4.out] at d4; replace d4 := d4.trans (show _ = some (Value.int .i64 a4) from rfl)
        have z4 := r4.1.1.frozenAt (j * 7 + 4)
        have hsx : (st (j * 7 + 4)).set (j * 7 + 4) (.leaf (.int .i64 ((q0 : Int) + 1 + 1 + 1 + 1))) = st (j * 7 + 5) := by rw [show ((q0 : Int) + 1 + 1 + 1 + 1) = (q4 : Int) from by have := HC0.out; have := HC1.out; have := HC2.out; have := HC3.out; omega]; exact HS4.out
        have hsto := HO3'.out.store (v := .int .i64 ((q0 : Int) + 1 + 1 + 1 + 1)) (by rw [HOB.out]; exact HNOT.out) HA4.out rfl
        rw [hsx] at hsto
        have HO4' := Lib.hid hsto.1; have HN4' := Lib.hid (HN3'.out.trans (hsto.2.1.mono (by intro i hi; rw [Rw.blocks]; exact List.mem_append.2 (Or.inl hi)))); clear hsto r4 hsx
        have r5 := HO4'.out; rw [Rw.OwnR] at r5
        have d5 := r5.1.1.cellAt (j * 7 + 5) (by omega); rw [List.getElem?_map, HA5.out] at d5; replace d5 := d5.trans (show _ = some (Value.bool a5) from rfl)
        have z5 := r5.1.1.frozenAt (j * 7 + 5)
        have m5 : ((((q0 : Int) + 1 + 1 + 1 + 1 + 1) % 3 : Int) == 0) = decide (q5 % 3 = 0) := by rw [show ((q0 : Int) + 1 + 1 + 1 + 1 + 1) = (q5 : Int) by have := HC0.out; have := HC1.out; have := HC2.out; have := HC3.out; have := HC4.out; omega]; exact mod3 q5
        have m5' : ((Int.tmod ((q0 : Int) + 1 + 1 + 1 + 1 + 1) 3 : Int) == 0) = decide (q5 % 3 = 0) := by rw [show ((q0 : Int) + 1 + 1 + 1 + 1 + 1) = (q5 : Int) by have := HC0.out; have := HC1.out; have := HC2.out; have := HC3.out; have := HC4.out; omega]; exact tmod3 q5
        have hsto := HO4'.out.store (v := .bool (decide (q5 % 3 = 0))) (by rw [HOB.out]; exact HNOT.out) HA5.out rfl
        rw [HS5.out] at hsto
        have HO5' := Lib.hid hsto.1; have HN5' := Lib.hid (HN4'.out.trans (hsto.2.1.mono (by intro i hi; rw [Rw.blocks]; exact List.mem_append.2 (Or.inl hi)))); clear hsto r5
        go_wp2_with fail
        refine (mark_anyI q6 _ (by have := HC0.out; have := HC1.out; have := HC2.out; have := HC3.out; have := HC4.out; have := HC5.out; omega) (by omega) _).mono ?_
        rintro e w6 ⟨rfl, hg6⟩
        have HO6a := Lib.hid (HO5'.out.later hg6.below)
        have HN6a := Lib.hid (HN5'.out.trans (OnlyB.of_below hg6.below _))
        have r6 := HO6a.out; rw [Rw.OwnR] at r6
        have d6 : w6.cell? ⟨g, j * 7 + 6, none⟩ = some (.string a6) := by rw [r6.1.1.cellAt (j * 7 + 6) (by omega), List.getElem?_map, HA6.out]; rfl
        have z6 : w6.frozen? ⟨g, j * 7 + 6, none⟩ = false := r6.1.1.frozenAt _
        have hsto := HO6a.out.store (v := .string (mt q6)) (by rw [HOB.out]; exact HNOT.out) HA6.out rfl
        rw [HS6.out] at hsto
        have HO6' := Lib.hid hsto.1; have HN6' := Lib.hid (HN6a.out.trans (hsto.2.1.mono (by intro i hi; rw [Rw.blocks]; exact List.mem_append.2 (Or.inl hi)))); clear hsto r6 hg6
        go_wp2_with fail
        go_roundw
        case rel => exact ⟨j + 1, by omega, by go_num, by first | (rw [HE.out]; done) | (rw [HE.out]; have := HC0.out; have := HC1.out; have := HC2.out; have := HC3.out; have := HC4.out; have := HC5.out; have := HC6.out; go_num), by rw [Nat.add_mul, Nat.one_mul]; exact HO6'.out, HN6'.out⟩
        case measure => simp [intOf]; omega
      · have hjn : j = n := by omega
        subst hjn
        have HF := Lib.hid (show cn (j * 7) = k0 + countL cs by rw [HCN.out]; show k0 + countL (cs.take (j * 7)) = _; rw [List.take_of_length_le (by have := HLEN.out; omega)])
        have HG := Lib.hid (show st (j * 7) = markL cs k0 by rw [HST.out]; exact markTo_full cs k0 (by have := HLEN.out; omega))
        go_wp2_with fail
        go_ret
        exact ⟨by rw [HF.out]; rfl, by rw [← HG.out]; exact HO.out, HN.out⟩

set_option maxRecDepth 100000 in
set_option maxHeartbeats 4000000 in
theorem hd_FileS (x : Rw) (hx : IsFileS x) (hi k0 : Nat) (q : Int) (hq : q = k0) (w : World) (hr : (x.mark k0).ReadR hi w) (hh : hi ≤ w.heap.size) (hk : k0 + x.count ≤ 4611686018427387904) :
    Calls Tryd.prog 38 #[x.cell, .int .i64 q] w fun e w' => e = .returned (.int .i64 ((k0 + x.count : Nat) : Int)) ∧ Grw w w' := by
  have mixed : Tryd.prog.follows .mixedOrders = true := by kernel_rfl
  subst hq
  obtain ⟨v, n, e0, cs, rfl, hrow⟩ := hx
  rw [Rw.cell_sl]; rw [Rw.count] at hk ⊢; rw [mark_cell_sl, Rw.ReadR] at hr
  obtain ⟨⟨a, cap, rfl, hlen, hc1, hc2, _, hcells⟩, hrin⟩ := hr
  rw [markL_len] at hlen
  have HROW := Lib.hid hrow; have HLEN := Lib.hid hlen; have HK := Lib.hid hk; have HC := Lib.hid hcells; have HIN := Lib.hid hrin; clear hrow hlen hk hcells hrin
  obtain ⟨cn, hcn⟩ : ∃ f : Nat → Nat, f = fun m => k0 + countL (cs.take m) := ⟨_, rfl⟩
  have HCN := Lib.hid hcn; clear hcn
  have HTOP := Lib.hid (fun m => show cn m ≤ 4611686018427387904 by rw [HCN.out]; have := countL_take_le cs m; have := HK.out; show k0 + countL (cs.take m) ≤ _; omega)
  go_enter Tryd.func38, Tryd.ntmps38
  go_wp2
  go_loopw [1, 5] (fun m i wr => ∃ (j : Nat), j ≤ n ∧ i = .int .i64 j ∧ m = .int .i64 (cn (j * 7) : Int) ∧ Grw w wr)
    (fun _ i _ => n - (intOf i).toNat)
  case atStart => exact ⟨0, Nat.zero_le _, rfl, by rw [HCN.out]; simp [countL], Grw.refl _⟩
  case round =>
    obtain ⟨j, hj, rfl, rfl, hs⟩ := hrel
    have HS := Lib.hid hs
    clear hs
    by_cases hlt : (j : Int) < (n : Int)
    · rcases HC.out with h0 | ⟨g, off, rfl, hg, hcells⟩
      · omega
      · have HCL := Lib.hid hcells; clear hcells
        obtain ⟨a0, a1, a2, a3, a4, a5, a6, f0, f1, f2, f3, f4, f5, f6⟩ := HROW.out j (by omega)
        have hc0 : cn (j * 7 + 1) = cn (j * 7) + 1 := by rw [HCN.out]; have := countL_more f0; rw [Rw.count] at this; show k0 + countL (cs.take (j * 7 + 1)) = k0 + countL (cs.take (j * 7)) + _; omega
        have hm0 : (markL cs k0)[j * 7]? = some (.leaf (.string (mt (cn (j * 7))))) := by rw [HCN.out]; have := markL_at f0 k0; rw [mark_leaf] at this; exact this
        have hl0 : w.cell? ⟨g, off + j * 7, none⟩ = some (.string (mt (cn (j * 7)))) := HCL.out (j * 7) _ (by rw [List.getElem?_map, hm0]; rfl)
        have HC0 := Lib.hid hc0; have HL0 := Lib.hid hl0; clear hc0 hl0 f0 hm0
        have hc1 : cn (j * 7 + 2) = cn (j * 7 + 1) + 1 := by rw [HCN.out]; have := countL_more f1; rw [Rw.count] at this; show k0 + countL (cs.take (j * 7 + 1 + 1)) = k0 + countL (cs.take (j * 7 + 1)) + _; omega
        have hm1 : (markL cs k0)[j * 7 + 1]? = some (.leaf (.int .i64 (cn (j * 7 + 1) : Int))) := by rw [HCN.out]; have := markL_at f1 k0; rw [mark_leaf] at this; exact this
        have hl1 : w.cell? ⟨g, off + j * 7 + 1, none⟩ = some (.int .i64 (cn (j * 7 + 1) : Int)) := by rw [Nat.add_assoc]; exact HCL.out (j * 7 + 1) _ (by rw [List.getElem?_map, hm1]; rfl)
        have HC1 := Lib.hid hc1; have HL1 := Lib.hid hl1; clear hc1 hl1 f1 hm1
        have hc2 : cn (j * 7 + 3) = cn (j * 7 + 2) + 1 := by rw [HCN.out]; have := countL_more f2; rw [Rw.count] at this; show k0 + countL (cs.take (j * 7 + 2 + 1)) = k0 + countL (cs.take (j * 7 + 2)) + _; omega
        have hm2 : (markL cs k0)[j * 7 + 2]? = some (.leaf (.int .i64 (cn (j * 7 + 2) : Int))) := by rw [HCN.out]; have := markL_at f2 k0; rw [mark_leaf] at this; exact this
        have hl2 : w.cell? ⟨g, off + j * 7 + 2, none⟩ = some (.int .i64 (cn (j * 7 + 2) : Int)) := by rw [Nat.add_assoc]; exact HCL.out (j * 7 + 2) _ (by rw [List.getElem?_map, hm2]; rfl)
        have HC2 := Lib.hid hc2; have HL2 := Lib.hid hl2; clear hc2 hl2 f2 hm2
        have hc3 : cn (j * 7 + 4) = cn (j * 7 + 3) + 1 := by rw [HCN.out]; have := countL_more f3; rw [Rw.count] at this; show k0 + countL (cs.take (j * 7 + 3 + 1)) = k0 + countL (cs.take (j * 7 + 3)) + _; omega
        have hm3 : (markL cs k0)[j * 7 + 3]? = some (.leaf (.string (mt (cn (j * 7 + 3))))) := by rw [HCN.out]; have := markL_at f3 k0; rw [mark_leaf] at this; exact this
        have hl3 : w.cell? ⟨g, off + j * 7 + 3, none⟩ = some (.string (mt (cn (j * 7 + 3)))) := by rw [Nat.add_assoc]; exact HCL.out (j * 7 + 3) _ (by rw [List.getElem?_map, hm3]; rfl)
        have HC3 := Lib.hid hc3; have HL3 := Lib.hid hl3; clear hc3 hl3 f3 hm3
        have hc4 : cn (j * 7 + 5) = cn (j * 7 + 4) + 1 := by rw [HCN.out]; have := countL_more f4; rw [Rw.count] at this; show k0 + countL (cs.take (j * 7 + 4 + 1)) = k0 + countL (cs.take (j * 7 + 4)) + _; omega
        have hm4 : (markL cs k0)[j * 7 + 4]? = some (.leaf (.int .i64 (cn (j * 7 + 4) : Int))) := by rw [HCN.out]; have := markL_at f4 k0; rw [mark_leaf] at this; exact this
        have hl4 : w.cell? ⟨g, off + j * 7 + 4, none⟩ = some (.int .i64 (cn (j * 7 + 4) : Int)) := by rw [Nat.add_assoc]; exact HCL.out (j * 7 + 4) _ (by rw [List.getElem?_map, hm4]; rfl)
        have HC4 := Lib.hid hc4; have HL4 := Lib.hid hl4; clear hc4 hl4 f4 hm4
        have hc5 : cn (j * 7 + 6) = cn (j * 7 + 5) + 1 := by rw [HCN.out]; have := countL_more f5; rw [Rw.count] at this; show k0 + countL (cs.take (j * 7 + 5 + 1)) = k0 + countL (cs.take (j * 7 + 5)) + _; omega
        have hm5 : (markL cs k0)[j * 7 + 5]? = some (.leaf (.bool (decide (cn (j * 7 + 5) % 3 = 0)))) := by rw [HCN.out]; have := markL_at f5 k0; rw [mark_leaf] at this; exact this
        have hl5 : w.cell? ⟨g, off + j * 7 + 5, none⟩ = some (.bool (decide (cn (j * 7 + 5) % 3 = 0))) := by rw [Nat.add_assoc]; exact HCL.out (j * 7 + 5) _ (by rw [List.getElem?_map, hm5]; rfl)
        have HC5 := Lib.hid hc5; have HL5 := Lib.hid hl5; clear hc5 hl5 f5 hm5
        have hc6 : cn (j * 7 + 7) = cn (j * 7 + 6) + 1 := by rw [HCN.out]; have := countL_more f6; rw [Rw.count] at this; show k0 + countL (cs.take (j * 7 + 6 + 1)) = k0 + countL (cs.take (j * 7 + 6)) + _; omega
        have hm6 : (markL cs k0)[j * 7 + 6]? = some (.leaf (.string (mt (cn (j * 7 + 6))))) := by rw [HCN.out]; have := markL_at f6 k0; rw [mark_leaf] at this; exact this
        have hl6 : w.cell? ⟨g, off + j * 7 + 6, none⟩ = some (.string (mt (cn (j * 7 + 6)))) := by rw [Nat.add_assoc]; exact HCL.out (j * 7 + 6) _ (by rw [List.getElem?_map, hm6]; rfl)
        have HC6 := Lib.hid hc6; have HL6 := Lib.hid hl6; clear hc6 hl6 f6 hm6
        obtain ⟨q0, hq0⟩ : ∃ q, cn (j * 7) = q := ⟨_, rfl⟩
        obtain ⟨q1, hq1⟩ : ∃ q, cn (j * 7 + 1) = q := ⟨_, rfl⟩
        obtain ⟨q2, hq2⟩ : ∃ q, cn (j * 7 + 2) = q := ⟨_, rfl⟩
        obtain ⟨q3, hq3⟩ : ∃ q, cn (j * 7 + 3) = q := ⟨_, rfl⟩
        obtain ⟨q4, hq4⟩ : ∃ q, cn (j * 7 + 4) = q := ⟨_, rfl⟩
        obtain ⟨q5, hq5⟩ : ∃ q, cn (j * 7 + 5) = q := ⟨_, rfl⟩
        obtain ⟨q6, hq6⟩ : ∃ q, cn (j * 7 + 6) = q := ⟨_, rfl⟩
        obtain ⟨q7, hq7⟩ : ∃ q, cn (j * 7 + 7) = q := ⟨_, rfl⟩
        rw [hq0, hq1] at HC0
        rw [hq0] at HL0
        rw [hq1, hq2] at HC1
        rw [hq1] at HL1
        rw [hq2, hq3] at HC2
        rw [hq2] at HL2
        rw [hq3, hq4] at HC3
        rw [hq3] at HL3
        rw [hq4, hq5] at HC4
        rw [hq4] at HL4
        rw [hq5, hq6] at HC5
        rw [hq5] at HL5
        rw [hq6, hq7] at HC6
        rw [hq6] at HL6
        have ht0 : q0 ≤ 4611686018427387904 := by rw [← hq0]; exact HTOP.out _
        have ht1 : q1 ≤ 4611686018427387904 := by rw [← hq1]; exact HTOP.out _
        have ht2 : q2 ≤ 4611686018427387904 := by rw [← hq2]; exact HTOP.out _
        have ht3 : q3 ≤ 4611686018427387904 := by rw [← hq3]; exact HTOP.out _
        have ht4 : q4 ≤ 4611686018427387904 := by rw [← hq4]; exact HTOP.out _
        have ht5 : q5 ≤ 4611686018427387904 := by rw [← hq5]; exact HTOP.out _
        have ht6 : q6 ≤ 4611686018427387904 := by rw [← hq6]; exact HTOP.out _
        have ht7 : q7 ≤ 4611686018427387904 := by rw [← hq7]; exact HTOP.out _
        rw [hq0]
        have HE := Lib.hid (show cn ((j + 1) * 7) = q7 by rw [Nat.add_mul, Nat.one_mul]; exact hq7)
        clear hq0 hq1 hq2 hq3 hq4 hq5 hq6 hq7
        have e0 : ((mt q0).toList == (mt q0).toList) = true := beqL_yes rfl
        have c0 : ∀ m os, (Sort.grow (wr.drewN m) os).cell? ⟨g, off + j * 7, none⟩ = some (.string (mt q0)) := cell_grown (show g < wr.heap.size by have := HS.out.below.size; omega) (by rw [HS.out.below.cell (show g < _ by omega)]; exact HL0.out)
        have HM0 := Lib.hid (fun (q : Int) (hq : q = q0) W => mark_anyI q0 q hq ht0 W)
        obtain ⟨m0, hm0⟩ : ∃ m, mt q0 = m := ⟨_, rfl⟩
        rw [hm0] at c0 HM0 e0; clear hm0
        go_wp2_with fail
        refine wp_region_quiet_grown mixed (by kernel_rfl) ?_
        repeat (go_big_quiet_step (first | (go_at_call 36; refine Calls.grown_of (HM0.out _ ?_ _); have := HC0.out; have := HC1.out; have := HC2.out; have := HC3.out; have := HC4.out; have := HC5.out; have := HC6.out; omega)))
        refine wpQuiet_nil ?_; intro _ hw'; obtain ⟨⟨nq, osq⟩, hw''⟩ := hw'; subst hw''
        have HG0 := Lib.hid (HS.out.trans ⟨nq, osq, rfl⟩)
        obtain ⟨w0, hw0⟩ : ∃ x, Sort.grow (wr.drewN nq) osq = x := ⟨_, rfl⟩
        rw [hw0] at HG0 ⊢; clear hw0 c0
        have c1 : w0.cell? ⟨g, off + j * 7 + 1, none⟩ = some (.int .i64 (q1 : Int)) := by rw [HG0.out.below.cell (show g < _ by omega)]; exact HL1.out
        have x1 : (q0 : Int) + 1 = (q1 : Int) := by have := HC0.out; omega
        have c2 : w0.cell? ⟨g, off + j * 7 + 2, none⟩ = some (.int .i64 (q2 : Int)) := by rw [HG0.out.below.cell (show g < _ by omega)]; exact HL2.out
        have x2 : (q1 : Int) + 1 = (q2 : Int) := by have := HC0.out; have := HC1.out; omega
        have e3 : ((mt q3).toList == (mt q3).toList) = true := beqL_yes rfl
        have c3 : ∀ m os, (Sort.grow (w0.drewN m) os).cell? ⟨g, off + j * 7 + 3, none⟩ = some (.string (mt q3)) := cell_grown (show g < w0.heap.size by have := HG0.out.below.size; omega) (by rw [HG0.out.below.cell (show g < _ by omega)]; exact HL3.out)
        have HM3 := Lib.hid (fun (q : Int) (hq : q = q3) W => mark_anyI q3 q hq ht3 W)
        obtain ⟨m3, hm3⟩ : ∃ m, mt q3 = m := ⟨_, rfl⟩
        rw [hm3] at c3 HM3 e3; clear hm3
        go_wp2_with fail
        refine wp_region_quiet_grown mixed (by kernel_rfl) ?_
        repeat (go_big_quiet_step (first | (go_at_call 36; refine Calls.grown_of (HM3.out _ ?_ _); have := HC0.out; have := HC1.out; have := HC2.out; have := HC3.out; have := HC4.out; have := HC5.out; have := HC6.out; omega)))
        refine wpQuiet_nil ?_; intro _ hw'; obtain ⟨⟨nq, osq⟩, hw''⟩ := hw'; subst hw''
        have HG3 := Lib.hid (HG0.out.trans ⟨nq, osq, rfl⟩)
        obtain ⟨w3, hw3⟩ : ∃ x, Sort.grow (w0.drewN nq) osq = x := ⟨_, rfl⟩
        rw [hw3] at HG3 ⊢; clear hw3 c3
        have c4 : w3.cell? ⟨g, off + j * 7 + 4, none⟩ = some (.int .i64 (q4 : Int)) := by rw [HG3.out.below.cell (show g < _ by omega)]; exact HL4.out
        have x4 : (q2 : Int) + 1 + 1 = (q4 : Int) := by have := HC0.out; have := HC1.out; have := HC2.out; have := HC3.out; omega
        have c5 : w3.cell? ⟨g, off + j * 7 + 5, none⟩ = some (.bool (decide (q5 % 3 = 0))) := by rw [HG3.out.below.cell (show g < _ by omega)]; exact HL5.out
        have m5 : ((((q4 : Int) + 1) % 3 : Int) == 0) = decide (q5 % 3 = 0) := by rw [show ((q4 : Int) + 1) = (q5 : Int) by have := HC0.out; have := HC1.out; have := HC2.out; have := HC3.out; have := HC4.out; omega]; exact mod3 q5
        have m5' : ((Int.tmod ((q4 : Int) + 1) 3 : Int) == 0) = decide (q5 % 3 = 0) := by rw [show ((q4 : Int) + 1) = (q5 : Int) by have := HC0.out; have := HC1.out; have := HC2.out; have := HC3.out; have := HC4.out; omega]; exact tmod3 q5
        obtain ⟨D5, hD5⟩ : ∃ D, decide (q5 % 3 = 0) = D := ⟨_, rfl⟩
        rw [hD5] at c5 m5 m5'; clear hD5
        have y5 : (D5 == D5) = true := beq_self_eq_true _; have y5' : (D5 != D5) = false := bne_self_eq_false _
        have e6 : ((mt q6).toList == (mt q6).toList) = true := beqL_yes rfl
        have c6 : ∀ m os, (Sort.grow (w3.drewN m) os).cell? ⟨g, off + j * 7 + 6, none⟩ = some (.string (mt q6)) := cell_grown (show g < w3.heap.size by have := HG3.out.below.size; omega) (by rw [HG3.out.below.cell (show g < _ by omega)]; exact HL6.out)
        have HM6 := Lib.hid (fun (q : Int) (hq : q = q6) W => mark_anyI q6 q hq ht6 W)
        obtain ⟨m6, hm6⟩ : ∃ m, mt q6 = m := ⟨_, rfl⟩
        rw [hm6] at c6 HM6 e6; clear hm6
        go_wp2_with fail
        refine wp_region_quiet_grown mixed (by kernel_rfl) ?_
        repeat (go_big_quiet_step (first | (go_at_call 36; refine Calls.grown_of (HM6.out _ ?_ _); have := HC0.out; have := HC1.out; have := HC2.out; have := HC3.out; have := HC4.out; have := HC5.out; have := HC6.out; omega)))
        refine wpQuiet_nil ?_; intro _ hw'; obtain ⟨⟨nq, osq⟩, hw''⟩ := hw'; subst hw''
        have HG6 := Lib.hid (HG3.out.trans ⟨nq, osq, rfl⟩)
        obtain ⟨w6, hw6⟩ : ∃ x, Sort.grow (w3.drewN nq) osq = x := ⟨_, rfl⟩
        rw [hw6] at HG6 ⊢; clear hw6 c6
        go_wp2_with fail
        go_roundw
        case rel => exact ⟨j + 1, by omega, by go_num, by first | (rw [HE.out]; done) | (rw [HE.out]; have := HC0.out; have := HC1.out; have := HC2.out; have := HC3.out; have := HC4.out; have := HC5.out; have := HC6.out; go_num), HG6.out⟩
        case measure => simp [intOf]; omega
    · have hjn : j = n := by omega
      subst hjn
      have HF := Lib.hid (show cn (j * 7) = k0 + countL cs by rw [HCN.out]; show k0 + countL (cs.take (j * 7)) = _; rw [List.take_of_length_le (by have := HLEN.out; omega)])
      go_wp2_with fail
      go_ret
      exact ⟨by rw [HF.out]; rfl, HS.out⟩

set_option maxRecDepth 100000 in
set_option maxHeartbeats 4000000 in
theorem eq_File (a0 : ByteArray) (a1 : Int) (a2 : Int) (a3 : ByteArray) (a4 : Int) (a5 : Bool) (a6 : ByteArray) (w : World) :
    Calls Tryd.prog 47 #[.agg #[.string a0, .int .i64 a1, .int .i64 a2, .string a3, .int .i64 a4, .bool a5, .string a6], .agg #[.string a0, .int .i64 a1, .int .i64 a2, .string a3, .int .i64 a4, .bool a5, .string a6]] w fun e w' => e = .returned (.bool true) ∧ Grw w w' := by
  have e0 : (a0.toList == a0.toList) = true := beqL_yes rfl
  have HG := Lib.hid (((Grw.refl w).alloc (.cells #[.string a0, .int .i64 a1, .int .i64 a2, .string a3, .int .i64 a4, .bool a5, .string a6] 57)).alloc (.cells #[.string a0, .int .i64 a1, .int .i64 a2, .string a3, .int .i64 a4, .bool a5, .string a6] 57))
  go_enter Tryd.func47, Tryd.ntmps47
  go_wp2_with fail
  refine (eqR_self a1 a2 a3 a4 a5 a6 _).mono ?_
  rintro e w1 ⟨rfl, hg1⟩
  go_wp2_with fail
  go_ret
  exact ⟨rfl, HG.out.trans hg1⟩

set_option maxRecDepth 100000 in
set_option maxHeartbeats 4000000 in
theorem to_File (a0 : ByteArray) (a1 : Int) (a2 : Int) (a3 : ByteArray) (a4 : Int) (a5 : Bool) (a6 : ByteArray) (w : World) :
    Calls Tryd.prog 43 #[.agg #[.string a0, .int .i64 a1, .int .i64 a2, .string a3, .int .i64 a4, .bool a5, .string a6]] w fun e w' => e = .returned (.agg #[.string a0, .int .i64 a1, .int .i64 a2, .string a3, .int .i64 a4, .bool a5, .string a6]) ∧ Grw w w' := by
  go_enter Tryd.func43, Tryd.ntmps43
  go_wp2_with fail
  refine (toR_lit a1 a2 a3 a4 a5 a6 _).mono ?_
  rintro e w1 ⟨rfl, rfl⟩
  go_wp2_with fail
  refine bodyPost_ret (v := .agg #[.string a0, .int .i64 a1, .int .i64 a2, .string a3, .int .i64 a4, .bool a5, .string a6]) (by simp [results, Tryd.results43, go_sem]) rfl ⟨rfl, ?_⟩
  repeat' (first | (with_reducible exact Grw.refl _) | (with_reducible refine Grw.alloc ?_ _) | (refine grw_setC ?_ (by omega) _))

set_option maxRecDepth 100000 in
set_option maxHeartbeats 4000000 in
theorem eq_FileS (x y : Rw) (hx : IsFileS x) (hy : IsFileS y) (hd : x.data = y.data) (w : World) (rx : x.ReadR w.heap.size w) (ry : y.ReadR w.heap.size w) :
    Calls Tryd.prog 30 #[x.cell, y.cell] w fun e w' => e = .returned (.bool true) ∧ Grw w w' := by
  have mixed : Tryd.prog.follows .mixedOrders = true := by kernel_rfl
  obtain ⟨v, n, e0, cs, rfl, hrow⟩ := hx
  obtain ⟨v', n', e0', cs', rfl, hrow'⟩ := hy
  rw [Rw.data, Rw.data] at hd
  have hdd := (Dt.sl.inj hd).2; clear hd
  rw [Rw.ReadR] at rx ry
  rw [Rw.cell_sl, Rw.cell_sl]
  obtain ⟨⟨a, cap, rfl, hlen, hc1, hc2, _, hcells⟩, hin⟩ := rx
  obtain ⟨⟨a', cap', rfl, hlen', hc1', hc2', _, hcells'⟩, hin'⟩ := ry
  have hnn : n = n' := by have := congrArg List.length hdd; rw [dataL_len, dataL_len] at this; omega
  subst hnn
  have HROW := Lib.hid hrow; have HROW' := Lib.hid hrow'; have HD := Lib.hid hdd; have HC := Lib.hid hcells; have HC' := Lib.hid hcells'; have HIN := Lib.hid hin; have HIN' := Lib.hid hin'
  clear hrow hrow' hdd hcells hcells' hin hin' hlen hlen'
  go_enter Tryd.func30, Tryd.ntmps30
  go_wp2
  go_loopw [5] (fun i wr => ∃ (j : Nat), j ≤ n ∧ i = .int .i64 j ∧ Grw w wr)
    (fun i _ => n - (intOf i).toNat)
  case atStart => exact ⟨0, Nat.zero_le _, rfl, Grw.refl _⟩
  case round =>
    obtain ⟨j, hj, rfl, hs⟩ := hrel
    have HS := Lib.hid hs
    clear hs
    by_cases hlt : (j : Int) < (n : Int)
    · rcases HC.out with h0 | ⟨g, off, rfl, hg, hcells⟩
      · omega
      · rcases HC'.out with h0 | ⟨g', off', rfl, hg', hcells'⟩
        · omega
        · have HCL := Lib.hid hcells; have HCL' := Lib.hid hcells'; clear hcells hcells'
          obtain ⟨a0, a1, a2, a3, a4, a5, a6, f0, f1, f2, f3, f4, f5, f6⟩ := HROW.out j (by omega)
          obtain ⟨b0, b1, b2, b3, b4, b5, b6, f0', f1', f2', f3', f4', f5', f6'⟩ := HROW'.out j (by omega)
          have hd0 := data_same HD.out f0 f0'
          have hv0 := leaf_same hd0; obtain rfl : a0 = b0 := by cases hv0; rfl
          clear hd0 hv0
          have c0 : ∀ m os, (Sort.grow (wr.drewN m) os).cell? ⟨g, off + j * 7, none⟩ = some (.string a0) := cell_grown (show g < wr.heap.size by have := HS.out.below.size; omega) (by rw [HS.out.below.cell (show g < _ by omega)]; exact HCL.out (j * 7) _ (by rw [List.getElem?_map, f0]; rfl))
          have c0' : ∀ m os, (Sort.grow (wr.drewN m) os).cell? ⟨g', off' + j * 7, none⟩ = some (.string a0) := cell_grown (show g' < wr.heap.size by have := HS.out.below.size; omega) (by rw [HS.out.below.cell (show g' < _ by omega)]; exact HCL'.out (j * 7) _ (by rw [List.getElem?_map, f0']; rfl))
          have hd1 := data_same HD.out f1 f1'
          have hv1 := leaf_same hd1; obtain rfl : a1 = b1 := by cases hv1; rfl
          clear hd1 hv1
          have c1 : ∀ m os, (Sort.grow (wr.drewN m) os).cell? ⟨g, off + j * 7 + 1, none⟩ = some (.int .i64 a1) := cell_grown (show g < wr.heap.size by have := HS.out.below.size; omega) (by rw [HS.out.below.cell (show g < _ by omega)]; rw [Nat.add_assoc]; exact HCL.out (j * 7 + 1) _ (by rw [List.getElem?_map, f1]; rfl))
          have c1' : ∀ m os, (Sort.grow (wr.drewN m) os).cell? ⟨g', off' + j * 7 + 1, none⟩ = some (.int .i64 a1) := cell_grown (show g' < wr.heap.size by have := HS.out.below.size; omega) (by rw [HS.out.below.cell (show g' < _ by omega)]; rw [Nat.add_assoc]; exact HCL'.out (j * 7 + 1) _ (by rw [List.getElem?_map, f1']; rfl))
          have hd2 := data_same HD.out f2 f2'
          have hv2 := leaf_same hd2; obtain rfl : a2 = b2 := by cases hv2; rfl
          clear hd2 hv2
          have c2 : ∀ m os, (Sort.grow (wr.drewN m) os).cell? ⟨g, off + j * 7 + 2, none⟩ = some (.int .i64 a2) := cell_grown (show g < wr.heap.size by have := HS.out.below.size; omega) (by rw [HS.out.below.cell (show g < _ by omega)]; rw [Nat.add_assoc]; exact HCL.out (j * 7 + 2) _ (by rw [List.getElem?_map, f2]; rfl))
          have c2' : ∀ m os, (Sort.grow (wr.drewN m) os).cell? ⟨g', off' + j * 7 + 2, none⟩ = some (.int .i64 a2) := cell_grown (show g' < wr.heap.size by have := HS.out.below.size; omega) (by rw [HS.out.below.cell (show g' < _ by omega)]; rw [Nat.add_assoc]; exact HCL'.out (j * 7 + 2) _ (by rw [List.getElem?_map, f2']; rfl))
          have hd3 := data_same HD.out f3 f3'
          have hv3 := leaf_same hd3; obtain rfl : a3 = b3 := by cases hv3; rfl
          clear hd3 hv3
          have c3 : ∀ m os, (Sort.grow (wr.drewN m) os).cell? ⟨g, off + j * 7 + 3, none⟩ = some (.string a3) := cell_grown (show g < wr.heap.size by have := HS.out.below.size; omega) (by rw [HS.out.below.cell (show g < _ by omega)]; rw [Nat.add_assoc]; exact HCL.out (j * 7 + 3) _ (by rw [List.getElem?_map, f3]; rfl))
          have c3' : ∀ m os, (Sort.grow (wr.drewN m) os).cell? ⟨g', off' + j * 7 + 3, none⟩ = some (.string a3) := cell_grown (show g' < wr.heap.size by have := HS.out.below.size; omega) (by rw [HS.out.below.cell (show g' < _ by omega)]; rw [Nat.add_assoc]; exact HCL'.out (j * 7 + 3) _ (by rw [List.getElem?_map, f3']; rfl))
          have hd4 := data_same HD.out f4 f4'
          have hv4 := leaf_same hd4; obtain rfl : a4 = b4 := by cases hv4; rfl
          clear hd4 hv4
          have c4 : ∀ m os, (Sort.grow (wr.drewN m) os).cell? ⟨g, off + j * 7 + 4, none⟩ = some (.int .i64 a4) := cell_grown (show g < wr.heap.size by have := HS.out.below.size; omega) (by rw [HS.out.below.cell (show g < _ by omega)]; rw [Nat.add_assoc]; exact HCL.out (j * 7 + 4) _ (by rw [List.getElem?_map, f4]; rfl))
          have c4' : ∀ m os, (Sort.grow (wr.drewN m) os).cell? ⟨g', off' + j * 7 + 4, none⟩ = some (.int .i64 a4) := cell_grown (show g' < wr.heap.size by have := HS.out.below.size; omega) (by rw [HS.out.below.cell (show g' < _ by omega)]; rw [Nat.add_assoc]; exact HCL'.out (j * 7 + 4) _ (by rw [List.getElem?_map, f4']; rfl))
          have hd5 := data_same HD.out f5 f5'
          have hv5 := leaf_same hd5; obtain rfl : a5 = b5 := by cases hv5; rfl
          clear hd5 hv5
          have c5 : ∀ m os, (Sort.grow (wr.drewN m) os).cell? ⟨g, off + j * 7 + 5, none⟩ = some (.bool a5) := cell_grown (show g < wr.heap.size by have := HS.out.below.size; omega) (by rw [HS.out.below.cell (show g < _ by omega)]; rw [Nat.add_assoc]; exact HCL.out (j * 7 + 5) _ (by rw [List.getElem?_map, f5]; rfl))
          have c5' : ∀ m os, (Sort.grow (wr.drewN m) os).cell? ⟨g', off' + j * 7 + 5, none⟩ = some (.bool a5) := cell_grown (show g' < wr.heap.size by have := HS.out.below.size; omega) (by rw [HS.out.below.cell (show g' < _ by omega)]; rw [Nat.add_assoc]; exact HCL'.out (j * 7 + 5) _ (by rw [List.getElem?_map, f5']; rfl))
          have hd6 := data_same HD.out f6 f6'
          have hv6 := leaf_same hd6; obtain rfl : a6 = b6 := by cases hv6; rfl
          clear hd6 hv6
          have c6 : ∀ m os, (Sort.grow (wr.drewN m) os).cell? ⟨g, off + j * 7 + 6, none⟩ = some (.string a6) := cell_grown (show g < wr.heap.size by have := HS.out.below.size; omega) (by rw [HS.out.below.cell (show g < _ by omega)]; rw [Nat.add_assoc]; exact HCL.out (j * 7 + 6) _ (by rw [List.getElem?_map, f6]; rfl))
          have c6' : ∀ m os, (Sort.grow (wr.drewN m) os).cell? ⟨g', off' + j * 7 + 6, none⟩ = some (.string a6) := cell_grown (show g' < wr.heap.size by have := HS.out.below.size; omega) (by rw [HS.out.below.cell (show g' < _ by omega)]; rw [Nat.add_assoc]; exact HCL'.out (j * 7 + 6) _ (by rw [List.getElem?_map, f6']; rfl))
          have HE := Lib.hid (fun (n : Nat) (os : Array Obj) => eq_File a0 a1 a2 a3 a4 a5 a6 (Sort.grow (wr.drewN n) os))
          clear f0 f0' f1 f1' f2 f2' f3 f3' f4 f4' f5 f5' f6 f6'
          go_wp2_with fail
          refine wp_region_quiet_grown mixed (by kernel_rfl) ?_
          repeat (go_big_quiet_step (first | (go_at_call 47; refine Calls.grown_of (HE.out _ _))))
          refine wpQuiet_nil ?_; intro _ hw'; obtain ⟨⟨nq, osq⟩, hw''⟩ := hw'; subst hw''
          have HG1 := Lib.hid (HS.out.trans ⟨nq, osq, rfl⟩)
          obtain ⟨w1, hw1⟩ : ∃ x, Sort.grow (wr.drewN nq) osq = x := ⟨_, rfl⟩
          rw [hw1] at HG1 ⊢; clear hw1 c0 c0' c1 c1' c2 c2' c3 c3' c4 c4' c5 c5' c6 c6'
          go_wp2_with fail
          go_roundw
          case rel => exact ⟨j + 1, by omega, by go_num, HG1.out⟩
          case measure => simp [intOf]; omega
    · have hkn : decide ((j : Int) < (n : Int)) = false := decide_eq_false hlt
      go_wp2_with fail
      go_ret
      exact ⟨rfl, HS.out⟩

def SzRg (h p : ByteArray) (left : Int) (w : World) (e : Ending) (w' : World) : Prop :=
  ∃ r : Int, e = .returned (.int .i64 r) ∧ -1 ≤ r ∧ (0 ≤ r → r + h.size + p.size = left) ∧ Grw w w'
set_option maxRecDepth 100000 in
set_option maxHeartbeats 4000000 in
theorem szR_grw (a1 a2 : Int) (a3 : ByteArray) (a4 : Int) (a5 : Bool) (a6 : ByteArray) (left : Int) (l1 : -1 ≤ left) (l2 : left ≤ 1099511627776) (w : World) (z3 : a3.size ≤ 9223372036854775807) (z6 : a6.size ≤ 9223372036854775807) :
    Calls Tryd.prog 13 #[.agg #[.int .i64 a1, .int .i64 a2, .string a3, .int .i64 a4, .bool a5, .string a6], .int .i64 left] w (SzRg a3 a6 left w) := by
  have HB := Lib.hid ((Grw.refl w).alloc (.cells #[.int .i64 a1, .int .i64 a2, .string a3, .int .i64 a4, .bool a5, .string a6] 37))
  by_cases c1 : left - a3.size < 0
  · go_enter Tryd.func13, Tryd.ntmps13
    go_wp2_with fail
    go_ret
    exact ⟨-1, rfl, by omega, by omega, HB.out⟩
  · by_cases c2 : left - a3.size - a6.size < 0
    · go_enter Tryd.func13, Tryd.ntmps13
      go_wp2_with fail
      go_ret
      exact ⟨-1, rfl, by omega, by omega, HB.out⟩
    · go_enter Tryd.func13, Tryd.ntmps13
      go_wp2_with fail
      go_ret
      exact ⟨left - a3.size - a6.size, rfl, by omega, by omega, HB.out⟩

def SzFile (h b p : ByteArray) (left : Int) (w : World) (e : Ending) (w' : World) : Prop :=
  ∃ r : Int, e = .returned (.int .i64 r) ∧ -1 ≤ r ∧ (0 ≤ r → r + ((h.size : Nat) + (b.size : Nat) + (p.size : Nat)) = left) ∧ Grw w w'
set_option maxRecDepth 100000 in
set_option maxHeartbeats 4000000 in
theorem sz_File (a0 : ByteArray) (a1 : Int) (a2 : Int) (a3 : ByteArray) (a4 : Int) (a5 : Bool) (a6 : ByteArray) (left : Int) (l1 : -1 ≤ left) (l2 : left ≤ 1099511627776) (w : World) (z0 : a0.size ≤ 9223372036854775807) (z3 : a3.size ≤ 9223372036854775807) (z6 : a6.size ≤ 9223372036854775807) :
    Calls Tryd.prog 40 #[.agg #[.string a0, .int .i64 a1, .int .i64 a2, .string a3, .int .i64 a4, .bool a5, .string a6], .int .i64 left] w (SzFile a0 a3 a6 left w) := by
  have HB := Lib.hid ((Grw.refl w).alloc (.cells #[.string a0, .int .i64 a1, .int .i64 a2, .string a3, .int .i64 a4, .bool a5, .string a6] 71))
  by_cases c1 : left - a0.size < 0
  · go_enter Tryd.func40, Tryd.ntmps40
    go_wp2_with fail
    go_ret
    exact ⟨-1, rfl, by omega, by omega, HB.out⟩
  · go_enter Tryd.func40, Tryd.ntmps40
    go_wp2_with fail
    refine (szR_grw a1 a2 a3 a4 a5 a6 _ (by omega) (by omega) _ z3 z6).mono ?_
    rintro e w1 ⟨r, rfl, h1, h2, hg⟩
    by_cases c2 : r < 0
    · go_wp2_with fail
      go_ret
      exact ⟨-1, rfl, by omega, by omega, HB.out.trans hg⟩
    · replace h2 := h2 (by omega)
      go_wp2_with fail
      go_ret
      exact ⟨r, rfl, by omega, by omega, HB.out.trans hg⟩

set_option maxRecDepth 100000 in
set_option maxHeartbeats 4000000 in
theorem sz_FileS (x : Rw) (hx : IsFileS x) (left : Int) (l1 : 0 ≤ left) (l2 : left ≤ 1099511627776) (w : World) (rx : x.ReadR w.heap.size w) (hz : x.Small) :
    Calls Tryd.prog 24 #[x.cell, .int .i64 left] w fun e w' => ∃ r : Int, e = .returned (.int .i64 r) ∧ -1 ≤ r ∧ (0 ≤ r → r + (x.weight : Nat) = left) ∧ Grw w w' := by
  obtain ⟨v, n, e0, cs, rfl, hrow⟩ := hx
  rw [Rw.ReadR] at rx; rw [Rw.Small] at hz; rw [Rw.cell_sl, Rw.weight]
  obtain ⟨⟨a, cap, rfl, hlen, hc1, hc2, _, hcells⟩, hin⟩ := rx
  have HROW := Lib.hid hrow; have HC := Lib.hid hcells; have HIN := Lib.hid hin; have HZ := Lib.hid (smallL_iff.1 hz); have HLEN := Lib.hid hlen
  clear hrow hcells hin hz hlen
  obtain ⟨wt, hwt⟩ : ∃ f : Nat → Nat, f = fun m => weightL (cs.take m) := ⟨_, rfl⟩
  have HWT := Lib.hid hwt; clear hwt
  by_cases h0 : left - n < 0
  · go_enter Tryd.func24, Tryd.ntmps24
    go_wp2
    go_ret
    exact ⟨-1, rfl, by omega, by omega, Grw.refl _⟩
  · go_enter Tryd.func24, Tryd.ntmps24
    go_wp2
    go_loopw [1, 5] (fun q i wr => ∃ (j : Nat) (r : Int), j ≤ n ∧ i = .int .i64 j ∧ q = .int .i64 r ∧ 0 ≤ r ∧ r + n + (wt (j * 7) : Nat) = left ∧ Grw w wr)
      (fun _ i _ => n - (intOf i).toNat)
    case atStart => exact ⟨0, left - n, Nat.zero_le _, rfl, rfl, by omega, by rw [HWT.out]; (simp [weightL]; try omega), Grw.refl _⟩
    case round =>
      obtain ⟨j, r, hj, rfl, rfl, hr0, hr1, hs⟩ := hrel
      have HS := Lib.hid hs; have HR1 := Lib.hid hr1
      have hr2 : r ≤ 1099511627776 := by omega
      clear hs hr1
      by_cases hlt : (j : Int) < (n : Int)
      · rcases HC.out with hz0 | ⟨g, off, rfl, hg, hcells⟩
        · omega
        · have HCL := Lib.hid hcells; clear hcells
          obtain ⟨a0, a1, a2, a3, a4, a5, a6, f0, f1, f2, f3, f4, f5, f6⟩ := HROW.out j (by omega)
          have c0 : wr.cell? ⟨g, off + j * 7, none⟩ = some (.string a0) := by rw [HS.out.below.cell (show g < _ by omega)]; exact HCL.out (j * 7) _ (by rw [List.getElem?_map, f0]; rfl)
          have z0 : a0.size ≤ 9223372036854775807 := by have := HZ.out _ (List.mem_of_getElem? f0); rw [Rw.Small] at this; exact this
          have hw0 : weightL (cs.take (j * 7 + 1)) = weightL (cs.take (j * 7)) + _ := weightL_more f0; rw [Rw.weight] at hw0; simp only [weightV] at hw0
          have c1 : wr.cell? ⟨g, off + j * 7 + 1, none⟩ = some (.int .i64 a1) := by rw [HS.out.below.cell (show g < _ by omega)]; rw [Nat.add_assoc]; exact HCL.out (j * 7 + 1) _ (by rw [List.getElem?_map, f1]; rfl)
          have hw1 : weightL (cs.take (j * 7 + 2)) = weightL (cs.take (j * 7 + 1)) + _ := weightL_more f1; rw [Rw.weight] at hw1; simp only [weightV] at hw1
          have c2 : wr.cell? ⟨g, off + j * 7 + 2, none⟩ = some (.int .i64 a2) := by rw [HS.out.below.cell (show g < _ by omega)]; rw [Nat.add_assoc]; exact HCL.out (j * 7 + 2) _ (by rw [List.getElem?_map, f2]; rfl)
          have hw2 : weightL (cs.take (j * 7 + 3)) = weightL (cs.take (j * 7 + 2)) + _ := weightL_more f2; rw [Rw.weight] at hw2; simp only [weightV] at hw2
          have c3 : wr.cell? ⟨g, off + j * 7 + 3, none⟩ = some (.string a3) := by rw [HS.out.below.cell (show g < _ by omega)]; rw [Nat.add_assoc]; exact HCL.out (j * 7 + 3) _ (by rw [List.getElem?_map, f3]; rfl)
          have z3 : a3.size ≤ 9223372036854775807 := by have := HZ.out _ (List.mem_of_getElem? f3); rw [Rw.Small] at this; exact this
          have hw3 : weightL (cs.take (j * 7 + 4)) = weightL (cs.take (j * 7 + 3)) + _ := weightL_more f3; rw [Rw.weight] at hw3; simp only [weightV] at hw3
          have c4 : wr.cell? ⟨g, off + j * 7 + 4, none⟩ = some (.int .i64 a4) := by rw [HS.out.below.cell (show g < _ by omega)]; rw [Nat.add_assoc]; exact HCL.out (j * 7 + 4) _ (by rw [List.getElem?_map, f4]; rfl)
          have hw4 : weightL (cs.take (j * 7 + 5)) = weightL (cs.take (j * 7 + 4)) + _ := weightL_more f4; rw [Rw.weight] at hw4; simp only [weightV] at hw4
          have c5 : wr.cell? ⟨g, off + j * 7 + 5, none⟩ = some (.bool a5) := by rw [HS.out.below.cell (show g < _ by omega)]; rw [Nat.add_assoc]; exact HCL.out (j * 7 + 5) _ (by rw [List.getElem?_map, f5]; rfl)
          have hw5 : weightL (cs.take (j * 7 + 6)) = weightL (cs.take (j * 7 + 5)) + _ := weightL_more f5; rw [Rw.weight] at hw5; simp only [weightV] at hw5
          have c6 : wr.cell? ⟨g, off + j * 7 + 6, none⟩ = some (.string a6) := by rw [HS.out.below.cell (show g < _ by omega)]; rw [Nat.add_assoc]; exact HCL.out (j * 7 + 6) _ (by rw [List.getElem?_map, f6]; rfl)
          have z6 : a6.size ≤ 9223372036854775807 := by have := HZ.out _ (List.mem_of_getElem? f6); rw [Rw.Small] at this; exact this
          have hw6 : weightL (cs.take (j * 7 + 7)) = weightL (cs.take (j * 7 + 6)) + _ := weightL_more f6; rw [Rw.weight] at hw6; simp only [weightV] at hw6
          have HW := Lib.hid (show wt ((j + 1) * 7) = wt (j * 7) + (a0.size + a3.size + a6.size) by rw [HWT.out, Nat.add_mul, Nat.one_mul]; show weightL (cs.take (j * 7 + 7)) = weightL (cs.take (j * 7)) + _; omega)
          clear hw0 hw1 hw2 hw3 hw4 hw5 hw6
          go_wp2_with fail
          refine (sz_File a0 a1 a2 a3 a4 a5 a6 r (by omega) hr2 _ z0 z3 z6).mono ?_
          rintro e w2 ⟨r2, rfl, hr3, hr4, hg2⟩
          have HG2 := Lib.hid (HS.out.trans hg2); clear hg2
          by_cases hneg : r2 < 0
          · go_wp2_with fail
            go_ret
            exact ⟨-1, rfl, by omega, by omega, HG2.out⟩
          · have hr5 := hr4 (by omega)
            clear hr4
            have HR5 := Lib.hid hr5; clear hr5
            go_wp2_with fail
            go_roundw
            case rel => exact ⟨j + 1, r2, by omega, by go_num, rfl, by omega, by rw [HW.out]; have := HR5.out; have := HR1.out; omega, HG2.out⟩
            case measure => simp [intOf]; omega
      · have hjn : j = n := by omega
        subst hjn
        have HF := Lib.hid (show wt (j * 7) = weightL cs by rw [HWT.out]; show weightL (cs.take (j * 7)) = _; rw [List.take_of_length_le (by have := HLEN.out; omega)])
        go_wp2_with fail
        go_ret
        exact ⟨r, rfl, by omega, fun _ => by have := HF.out; have := HR1.out; omega, HS.out⟩

theorem info_FileS : (Tryd.prog.info? 57).map (fun i => (i.zero, i.size, i.bytes)) = some (some (.agg #[.string ⟨#[]⟩, .int .i64 0, .int .i64 0, .string ⟨#[]⟩, .int .i64 0, .bool false, .string ⟨#[]⟩]), 7, 80) := by kernel_rfl
set_option maxRecDepth 100000 in
set_option maxHeartbeats 4000000 in
theorem to_FileS (x : Rw) (hx : IsFileS x) (w : World) (rx : x.ReadR w.heap.size w) (hl : x.weight ≤ 1099511627776) :
    Calls Tryd.prog 27 #[x.cell] w fun e w' => ∃ y : Rw, e = .returned y.cell ∧ IsFileS y ∧ y.data = x.data ∧ y.blocks.Nodup ∧ y.OwnR w.heap.size w'.heap.size w' ∧ Below w.heap.size w w' := by
  obtain ⟨i0, hi0, hz0, hz1, hz2⟩ := info_parts info_FileS
  obtain ⟨v, n, e0, cs, rfl, hrow⟩ := hx
  rw [Rw.ReadR] at rx; rw [Rw.weight] at hl; rw [Rw.cell_sl, Rw.data]
  obtain ⟨⟨a, cap, rfl, hlen, hc1, hc2, _, hcells⟩, hin⟩ := rx
  have hnl : n ≤ 1099511627776 := by omega
  have hall : ∀ c ∈ cs, c.blocks = [] ∧ c.cell.oneCell' = true ∧ c = .leaf c.cell := rows_all (K := 7) (by decide) hlen _ fun j hj t ht => by
    obtain ⟨a0, a1, a2, a3, a4, a5, a6, f0, f1, f2, f3, f4, f5, f6⟩ := hrow j hj
    rcases (show t = 0 ∨ t = 1 ∨ t = 2 ∨ t = 3 ∨ t = 4 ∨ t = 5 ∨ t = 6 by omega) with rfl | rfl | rfl | rfl | rfl | rfl | rfl
    · exact ⟨_, f0, by rw [Rw.blocks], rfl, rfl⟩
    · exact ⟨_, f1, by rw [Rw.blocks], rfl, rfl⟩
    · exact ⟨_, f2, by rw [Rw.blocks], rfl, rfl⟩
    · exact ⟨_, f3, by rw [Rw.blocks], rfl, rfl⟩
    · exact ⟨_, f4, by rw [Rw.blocks], rfl, rfl⟩
    · exact ⟨_, f5, by rw [Rw.blocks], rfl, rfl⟩
    · exact ⟨_, f6, by rw [Rw.blocks], rfl, rfl⟩
  have HROW := Lib.hid hrow; have HC := Lib.hid hcells; have HLEN := Lib.hid hlen; have HI := Lib.hid hz2; have HALL := Lib.hid hall
  clear hrow hcells hin hlen hz2 hall hl
  go_enter Tryd.func27, Tryd.ntmps27
  go_wp2_with (at_make; refine wpList_make_full _ rfl _ _ 27 rfl w.heap.size 57 i0 (.agg #[.string ⟨#[]⟩, .int .i64 0, .int .i64 0, .string ⟨#[]⟩, .int .i64 0, .bool false, .string ⟨#[]⟩]) 7 Tryd.underlying27 hi0 hz0 hz1 .i64 .i64 _ _ n rfl rfl rfl rfl ?c1 ?c2 (Nat.le_refl _) ?_)
  case c1 => rw [HI.out]; omega
  case c2 => unfold maxLen; omega
  intro w1 hown1 hgr1
  have hb1 : Below w.heap.size w w1 := (Below.refl _ _).grown hgr1 (Nat.le_refl _) (fun k h => by cases h)
  have HO1 := Lib.hid hown1; have HB1 := Lib.hid hb1; clear hown1 hgr1 hb1
  go_wp2
  go_loopw [4] (fun i wr => ∃ (j : Nat) (us : List Value), j ≤ n ∧ i = .int .i64 j ∧ wr.ownsRow w.heap.size 57 7 (.slice (some ⟨w.heap.size, 0, none⟩) n n) n us ∧ (∀ i, i < j * 7 → us[i]? = (cs.map Rw.cell)[i]?) ∧ Below w.heap.size w wr)
    (fun i _ => n - (intOf i).toNat)
  case atStart => exact ⟨0, _, Nat.zero_le _, rfl, HO1.out, fun i hi => by omega, HB1.out⟩
  case round =>
    obtain ⟨j, us, hj, rfl, hown, hup, hbw⟩ := hrel
    have HO := Lib.hid hown; have HU := Lib.hid hup; have HB := Lib.hid hbw
    clear hown hup hbw HO1 HB1
    by_cases hlt : (j : Int) < (n : Int)
    · rcases HC.out with h0 | ⟨g, off, rfl, hg, hcells⟩
      · omega
      · have HCL := Lib.hid hcells; clear hcells
        obtain ⟨a0, a1, a2, a3, a4, a5, a6, f0, f1, f2, f3, f4, f5, f6⟩ := HROW.out j (by omega)
        have c0 : wr.cell? ⟨g, off + j * 7, none⟩ = some (.string a0) := by rw [HB.out.cell (show g < _ by omega)]; exact HCL.out (j * 7) _ (by rw [List.getElem?_map, f0]; rfl)
        have HM0 := Lib.hid (show (cs.map Rw.cell)[j * 7]? = some (.string a0) by rw [List.getElem?_map, f0]; rfl)
        have c1 : wr.cell? ⟨g, off + j * 7 + 1, none⟩ = some (.int .i64 a1) := by rw [HB.out.cell (show g < _ by omega)]; rw [Nat.add_assoc]; exact HCL.out (j * 7 + 1) _ (by rw [List.getElem?_map, f1]; rfl)
        have HM1 := Lib.hid (show (cs.map Rw.cell)[j * 7 + 1]? = some (.int .i64 a1) by rw [List.getElem?_map, f1]; rfl)
        have c2 : wr.cell? ⟨g, off + j * 7 + 2, none⟩ = some (.int .i64 a2) := by rw [HB.out.cell (show g < _ by omega)]; rw [Nat.add_assoc]; exact HCL.out (j * 7 + 2) _ (by rw [List.getElem?_map, f2]; rfl)
        have HM2 := Lib.hid (show (cs.map Rw.cell)[j * 7 + 2]? = some (.int .i64 a2) by rw [List.getElem?_map, f2]; rfl)
        have c3 : wr.cell? ⟨g, off + j * 7 + 3, none⟩ = some (.string a3) := by rw [HB.out.cell (show g < _ by omega)]; rw [Nat.add_assoc]; exact HCL.out (j * 7 + 3) _ (by rw [List.getElem?_map, f3]; rfl)
        have HM3 := Lib.hid (show (cs.map Rw.cell)[j * 7 + 3]? = some (.string a3) by rw [List.getElem?_map, f3]; rfl)
        have c4 : wr.cell? ⟨g, off + j * 7 + 4, none⟩ = some (.int .i64 a4) := by rw [HB.out.cell (show g < _ by omega)]; rw [Nat.add_assoc]; exact HCL.out (j * 7 + 4) _ (by rw [List.getElem?_map, f4]; rfl)
        have HM4 := Lib.hid (show (cs.map Rw.cell)[j * 7 + 4]? = some (.int .i64 a4) by rw [List.getElem?_map, f4]; rfl)
        have c5 : wr.cell? ⟨g, off + j * 7 + 5, none⟩ = some (.bool a5) := by rw [HB.out.cell (show g < _ by omega)]; rw [Nat.add_assoc]; exact HCL.out (j * 7 + 5) _ (by rw [List.getElem?_map, f5]; rfl)
        have HM5 := Lib.hid (show (cs.map Rw.cell)[j * 7 + 5]? = some (.bool a5) by rw [List.getElem?_map, f5]; rfl)
        have c6 : wr.cell? ⟨g, off + j * 7 + 6, none⟩ = some (.string a6) := by rw [HB.out.cell (show g < _ by omega)]; rw [Nat.add_assoc]; exact HCL.out (j * 7 + 6) _ (by rw [List.getElem?_map, f6]; rfl)
        have HM6 := Lib.hid (show (cs.map Rw.cell)[j * 7 + 6]? = some (.string a6) by rw [List.getElem?_map, f6]; rfl)
        clear f0 f1 f2 f3 f4 f5 f6
        go_wp2_with fail
        refine (to_File a0 a1 a2 a3 a4 a5 a6 _).mono ?_
        rintro e w2 ⟨rfl, hg2⟩
        have hb2 := hg2.below
        have hown2 := ownsRow_only HO.out (OnlyB.of_below hb2 []) (fun _ _ hm => by cases hm)
        have hxl : us.length = n * 7 := HO.out.1
        obtain ⟨u0, hu0⟩ : ∃ u, us[j * 7]? = some u := ⟨_, List.getElem?_eq_getElem (by omega)⟩
        have d0 : w2.cell? ⟨w.heap.size, j * 7, none⟩ = some u0 := by rw [hown2.cellAt (j * 7) (by omega)]; exact hu0
        have z0 : w2.frozen? ⟨w.heap.size, j * 7, none⟩ = false := hown2.frozenAt _
        obtain ⟨u1, hu1⟩ : ∃ u, us[j * 7 + 1]? = some u := ⟨_, List.getElem?_eq_getElem (by omega)⟩
        have d1 : w2.cell? ⟨w.heap.size, j * 7 + 1, none⟩ = some u1 := by rw [hown2.cellAt (j * 7 + 1) (by omega)]; exact hu1
        have z1 : w2.frozen? ⟨w.heap.size, j * 7 + 1, none⟩ = false := hown2.frozenAt _
        obtain ⟨u2, hu2⟩ : ∃ u, us[j * 7 + 2]? = some u := ⟨_, List.getElem?_eq_getElem (by omega)⟩
        have d2 : w2.cell? ⟨w.heap.size, j * 7 + 2, none⟩ = some u2 := by rw [hown2.cellAt (j * 7 + 2) (by omega)]; exact hu2
        have z2 : w2.frozen? ⟨w.heap.size, j * 7 + 2, none⟩ = false := hown2.frozenAt _
        obtain ⟨u3, hu3⟩ : ∃ u, us[j * 7 + 3]? = some u := ⟨_, List.getElem?_eq_getElem (by omega)⟩
        have d3 : w2.cell? ⟨w.heap.size, j * 7 + 3, none⟩ = some u3 := by rw [hown2.cellAt (j * 7 + 3) (by omega)]; exact hu3
        have z3 : w2.frozen? ⟨w.heap.size, j * 7 + 3, none⟩ = false := hown2.frozenAt _
        obtain ⟨u4, hu4⟩ : ∃ u, us[j * 7 + 4]? = some u := ⟨_, List.getElem?_eq_getElem (by omega)⟩
        have d4 : w2.cell? ⟨w.heap.size, j * 7 + 4, none⟩ = some u4 := by rw [hown2.cellAt (j * 7 + 4) (by omega)]; exact hu4
        have z4 : w2.frozen? ⟨w.heap.size, j * 7 + 4, none⟩ = false := hown2.frozenAt _
        obtain ⟨u5, hu5⟩ : ∃ u, us[j * 7 + 5]? = some u := ⟨_, List.getElem?_eq_getElem (by omega)⟩
        have d5 : w2.cell? ⟨w.heap.size, j * 7 + 5, none⟩ = some u5 := by rw [hown2.cellAt (j * 7 + 5) (by omega)]; exact hu5
        have z5 : w2.frozen? ⟨w.heap.size, j * 7 + 5, none⟩ = false := hown2.frozenAt _
        obtain ⟨u6, hu6⟩ : ∃ u, us[j * 7 + 6]? = some u := ⟨_, List.getElem?_eq_getElem (by omega)⟩
        have d6 : w2.cell? ⟨w.heap.size, j * 7 + 6, none⟩ = some u6 := by rw [hown2.cellAt (j * 7 + 6) (by omega)]; exact hu6
        have z6 : w2.frozen? ⟨w.heap.size, j * 7 + 6, none⟩ = false := hown2.frozenAt _
        have HO2 := Lib.hid hown2; have HX := Lib.hid hxl
        have HB2 := Lib.hid (HB.out.trans (hb2.mono HB.out.size))
        clear hu0 hu1 hu2 hu3 hu4 hu5 hu6 hown2 hb2 hg2 hxl
        go_wp2
        go_roundw
        case rel =>
          refine ⟨j + 1, _, by omega, by go_num, (((((((HO2.out.stored _ _).1.stored _ _).1.stored _ _).1.stored _ _).1.stored _ _).1.stored _ _).1.stored _ _).1, fun i hi => ?_, (((((((HB2.out.setCell (Nat.le_refl _) _).setCell (Nat.le_refl _) _).setCell (Nat.le_refl _) _).setCell (Nat.le_refl _) _).setCell (Nat.le_refl _) _).setCell (Nat.le_refl _) _).setCell (Nat.le_refl _) _)⟩
          have hxl := HX.out
          by_cases i6 : i = j * 7 + 6
          · rw [i6, List.getElem?_set_self (by first | omega | (simp only [List.length_set]; omega))]; exact HM6.out.symm
          by_cases i5 : i = j * 7 + 5
          · rw [i5, List.getElem?_set_ne (by omega), List.getElem?_set_self (by first | omega | (simp only [List.length_set]; omega))]; exact HM5.out.symm
          by_cases i4 : i = j * 7 + 4
          · rw [i4, List.getElem?_set_ne (by omega), List.getElem?_set_ne (by omega), List.getElem?_set_self (by first | omega | (simp only [List.length_set]; omega))]; exact HM4.out.symm
          by_cases i3 : i = j * 7 + 3
          · rw [i3, List.getElem?_set_ne (by omega), List.getElem?_set_ne (by omega), List.getElem?_set_ne (by omega), List.getElem?_set_self (by first | omega | (simp only [List.length_set]; omega))]; exact HM3.out.symm
          by_cases i2 : i = j * 7 + 2
          · rw [i2, List.getElem?_set_ne (by omega), List.getElem?_set_ne (by omega), List.getElem?_set_ne (by omega), List.getElem?_set_ne (by omega), List.getElem?_set_self (by first | omega | (simp only [List.length_set]; omega))]; exact HM2.out.symm
          by_cases i1 : i = j * 7 + 1
          · rw [i1, List.getElem?_set_ne (by omega), List.getElem?_set_ne (by omega), List.getElem?_set_ne (by omega), List.getElem?_set_ne (by omega), List.getElem?_set_ne (by omega), List.getElem?_set_self (by first | omega | (simp only [List.length_set]; omega))]; exact HM1.out.symm
          by_cases i0 : i = j * 7
          · rw [i0, List.getElem?_set_ne (by omega), List.getElem?_set_ne (by omega), List.getElem?_set_ne (by omega), List.getElem?_set_ne (by omega), List.getElem?_set_ne (by omega), List.getElem?_set_ne (by omega), List.getElem?_set_self (by first | omega | (simp only [List.length_set]; omega))]; exact HM0.out.symm
          rw [List.getElem?_set_ne (by omega), List.getElem?_set_ne (by omega), List.getElem?_set_ne (by omega), List.getElem?_set_ne (by omega), List.getElem?_set_ne (by omega), List.getElem?_set_ne (by omega), List.getElem?_set_ne (by omega)]; exact HU.out i (by omega)
        case measure => simp [intOf]; omega
    · have hjn : j = n := by omega
      subst hjn
      have hus : us = cs.map Rw.cell := by
        apply List.ext_getElem?
        intro i
        by_cases hi : i < j * 7
        · exact HU.out i hi
        · rw [List.getElem?_eq_none (by have := HO.out.1; omega), List.getElem?_eq_none (by rw [List.length_map]; have := HLEN.out; omega)]
      have HF := Lib.hid hus; clear hus
      have hbn := blocksL_nil fun c hc => (HALL.out c hc).1
      have HBN := Lib.hid hbn; clear hbn
      go_wp2
      go_ret
      refine ⟨.sl (.slice (some ⟨w.heap.size, 0, none⟩) j j) j 7 57 cs, rfl, ⟨_, _, _, _, rfl, HROW.out⟩, by rw [Rw.data], ?_, ?_, HB.out⟩
      · rw [Rw.blocks, HBN.out]; simp [Value.ownBlock]
      · rw [Rw.OwnR]
        refine ⟨⟨by rw [← HF.out]; exact HO.out, fun g hg => (HO.out.lt g hg).2⟩, ownRL_iff.2 fun c hc => ?_⟩
        obtain ⟨_, h2, h3⟩ := HALL.out c hc
        rw [h3, Rw.OwnR]; exact h2

end Go.Proofs.YtpkicliimhflgaaDoor
namespace Go.Proofs.YtpkicliimhflgaaDoor
open Go.ChangeShapes Go.WideShapes Go.ChangeAt Go.RowKit

/-- A new slice of these numbers, the call's own; of what lay in memory nothing is written. -/
def New (k : IntKind) (e : TypeId) (zs : List Int) (w : World) (en : Ending) (w' : World) : Prop :=
  ∃ v, en = .returned v ∧ Own k e w.heap.size w'.heap.size w' v zs ∧ Below w.heap.size w w'

/-- The marks that a law writes: byte(k), byte(k+1), .. -/
def marks (k n : Nat) : List Int := (List.range n).map (fun i => (((k + i) % 256 : Nat) : Int))
theorem marks_len (k n : Nat) : (marks k n).length = n := by simp [marks]
theorem marks_at {k n j : Nat} (h : j < n) : (marks k n).getD j 0 = ((k : Int) + (j : Int)) % 256 := by
  rw [List.getD_eq_getElem?_getD]
  simp [marks, h]

def Marked (k : IntKind) (e : TypeId) (lo hi : Nat) (v : Value) (ms : List Int) (m : Int) (w : World) (en : Ending) (w' : World) : Prop :=
  en = .returned (.int .i64 m) ∧ Own k e lo hi w' v ms ∧ w.grownBy w' v.ownBlock

end Go.Proofs.YtpkicliimhflgaaDoor
namespace Go.Proofs.YtpkicliimhflgaaDoor
open Go.ChangeShapes Go.WideShapes Go.ChangeAt Go.RowKit

/-- The marks that a law writes: k, k+1, .. -/
def marksI (k n : Nat) : List Int := (List.range n).map (fun i => ((k + i : Nat) : Int))
theorem marksI_len (k n : Nat) : (marksI k n).length = n := by simp [marksI]
theorem marksI_at {k n j : Nat} (h : j < n) : (marksI k n).getD j 0 = ((k : Int) + (j : Int)) := by
  rw [List.getD_eq_getElem?_getD]
  simp [marksI, h]

end Go.Proofs.YtpkicliimhflgaaDoor
namespace Go.Proofs.YtpkicliimhflgaaDoor
open Go.ChangeShapes Go.WideShapes Go.ChangeAt Go.RowKit

theorem own_top {lo hi : Nat} {w : World} : ∀ (x : Rw), x.OwnR lo hi w → x.OwnR lo w.heap.size w := by
  refine Rw.ind (fun v h => ?_) (fun v n k e cs ih h => ?_)
  · rw [Rw.OwnR] at h ⊢; exact h
  · rw [Rw.OwnR] at h ⊢
    exact ⟨⟨h.1.1, fun g hg => (h.1.1.lt g hg).2⟩, ownRL_iff.2 fun c hc => ih c hc (ownRL_iff.1 h.2 c hc)⟩
theorem Rw.OwnR.top {lo hi : Nat} {w : World} {x : Rw} (h : x.OwnR lo hi w) : x.OwnR lo w.heap.size w := own_top x h
theorem sl_form {x : Rw} {hi : Nat} {w : World} (hx : ∃ v n k e cs, x = .sl v n k e cs) (h : x.ReadR hi w) : ∃ a n c, x.cell = .slice a n c := by
  obtain ⟨v, n, k, e, cs, rfl⟩ := hx
  rw [Rw.ReadR] at h
  obtain ⟨⟨a, cap, rfl, _⟩, _⟩ := h
  exact ⟨a, n, cap, rfl⟩
theorem is_sl_mark {x : Rw} (hx : ∃ v n k e cs, x = .sl v n k e cs) (q : Nat) : ∃ v n k e cs, x.mark q = .sl v n k e cs := by
  obtain ⟨v, n, k, e, cs, rfl⟩ := hx
  exact ⟨v, n, k, e, markL cs q, by rw [mark_cell_sl]⟩
theorem weightL_mem : ∀ {cs : List Rw} {c : Rw}, c ∈ cs → c.weight ≤ weightL cs
  | [], c, h => by cases h
  | d :: cs, c, h => by
    rw [weightL]
    rcases List.mem_cons.1 h with e | h2
    · rw [e]; omega
    · have := weightL_mem h2; omega
/-- A cell that holds a plain value takes an own slice (or another plain value). -/
theorem Rw.OwnR.put {lo hi g n k cap m : Nat} {e : TypeId} {w : World} {cs : List Rw} {u : Value} {y : Rw} (h : (Rw.sl (.slice (some ⟨g, 0, none⟩) n cap) n k e cs).OwnR lo hi w) (hn : g ∉ blocksL cs) (hm : cs[m]? = some (.leaf u)) (hy : y.OwnR lo hi w) (hg : g ∉ y.blocks) :
    (Rw.sl (.slice (some ⟨g, 0, none⟩) n cap) n k e (cs.set m y)).OwnR lo hi (w.setCell ⟨g, m, none⟩ y.cell) ∧ OnlyB [g] w (w.setCell ⟨g, m, none⟩ y.cell) ∧ (∀ b, b ∈ blocksL (cs.set m y) ↔ b ∈ y.blocks ∨ b ∈ blocksL cs) ∧
      ((blocksL cs).Nodup → y.blocks.Nodup → (∀ b ∈ y.blocks, b ∉ blocksL cs) → (blocksL (cs.set m y)).Nodup) := by
  have hml : m < cs.length := (List.getElem?_eq_some_iff.1 hm).1
  rw [Rw.OwnR] at h
  have hst := h.1.1.stored m y.cell
  have hon : OnlyB [g] w (w.setCell ⟨g, m, none⟩ y.cell) := OnlyB.of_grown hst.2
  have e1 : cs = cs.take m ++ .leaf u :: cs.drop (m + 1) := by
    conv => lhs; rw [← List.take_append_drop m cs, List.drop_eq_getElem_cons hml]
    rw [show cs[m] = .leaf u from Option.some.inj ((List.getElem?_eq_getElem hml).symm.trans hm)]
  have e2 : cs.set m y = cs.take m ++ y :: cs.drop (m + 1) := List.set_eq_take_append_cons_drop.trans (if_pos hml)
  have b1 : blocksL cs = blocksL (cs.take m) ++ blocksL (cs.drop (m + 1)) := by
    conv => lhs; rw [e1, blocksL_append, blocksL, Rw.blocks]
    rfl
  have b2 : blocksL (cs.set m y) = blocksL (cs.take m) ++ (y.blocks ++ blocksL (cs.drop (m + 1))) := by rw [e2, blocksL_append, blocksL]
  refine ⟨?_, hon, fun b => ?_, fun hd hyd hdis => ?_⟩
  · rw [Rw.OwnR]
    refine ⟨⟨by rw [List.map_set]; exact hst.1, h.1.2⟩, ownRL_iff.2 fun c hc => ?_⟩
    rcases List.mem_or_eq_of_mem_set hc with h1 | h1
    · refine Rw.OwnR.only hon c (ownRL_iff.1 h.2 c h1) fun b hb hbg => ?_
      rw [List.mem_singleton] at hbg
      subst hbg
      exact hn (blocksL_mem.2 ⟨c, h1, hb⟩)
    · rw [h1]
      refine Rw.OwnR.only hon y hy fun b hb hbg => ?_
      rw [List.mem_singleton] at hbg
      subst hbg
      exact hg hb
  · rw [b2, b1]; simp only [List.mem_append]; constructor
    · rintro (h | h | h)
      · exact Or.inr (Or.inl h)
      · exact Or.inl h
      · exact Or.inr (Or.inr h)
    · rintro (h | h | h)
      · exact Or.inr (Or.inl h)
      · exact Or.inl h
      · exact Or.inr (Or.inr h)
  · rw [b2]
    rw [b1] at hd hdis
    have hA := List.nodup_append.1 hd
    refine List.nodup_append.2 ⟨hA.1, List.nodup_append.2 ⟨hyd, hA.2.1, fun a ha b hb e => ?_⟩, fun a ha b hb e => ?_⟩
    · subst e; exact hdis a ha (List.mem_append.2 (Or.inr hb))
    · subst e
      rcases List.mem_append.1 hb with hb | hb
      · exact hdis a hb (List.mem_append.2 (Or.inl ha))
      · exact hA.2.2 a ha a hb rfl

theorem made_one {z : Array Value} (h : ∀ u ∈ z, u.oneCell' = true) (hz : 0 < z.size) (n : Nat) : ∀ u ∈ (madeCells z n).toList, u.oneCell' = true := by
  intro u hu
  unfold madeCells at hu
  simp only [Array.toList_map, List.mem_map] at hu
  obtain ⟨i, _, rfl⟩ := hu
  have hi : i % z.size < z.size := Nat.mod_lt _ hz
  rw [getElem!_pos z (i % z.size) hi]
  exact h _ (Array.getElem_mem hi)
theorem leaves_blocks (us : List Value) : blocksL (us.map Rw.leaf) = [] := blocksL_nil fun c hc => by
  obtain ⟨u, _, rfl⟩ := List.mem_map.1 hc
  rw [Rw.blocks]
theorem leaves_own {lo k n : Nat} {e : TypeId} {w : World} {v : Value} {us : List Value} (h : w.ownsRow lo e k v n us) (h1 : ∀ u ∈ us, u.oneCell' = true) : (Rw.sl v n k e (us.map Rw.leaf)).OwnR lo w.heap.size w := by
  rw [Rw.OwnR]
  refine ⟨⟨?_, fun g hg => (h.lt g hg).2⟩, ownRL_iff.2 fun c hc => ?_⟩
  · rw [List.map_map, show (Rw.cell ∘ Rw.leaf) = (id : Value → Value) from rfl, List.map_id]; exact h
  · obtain ⟨u, hu, rfl⟩ := List.mem_map.1 hc
    rw [Rw.OwnR]; exact h1 u hu
theorem dataL_ext {cs ds : List Rw} (hl : cs.length = ds.length) (h : ∀ (m : Nat) (c d : Rw), cs[m]? = some c → ds[m]? = some d → c.data = d.data) : dataL cs = dataL ds := by
  apply List.ext_getElem?
  intro m
  rw [dataL_at, dataL_at]
  by_cases hm : m < cs.length
  · rw [List.getElem?_eq_getElem hm, List.getElem?_eq_getElem (hl ▸ hm)]
    show some _ = some _
    rw [h m _ _ (List.getElem?_eq_getElem hm) (List.getElem?_eq_getElem (hl ▸ hm))]
  · rw [List.getElem?_eq_none (by omega), List.getElem?_eq_none (by omega)]

theorem ownL_only {lo hi : Nat} {w w' : World} {bs : List Nat} {L : List Rw} (h : OwnRL lo hi w L) (hb : OnlyB bs w w') (hd : ∀ b ∈ blocksL L, b ∉ bs) : OwnRL lo hi w' L :=
  ownRL_iff.2 fun c hc => Rw.OwnR.only hb c (ownRL_iff.1 h c hc) fun b hbc => hd b (blocksL_mem.2 ⟨c, hc, hbc⟩)
theorem ownL_later {lo hi : Nat} {w w' : World} {L : List Rw} (h : OwnRL lo hi w L) (hb : Below w.heap.size w w') : OwnRL lo hi w' L :=
  ownL_only h (OnlyB.of_below hb []) fun _ _ hm => by cases hm
theorem ownL_lt {lo hi : Nat} {w : World} {L : List Rw} (h : OwnRL lo hi w L) : ∀ b ∈ blocksL L, lo ≤ b ∧ b < hi ∧ b < w.heap.size := by
  intro b hb
  obtain ⟨c, hc, hbc⟩ := blocksL_mem.1 hb
  exact Rw.OwnR.lt c (ownRL_iff.1 h c hc) b hbc
theorem ownL_mono {lo hi lo' hi' : Nat} {w : World} {L : List Rw} (h : OwnRL lo hi w L) (hl : lo' ≤ lo) (hh : hi ≤ hi') : OwnRL lo' hi' w L :=
  ownRL_iff.2 fun c hc => Rw.OwnR.mono hl hh c (ownRL_iff.1 h c hc)
theorem ownL_reads {lo hi : Nat} {w : World} {L : List Rw} (h : OwnRL lo hi w L) : ReadRL hi w L := readRL_iff.2 fun c hc => Rw.OwnR.reads c (ownRL_iff.1 h c hc)
theorem ownL_read {lo hi hi' : Nat} {w : World} {L : List Rw} (h : OwnRL lo hi w L) (hh : hi ≤ hi') : ReadRL hi' w L := readRL_iff.2 fun c hc => Rw.ReadR.mono hh c (Rw.OwnR.reads c (ownRL_iff.1 h c hc))
theorem ownL_apart {lo hi lo' hi' : Nat} {w w' : World} {L M : List Rw} (h : OwnRL lo hi w L) (hy : OwnRL lo' hi' w M) (hh : hi ≤ lo' ∨ hi' ≤ lo) (ho : OnlyB (blocksL M) w w') : OwnRL lo hi w' L :=
  ownL_only h ho fun b hb hby => by
    have h1 := ownL_lt h b hb
    have h2 := ownL_lt hy b hby
    omega
theorem ownL_back {lo hi : Nat} {w0 w w' : World} {M : List Rw} (hb : Below lo w0 w) (hy : OwnRL lo hi w M) (hl : lo ≤ w.heap.size) (ho : OnlyB (blocksL M) w w') : Below lo w0 w' :=
  hb.trans (ho.below (fun b hbm => (ownL_lt hy b hbm).1) hl)
theorem own_mono_L {lo hi lo' : Nat} {w : World} {L : List Rw} (h : OwnRL lo hi w L) (hl : lo' ≤ lo) : OwnRL lo' w.heap.size w L :=
  ownRL_iff.2 fun c hc => Rw.OwnR.top (Rw.OwnR.mono hl (Nat.le_refl _) c (ownRL_iff.1 h c hc))
theorem own_mono {x : Rw} {lo hi lo' hi' : Nat} {w : World} (h : x.OwnR lo hi w) (hl : lo' ≤ lo) (hh : hi ≤ hi') : x.OwnR lo' hi' w := Rw.OwnR.mono hl hh x h
theorem nodup_in : ∀ {L : List Rw} {c : Rw}, (blocksL L).Nodup → c ∈ L → c.blocks.Nodup
  | [], c, _, h => by cases h
  | d :: L, c, hn, h => by
    rw [blocksL] at hn
    rcases List.mem_cons.1 h with e | h2
    · rw [e]; exact (List.nodup_append.1 hn).1
    · exact nodup_in (List.nodup_append.1 hn).2.1 h2
theorem nodup_apart : ∀ {L : List Rw} {a b : Rw} {i j : Nat}, (blocksL L).Nodup → L[i]? = some a → L[j]? = some b → i ≠ j → ∀ x ∈ a.blocks, x ∉ b.blocks
  | [], _, _, _, _, _, h, _, _ => by simp at h
  | c :: L, a, b, 0, 0, _, _, _, h => absurd rfl h
  | c :: L, a, b, 0, j + 1, hn, ha, hb, _ => fun x hx hy => by
    rw [blocksL] at hn
    have e : c = a := by simpa using ha
    subst e
    exact (List.nodup_append.1 hn).2.2 x hx x (blocksL_mem.2 ⟨b, List.mem_of_getElem? (by simpa using hb), hy⟩) rfl
  | c :: L, a, b, i + 1, 0, hn, ha, hb, _ => fun x hx hy => by
    rw [blocksL] at hn
    have e : c = b := by simpa using hb
    subst e
    exact (List.nodup_append.1 hn).2.2 x hy x (blocksL_mem.2 ⟨a, List.mem_of_getElem? (by simpa using ha), hx⟩) rfl
  | c :: L, a, b, i + 1, j + 1, hn, ha, hb, h => by
    rw [blocksL] at hn
    exact nodup_apart (List.nodup_append.1 hn).2.1 (by simpa using ha) (by simpa using hb) (fun e => h (by rw [e]))
theorem cell_only {bs : List Nat} {w w' : World} {a : Addr} (h : OnlyB bs w w') (hn : a.block ∉ bs) (hl : a.block < w.heap.size) : w'.cell? a = w.cell? a := World.cell?_of_block (h.block _ hl hn)
theorem ownL_top {lo hi : Nat} {w : World} {L : List Rw} (h : OwnRL lo hi w L) : OwnRL lo w.heap.size w L := ownRL_iff.2 fun c hc => Rw.OwnR.top (ownRL_iff.1 h c hc)
theorem ownL_one {lo hi : Nat} {w : World} {a : Rw} : OwnRL lo hi w [a] ↔ a.OwnR lo hi w := by rw [ownRL_iff]; simp
theorem ownL_two {lo hi : Nat} {w : World} {a b : Rw} : OwnRL lo hi w [a, b] ↔ a.OwnR lo hi w ∧ b.OwnR lo hi w := by rw [ownRL_iff]; simp
theorem rd_of {lo hi : Nat} {w : World} {x : Rw} (h : x.OwnR lo hi w) : x.ReadR w.heap.size w := Rw.OwnR.reads _ h.top
theorem rdL1 {lo hi : Nat} {w : World} {a b : Rw} (h : OwnRL lo hi w [a, b]) : a.ReadR w.heap.size w := rd_of (ownL_two.1 h).1
theorem rdL2 {lo hi : Nat} {w : World} {a b : Rw} (h : OwnRL lo hi w [a, b]) : b.ReadR w.heap.size w := rd_of (ownL_two.1 h).2

theorem OnlyB.set {bs : List Nat} {w w' : World} {b o : Nat} {u : Value} (h : OnlyB bs w w') (hb : b ∈ bs) : OnlyB bs w (w'.setCell ⟨b, o, none⟩ u) :=
  ⟨h.os, h.tape, h.output, Nat.le_trans h.size (by simp [World.setCell]), fun i hi hn => by
    rw [Below.heap_setCell _ _ _ _ (show i ≠ b from fun e => hn (e ▸ hb))]; exact h.block i hi hn⟩
theorem size_alloc (w : World) (o : Obj) : (w.alloc o).heap.size = w.heap.size + 1 := by show (w.heap.push o).size = _; simp
theorem size_set (w : World) (a : Addr) (u : Value) : w.heap.size ≤ (w.setCell a u).heap.size := by simp [World.setCell]
theorem heap_lt {w : World} {b : Nat} {o : Obj} (h : w.heap[b]? = some o) : b < w.heap.size := (Array.getElem?_eq_some_iff.1 h).1
theorem below_heap {B b : Nat} {w w' : World} {o : Obj} (h : Below B w w') (hb : b < B) (hw : w.heap[b]? = some o) : w'.heap[b]? = some o := by rw [h.block b hb]; exact hw
theorem heap_one {w : World} {b o : Nat} {cs : Array Value} {T : TypeId} (h : w.heap[b]? = some (.cells cs T (0, 0))) (u : Value) : (w.setCell ⟨b, o, none⟩ u).heap[b]? = some (.cells (cs.setIfInBounds o u) T (0, 0)) := heap_setCell_same w b o cs T u h
theorem box_cell {w : World} {b j : Nat} {cs : Array Value} {T : TypeId} {u : Value} (h : w.heap[b]? = some (.cells cs T (0, 0))) (hj : cs[j]? = some u) : w.cell? ⟨b, j, none⟩ = some u := by
  unfold World.cell?; rw [h]; exact hj
theorem box_frz {w : World} {b : Nat} {cs : Array Value} {T : TypeId} (h : w.heap[b]? = some (.cells cs T (0, 0))) (j : Nat) : w.frozen? ⟨b, j, none⟩ = false := by
  unfold World.frozen?; rw [h]; simp
theorem box_far {w : World} {b c : Nat} {o : Obj} (h : w.heap[b]? = some o) (hne : b ≠ c) (j : Nat) (u : Value) : (w.setCell ⟨c, j, none⟩ u).heap[b]? = some o := by
  rw [Below.heap_setCell _ _ _ _ hne]; exact h
theorem three_new0 (w : World) (o0 o1 o2 : Obj) : (((w.alloc o0).alloc o1).alloc o2).heap[w.heap.size]? = some o0 := by
  rw [Below.heap_alloc _ _ _ (by rw [size_alloc, size_alloc]; omega), Below.heap_alloc _ _ _ (by rw [size_alloc]; omega)]
  exact heap_alloc_new w _
theorem three_new1 (w : World) (o0 o1 o2 : Obj) : (((w.alloc o0).alloc o1).alloc o2).heap[w.heap.size + 1]? = some o1 := by
  rw [Below.heap_alloc _ _ _ (by rw [size_alloc, size_alloc]; omega)]
  have h := heap_alloc_new (w.alloc o0) o1
  rw [size_alloc] at h
  exact h
theorem three_new2 (w : World) (o0 o1 o2 : Obj) : (((w.alloc o0).alloc o1).alloc o2).heap[w.heap.size + 2]? = some o2 := by
  have h := heap_alloc_new ((w.alloc o0).alloc o1) o2
  rw [size_alloc, size_alloc] at h
  exact h

/-- A slice of integers. -/
def intCells (zs : List Int) : List Rw := zs.map fun z => .leaf (.int .i64 z)
def rwI (v : Value) (zs : List Int) : Rw := .sl v zs.length 1 3 (intCells zs)
def IsIntS (x : Rw) : Prop := ∃ v zs, x = rwI v zs
theorem rwI_is (v : Value) (zs : List Int) : IsIntS (rwI v zs) := ⟨v, zs, rfl⟩
theorem is_sl_IntS {x : Rw} (h : IsIntS x) : ∃ v n k e cs, x = .sl v n k e cs := by
  obtain ⟨v, zs, rfl⟩ := h
  exact ⟨v, _, _, _, _, rfl⟩
theorem intCells_map (zs : List Int) : (intCells zs).map Rw.cell = zs.map (.int .i64) := by
  unfold intCells; rw [List.map_map]; rfl
theorem intCells_len (zs : List Int) : (intCells zs).length = zs.length := by unfold intCells; rw [List.length_map]
theorem intCells_leaf {zs : List Int} {c : Rw} (h : c ∈ intCells zs) : ∃ z, c = .leaf (.int .i64 z) := by
  obtain ⟨z, _, rfl⟩ := List.mem_map.1 h
  exact ⟨z, rfl⟩
theorem intCells_blocks (zs : List Int) : blocksL (intCells zs) = [] := blocksL_nil fun c hc => by
  obtain ⟨z, rfl⟩ := intCells_leaf hc
  rw [Rw.blocks]
theorem intCells_count : ∀ zs : List Int, countL (intCells zs) = zs.length
  | [] => rfl
  | z :: zs => by
    have := intCells_count zs
    unfold intCells at this ⊢
    rw [List.map_cons, countL, Rw.count, this, List.length_cons]; omega
theorem intCells_weight : ∀ zs : List Int, weightL (intCells zs) = 0
  | [] => rfl
  | z :: zs => by
    have := intCells_weight zs
    unfold intCells at this ⊢
    rw [List.map_cons, weightL, Rw.weight, this]; rfl
theorem marksI_cons (k n : Nat) : marksI k (n + 1) = (k : Int) :: marksI (k + 1) n := by
  unfold marksI
  rw [List.range_succ_eq_map, List.map_cons, List.map_map]
  congr 1
  apply List.map_congr_left
  intro i _
  show ((k + (i + 1) : Nat) : Int) = ((k + 1 + i : Nat) : Int)
  congr 1; omega
theorem intCells_mark : ∀ (zs : List Int) (q : Nat), markL (intCells zs) q = intCells (marksI q zs.length)
  | [], q => by rw [List.length_nil]; rfl
  | z :: zs, q => by
    have := intCells_mark zs (q + 1)
    rw [List.length_cons, marksI_cons]
    unfold intCells at this ⊢
    rw [List.map_cons, List.map_cons, markL, mark_leaf, Rw.count, this]; rfl
theorem rwI_blocks (v : Value) (zs : List Int) : (rwI v zs).blocks = v.ownBlock.toList := by rw [rwI, Rw.blocks, intCells_blocks, List.append_nil]
theorem rwI_count (v : Value) (zs : List Int) : (rwI v zs).count = zs.length := by rw [rwI, Rw.count, intCells_count]
theorem rwI_weight (v : Value) (zs : List Int) : (rwI v zs).weight = zs.length := by rw [rwI, Rw.weight, intCells_weight]; rfl
theorem rwI_mark (v : Value) (zs : List Int) (q : Nat) : (rwI v zs).mark q = rwI v (marksI q zs.length) := by
  rw [rwI, mark_cell_sl, intCells_mark, rwI, marksI_len]
theorem rwI_own {lo hi : Nat} {w : World} {v : Value} {zs : List Int} : (rwI v zs).OwnR lo hi w ↔ Own .i64 3 lo hi w v zs := by
  rw [rwI, Rw.OwnR, intCells_map]
  constructor
  · intro h; exact h.1
  · intro h; exact ⟨h, ownRL_iff.2 fun c hc => by obtain ⟨z, rfl⟩ := intCells_leaf hc; rw [Rw.OwnR]; rfl⟩
theorem rwI_reads {hi : Nat} {w : World} {v : Value} {zs : List Int} : (rwI v zs).ReadR hi w ↔ Reads .i64 hi w v zs := by
  rw [rwI, Rw.ReadR, intCells_map]
  constructor
  · rintro ⟨⟨a, cap, rfl, _, h2, h3, h4, h5⟩, _⟩
    refine ⟨a, cap, rfl, h2, h3, h4, ?_⟩
    rcases h5 with h5 | ⟨g, off, e2, hg, hc⟩
    · exact Or.inl h5
    · exact Or.inr ⟨g, off, e2, hg, fun j hj => hc j _ (by rw [List.getElem?_map, getD_at hj]; rfl)⟩
  · rintro ⟨a, cap, rfl, h2, h3, h4, h5⟩
    refine ⟨⟨a, cap, rfl, by rw [intCells_len, Nat.mul_one], h2, h3, h4, ?_⟩, readRL_iff.2 fun c hc => by obtain ⟨z, rfl⟩ := intCells_leaf hc; rw [Rw.ReadR]; rfl⟩
    rcases h5 with h5 | ⟨g, off, e2, hg, hc⟩
    · exact Or.inl h5
    · refine Or.inr ⟨g, off, e2, hg, fun j c hj => ?_⟩
      have hjl : j < zs.length := by have := (List.getElem?_eq_some_iff.1 hj).1; simpa using this
      rw [List.getElem?_map, getD_at hjl] at hj
      cases hj
      exact hc j hjl
theorem intCells_inj {zs ys : List Int} (h : dataL (intCells zs) = dataL (intCells ys)) : zs = ys := by
  induction zs generalizing ys with
  | nil =>
    cases ys with
    | nil => rfl
    | cons y ys => unfold intCells at h; rw [List.map_nil, List.map_cons, dataL, dataL] at h; cases h
  | cons z zs ih =>
    cases ys with
    | nil => unfold intCells at h; rw [List.map_nil, List.map_cons, dataL, dataL] at h; cases h
    | cons y ys =>
      unfold intCells at h
      rw [List.map_cons, List.map_cons, dataL, dataL] at h
      obtain ⟨h1, h2⟩ := List.cons.inj h
      rw [Rw.data, Rw.data] at h1
      injection h1 with h3
      injection h3 with _ h4
      rw [h4, ih h2]
theorem rwI_data {v u : Value} {zs ys : List Int} : (rwI v zs).data = (rwI u ys).data ↔ zs = ys := by
  rw [rwI, rwI, Rw.data, Rw.data]
  constructor
  · intro h; exact intCells_inj (Dt.sl.inj h).2
  · intro h; rw [h]

end Go.Proofs.YtpkicliimhflgaaDoor
