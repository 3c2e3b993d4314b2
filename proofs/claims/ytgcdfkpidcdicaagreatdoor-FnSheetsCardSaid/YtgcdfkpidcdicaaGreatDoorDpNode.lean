/- Helper contracts over the functions with which the laws copy, compare, measure and mark slices, by program (deep.py). Asked: what lies in memory is as named. -/
import Derived.Test.YtgcdfkpidcdicaaGreatDoorDpAttr
import Derived.Test.YtgcdfkpidcdicaaGreatDoorRawL
import Derived.Shelf.SlSortCmp.QuietGrown
namespace Go.Proofs.YtgcdfkpidcdicaaGreatDoor
open Go.ChangeShapes Go.WideShapes Go.ChangeAt Go.RowKit

/-- What a slice of this type holds. -/
def IsNodeS (x : Rw) : Prop := ∃ v n e cs, x = .sl v n 4 e cs ∧ ∀ j, j < n → ∃ (a0 : ByteArray) (a1 : ByteArray) (a2 : Int) (a3 : Rw), cs[j * 4]? = some (.leaf (.string a0)) ∧ cs[j * 4 + 1]? = some (.leaf (.string a1)) ∧ cs[j * 4 + 2]? = some (.leaf (.int .i64 a2)) ∧ cs[j * 4 + 3]? = some a3 ∧ IsAttrS a3
theorem is_sl_NodeS {x : Rw} (h : IsNodeS x) : ∃ v n k e cs, x = .sl v n k e cs := by
  obtain ⟨v, n, e, cs, rfl, _⟩ := h
  exact ⟨v, n, _, e, cs, rfl⟩

set_option maxHeartbeats 2000000 in
theorem eq_Node (a0 : ByteArray) (a1 : ByteArray) (a2 : Int) (a3 b3 : Rw) (w : World) (hx3 : IsAttrS a3) (hy3 : IsAttrS b3) (hd3 : a3.data = b3.data) (rx3 : a3.ReadR w.heap.size w) (ry3 : b3.ReadR w.heap.size w) :
    Calls Tryz.prog 150 #[.agg #[.string a0, .string a1, .int .i64 a2, a3.cell], .agg #[.string a0, .string a1, .int .i64 a2, b3.cell]] w fun e w' => e = .returned (.bool true) ∧ Grw w w' := by
  have e0 : (a0.toList == a0.toList) = true := beqL_yes rfl
  have e1 : (a1.toList == a1.toList) = true := beqL_yes rfl
  go_enter Tryz.func150, Tryz.ntmps150
  go_wp2_with fail
  obtain ⟨w0, hw0⟩ : ∃ x, ((w.alloc (.cells #[.string a0, .string a1, .int .i64 a2, a3.cell] 125)).alloc (.cells #[.string a0, .string a1, .int .i64 a2, b3.cell] 125)) = x := ⟨_, rfl⟩
  rw [hw0]
  have HG0 := Lib.hid (show Grw w w0 by rw [← hw0]; exact ((Grw.refl w).alloc _).alloc _)
  clear hw0
  refine (eq_AttrS a3 b3 hx3 hy3 hd3 _ (rx3.up HG0.out) (ry3.up HG0.out)).mono ?_
  rintro e w1 ⟨rfl, hg1⟩
  have HG1 := Lib.hid (HG0.out.trans hg1); clear hg1
  go_wp2_with fail
  go_ret
  exact ⟨rfl, HG1.out⟩

set_option maxRecDepth 100000 in
set_option maxHeartbeats 4000000 in
theorem mk_NodeS (x : Rw) (hx : IsNodeS x) (lo hi k0 : Nat) (q : Int) (hq : q = k0) (w : World) (ho : x.OwnR lo hi w) (hd : x.blocks.Nodup) (hk : k0 + x.count ≤ 4611686018427387904) :
    Calls Tryz.prog 109 #[x.cell, .int .i64 q] w fun e w' => e = .returned (.int .i64 ((k0 + x.count : Nat) : Int)) ∧ (x.mark k0).OwnR lo hi w' ∧ OnlyB x.blocks w w' := by
  subst hq
  obtain ⟨v, n, e0, cs, rfl, hrow⟩ := hx
  rw [Rw.cell_sl]; rw [Rw.count] at hk ⊢; rw [mark_cell_sl]
  have ho2 := ho; rw [Rw.OwnR] at ho2
  have hlen : cs.length = n * 4 := by have := ho2.1.1.1; rwa [List.length_map] at this
  have hrw := ho2.1.1.2; clear ho2
  have HROW := Lib.hid hrow; have HD := Lib.hid hd; have HO0 := Lib.hid ho; have HLEN := Lib.hid hlen; have HK := Lib.hid hk; clear hrow hd ho hlen hk
  rcases hrw with ⟨rfl, h0⟩ | ⟨g, cap, cur, rfl, hg, _, hcap, hm, _⟩
  · subst h0
    have hz : cs = [] := List.eq_nil_of_length_eq_zero (by have := HLEN.out; omega)
    subst hz
    go_enter Tryz.func109, Tryz.ntmps109
    go_wp2
    refine wp_loop_rounds 1 ?_
    rw [rounds_succ]
    go_wp2
    go_ret
    exact ⟨by simp [countL], by rw [markL]; exact HO0.out, OnlyB.refl _ _⟩
  · unfold maxLen at hm
    obtain ⟨st, hst⟩ : ∃ f : Nat → List Rw, f = markTo cs k0 := ⟨_, rfl⟩
    obtain ⟨cn, hcn⟩ : ∃ f : Nat → Nat, f = fun m => k0 + countL (cs.take m) := ⟨_, rfl⟩
    have HST := Lib.hid hst; have HCN := Lib.hid hcn; clear hst hcn
    have HTOP := Lib.hid (fun m => show cn m ≤ 4611686018427387904 by rw [HCN.out]; have := countL_take_le cs m; have := HK.out; show k0 + countL (cs.take m) ≤ _; omega)
    have HNOT := Lib.hid (show g ∉ blocksL cs by have := HD.out; rw [Rw.blocks] at this; exact (List.nodup_cons.1 (show (g :: blocksL cs).Nodup from this)).1)
    have HOB := Lib.hid (show ∀ m, blocksL (st m) = blocksL cs from fun m => by rw [HST.out]; exact markTo_blocks cs k0 m)
    go_enter Tryz.func109, Tryz.ntmps109
    go_wp2
    go_loopw [1, 5] (fun m i wr => ∃ (j : Nat), j ≤ n ∧ i = .int .i64 j ∧ m = .int .i64 (cn (j * 4) : Int) ∧ (Rw.sl (.slice (some ⟨g, 0, none⟩) n cap) n 4 e0 (st (j * 4))).OwnR lo hi wr ∧ OnlyB (Rw.sl (.slice (some ⟨g, 0, none⟩) n cap) n 4 e0 cs).blocks w wr)
      (fun _ i _ => n - (intOf i).toNat)
    case atStart => exact ⟨0, Nat.zero_le _, rfl, by rw [HCN.out]; simp [countL], by rw [HST.out, Nat.zero_mul, markTo_zero]; exact HO0.out, OnlyB.refl _ _⟩
    case round =>
      obtain ⟨j, hj, rfl, rfl, hown, hon⟩ := hrel
      have HO := Lib.hid hown; have HN := Lib.hid hon
      clear hown hon
      by_cases hlt : (j : Int) < (n : Int)
      · obtain ⟨a0, a1, a2, a3, f0, f1, f2, f3, s3⟩ := HROW.out j (by omega)
        have hc0 : cn (j * 4 + 1) = cn (j * 4) + 1 := by rw [HCN.out]; have := countL_more f0; rw [Rw.count] at this; show k0 + countL (cs.take (j * 4 + 1)) = k0 + countL (cs.take (j * 4)) + _; omega
        have hs0 : (st (j * 4)).set (j * 4) (.leaf (.string (mt (cn (j * 4))))) = st (j * 4 + 1) := by rw [HST.out, HCN.out]; have := markTo_next f0 k0; rw [mark_leaf] at this; exact this
        have ha0 : (st (j * 4))[j * 4]? = some (.leaf (.string a0)) := by rw [HST.out]; exact markTo_at f0 k0
        have HC0 := Lib.hid hc0; have HS0 := Lib.hid hs0; have HA0 := Lib.hid ha0; clear hc0 hs0 ha0 f0
        have hc1 : cn (j * 4 + 2) = cn (j * 4 + 1) + 1 := by rw [HCN.out]; have := countL_more f1; rw [Rw.count] at this; show k0 + countL (cs.take (j * 4 + 1 + 1)) = k0 + countL (cs.take (j * 4 + 1)) + _; omega
        have hs1 : (st (j * 4 + 1)).set (j * 4 + 1) (.leaf (.string (mt (cn (j * 4 + 1))))) = st (j * 4 + 2) := by rw [HST.out, HCN.out]; have := markTo_next f1 k0; rw [mark_leaf] at this; exact this
        have ha1 : (st (j * 4 + 1))[j * 4 + 1]? = some (.leaf (.string a1)) := by rw [HST.out]; exact markTo_at f1 k0
        have HC1 := Lib.hid hc1; have HS1 := Lib.hid hs1; have HA1 := Lib.hid ha1; clear hc1 hs1 ha1 f1
        have hc2 : cn (j * 4 + 3) = cn (j * 4 + 2) + 1 := by rw [HCN.out]; have := countL_more f2; rw [Rw.count] at this; show k0 + countL (cs.take (j * 4 + 2 + 1)) = k0 + countL (cs.take (j * 4 + 2)) + _; omega
        have hs2 : (st (j * 4 + 2)).set (j * 4 + 2) (.leaf (.int .i64 (cn (j * 4 + 2) : Int))) = st (j * 4 + 3) := by rw [HST.out, HCN.out]; have := markTo_next f2 k0; rw [mark_leaf] at this; exact this
        have ha2 : (st (j * 4 + 2))[j * 4 + 2]? = some (.leaf (.int .i64 a2)) := by rw [HST.out]; exact markTo_at f2 k0
        have HC2 := Lib.hid hc2; have HS2 := Lib.hid hs2; have HA2 := Lib.hid ha2; clear hc2 hs2 ha2 f2
        have hc3 : cn (j * 4 + 4) = cn (j * 4 + 3) + a3.count := by rw [HCN.out]; have := countL_more f3; skip; show k0 + countL (cs.take (j * 4 + 3 + 1)) = k0 + countL (cs.take (j * 4 + 3)) + _; omega
        have hs3 : (st (j * 4 + 3)).set (j * 4 + 3) (a3.mark (cn (j * 4 + 3))) = st (j * 4 + 4) := by rw [HST.out, HCN.out]; have := markTo_next f3 k0;  exact this
        have ha3 : (st (j * 4 + 3))[j * 4 + 3]? = some (a3) := by rw [HST.out]; exact markTo_at f3 k0
        have HF3 := Lib.hid f3; have HC3 := Lib.hid hc3; have HS3 := Lib.hid hs3; have HA3 := Lib.hid ha3; clear hc3 hs3 ha3 f3
        obtain ⟨q0, hq0⟩ : ∃ q, cn (j * 4) = q := ⟨_, rfl⟩
        obtain ⟨q1, hq1⟩ : ∃ q, cn (j * 4 + 1) = q := ⟨_, rfl⟩
        obtain ⟨q2, hq2⟩ : ∃ q, cn (j * 4 + 2) = q := ⟨_, rfl⟩
        obtain ⟨q3, hq3⟩ : ∃ q, cn (j * 4 + 3) = q := ⟨_, rfl⟩
        obtain ⟨q4, hq4⟩ : ∃ q, cn (j * 4 + 4) = q := ⟨_, rfl⟩
        rw [hq0, hq1] at HC0
        rw [hq0] at HS0
        rw [hq1, hq2] at HC1
        rw [hq1] at HS1
        rw [hq2, hq3] at HC2
        rw [hq2] at HS2
        rw [hq3, hq4] at HC3
        rw [hq3] at HS3
        have ht0 : q0 ≤ 4611686018427387904 := by rw [← hq0]; exact HTOP.out _
        have ht1 : q1 ≤ 4611686018427387904 := by rw [← hq1]; exact HTOP.out _
        have ht2 : q2 ≤ 4611686018427387904 := by rw [← hq2]; exact HTOP.out _
        have ht3 : q3 ≤ 4611686018427387904 := by rw [← hq3]; exact HTOP.out _
        have ht4 : q4 ≤ 4611686018427387904 := by rw [← hq4]; exact HTOP.out _
        rw [hq0]
        have HE := Lib.hid (show cn ((j + 1) * 4) = q4 by rw [Nat.add_mul, Nat.one_mul]; exact hq4)
        clear hq0 hq1 hq2 hq3 hq4
        go_wp2_with fail
        refine (mark_anyI q0 _ rfl (by omega) _).mono ?_
        rintro e w0 ⟨rfl, hg0⟩
        have HO0a := Lib.hid (HO.out.later hg0.below)
        have HN0a := Lib.hid (HN.out.trans (OnlyB.of_below hg0.below _))
        have r0 := HO0a.out; rw [Rw.OwnR] at r0
        have d0 : w0.cell? ⟨g, j * 4, none⟩ = some (.string a0) := by rw [r0.1.1.cellAt (j * 4) (by omega), List.getElem?_map, HA0.out]; rfl
        have z0 : w0.frozen? ⟨g, j * 4, none⟩ = false := r0.1.1.frozenAt _
        have hsto := HO0a.out.store (v := .string (mt q0)) (by rw [HOB.out]; exact HNOT.out) HA0.out rfl
        rw [HS0.out] at hsto
        have HO0' := Lib.hid hsto.1; have HN0' := Lib.hid (HN0a.out.trans (hsto.2.1.mono (by intro i hi; rw [Rw.blocks]; exact List.mem_append.2 (Or.inl hi)))); clear hsto r0 hg0
        go_wp2_with fail
        refine (mark_anyI q1 _ (by have := HC0.out; omega) (by omega) _).mono ?_
        rintro e w1 ⟨rfl, hg1⟩
        have HO1a := Lib.hid (HO0'.out.later hg1.below)
        have HN1a := Lib.hid (HN0'.out.trans (OnlyB.of_below hg1.below _))
        have r1 := HO1a.out; rw [Rw.OwnR] at r1
        have d1 : w1.cell? ⟨g, j * 4 + 1, none⟩ = some (.string a1) := by rw [r1.1.1.cellAt (j * 4 + 1) (by omega), List.getElem?_map, HA1.out]; rfl
        have z1 : w1.frozen? ⟨g, j * 4 + 1, none⟩ = false := r1.1.1.frozenAt _
        have hsto := HO1a.out.store (v := .string (mt q1)) (by rw [HOB.out]; exact HNOT.out) HA1.out rfl
        rw [HS1.out] at hsto
        have HO1' := Lib.hid hsto.1; have HN1' := Lib.hid (HN1a.out.trans (hsto.2.1.mono (by intro i hi; rw [Rw.blocks]; exact List.mem_append.2 (Or.inl hi)))); clear hsto r1 hg1
        have r2 := HO1'.out; rw [Rw.OwnR] at r2
        have d2 := r2.1.1.cellAt (j * 4 + 2) (by omega); rw [List.getElem?_map, HA2.out] at d2; replace d2 := d2.trans (show _ = some (Value.int .i64 a2) from rfl)
        have z2 := r2.1.1.frozenAt (j * 4 + 2)
        have hsx : (st (j * 4 + 2)).set (j * 4 + 2) (.leaf (.int .i64 ((q0 : Int) + 1 + 1))) = st (j * 4 + 3) := by rw [show ((q0 : Int) + 1 + 1) = (q2 : Int) from by have := HC0.out; have := HC1.out; omega]; exact HS2.out
        have hsto := HO1'.out.store (v := .int .i64 ((q0 : Int) + 1 + 1)) (by rw [HOB.out]; exact HNOT.out) HA2.out rfl
        rw [hsx] at hsto
        have HO2' := Lib.hid hsto.1; have HN2' := Lib.hid (HN1'.out.trans (hsto.2.1.mono (by intro i hi; rw [Rw.blocks]; exact List.mem_append.2 (Or.inl hi)))); clear hsto r2 hsx
        have r3 := HO2'.out; rw [Rw.OwnR] at r3
        have d3 := r3.1.1.cellAt (j * 4 + 3) (by omega); rw [List.getElem?_map, HA3.out] at d3; replace d3 := d3.trans (show _ = some a3.cell from rfl)
        have HI3 := Lib.hid (ownRL_iff.1 r3.2 _ (List.mem_of_getElem? HA3.out)); clear r3
        go_wp2_with fail
        refine (mk_AttrS a3 s3 lo hi q3 _ (by have := HC0.out; have := HC1.out; have := HC2.out; omega) _ HI3.out (inner_nodup HD.out HF3.out) (by have := HC3.out; omega)).mono ?_
        rintro e w3 ⟨rfl, hoi, hon⟩
        rw [show q3 + a3.count = q4 from HC3.out.symm]
        have HN3' := Lib.hid (HN2'.out.trans (hon.mono (inner_mem HF3.out)))
        have hin := HO2'.out.inner (by rw [blocks_same (HOB.out _)]; exact HD.out) HA3.out hon hoi (mark_cell (is_sl_AttrS s3) _) (mark_blocks _ _)
        rw [HS3.out] at hin
        have HO3' := Lib.hid hin.1; clear hin hoi hon d3
        go_wp2_with fail
        go_roundw
        case rel => exact ⟨j + 1, by omega, by go_num, by first | (rw [HE.out]; done) | (rw [HE.out]; have := HC0.out; have := HC1.out; have := HC2.out; have := HC3.out; go_num), by rw [Nat.add_mul, Nat.one_mul]; exact HO3'.out, HN3'.out⟩
        case measure => simp [intOf]; omega
      · have hjn : j = n := by omega
        subst hjn
        have HF := Lib.hid (show cn (j * 4) = k0 + countL cs by rw [HCN.out]; show k0 + countL (cs.take (j * 4)) = _; rw [List.take_of_length_le (by have := HLEN.out; omega)])
        have HG := Lib.hid (show st (j * 4) = markL cs k0 by rw [HST.out]; exact markTo_full cs k0 (by have := HLEN.out; omega))
        go_wp2_with fail
        go_ret
        exact ⟨by rw [HF.out]; rfl, by rw [← HG.out]; exact HO.out, HN.out⟩

set_option maxRecDepth 100000 in
set_option maxHeartbeats 4000000 in
theorem hd_NodeS (x : Rw) (hx : IsNodeS x) (hi k0 : Nat) (q : Int) (hq : q = k0) (w : World) (hr : (x.mark k0).ReadR hi w) (hh : hi ≤ w.heap.size) (hk : k0 + x.count ≤ 4611686018427387904) :
    Calls Tryz.prog 112 #[x.cell, .int .i64 q] w fun e w' => e = .returned (.int .i64 ((k0 + x.count : Nat) : Int)) ∧ Grw w w' := by
  have mixed : Tryz.prog.follows .mixedOrders = true := by kernel_rfl
  subst hq
  obtain ⟨v, n, e0, cs, rfl, hrow⟩ := hx
  rw [Rw.cell_sl]; rw [Rw.count] at hk ⊢; rw [mark_cell_sl, Rw.ReadR] at hr
  obtain ⟨⟨a, cap, rfl, hlen, hc1, hc2, _, hcells⟩, hrin⟩ := hr
  rw [markL_len] at hlen
  have HROW := Lib.hid hrow; have HLEN := Lib.hid hlen; have HK := Lib.hid hk; have HC := Lib.hid hcells; have HIN := Lib.hid hrin; clear hrow hlen hk hcells hrin
  obtain ⟨cn, hcn⟩ : ∃ f : Nat → Nat, f = fun m => k0 + countL (cs.take m) := ⟨_, rfl⟩
  have HCN := Lib.hid hcn; clear hcn
  have HTOP := Lib.hid (fun m => show cn m ≤ 4611686018427387904 by rw [HCN.out]; have := countL_take_le cs m; have := HK.out; show k0 + countL (cs.take m) ≤ _; omega)
  go_enter Tryz.func112, Tryz.ntmps112
  go_wp2
  go_loopw [1, 5] (fun m i wr => ∃ (j : Nat), j ≤ n ∧ i = .int .i64 j ∧ m = .int .i64 (cn (j * 4) : Int) ∧ Grw w wr)
    (fun _ i _ => n - (intOf i).toNat)
  case atStart => exact ⟨0, Nat.zero_le _, rfl, by rw [HCN.out]; simp [countL], Grw.refl _⟩
  case round =>
    obtain ⟨j, hj, rfl, rfl, hs⟩ := hrel
    have HS := Lib.hid hs
    clear hs
    by_cases hlt : (j : Int) < (n : Int)
    · rcases HC.out with h0 | ⟨g, off, rfl, hg, hcells⟩
      · omega
      · have HCL := Lib.hid hcells; clear hcells
        obtain ⟨a0, a1, a2, a3, f0, f1, f2, f3, s3⟩ := HROW.out j (by omega)
        have hc0 : cn (j * 4 + 1) = cn (j * 4) + 1 := by rw [HCN.out]; have := countL_more f0; rw [Rw.count] at this; show k0 + countL (cs.take (j * 4 + 1)) = k0 + countL (cs.take (j * 4)) + _; omega
        have hm0 : (markL cs k0)[j * 4]? = some (.leaf (.string (mt (cn (j * 4))))) := by rw [HCN.out]; have := markL_at f0 k0; rw [mark_leaf] at this; exact this
        have hl0 : w.cell? ⟨g, off + j * 4, none⟩ = some (.string (mt (cn (j * 4)))) := HCL.out (j * 4) _ (by rw [List.getElem?_map, hm0]; rfl)
        have HC0 := Lib.hid hc0; have HL0 := Lib.hid hl0; clear hc0 hl0 f0 hm0
        have hc1 : cn (j * 4 + 2) = cn (j * 4 + 1) + 1 := by rw [HCN.out]; have := countL_more f1; rw [Rw.count] at this; show k0 + countL (cs.take (j * 4 + 1 + 1)) = k0 + countL (cs.take (j * 4 + 1)) + _; omega
        have hm1 : (markL cs k0)[j * 4 + 1]? = some (.leaf (.string (mt (cn (j * 4 + 1))))) := by rw [HCN.out]; have := markL_at f1 k0; rw [mark_leaf] at this; exact this
        have hl1 : w.cell? ⟨g, off + j * 4 + 1, none⟩ = some (.string (mt (cn (j * 4 + 1)))) := by rw [Nat.add_assoc]; exact HCL.out (j * 4 + 1) _ (by rw [List.getElem?_map, hm1]; rfl)
        have HC1 := Lib.hid hc1; have HL1 := Lib.hid hl1; clear hc1 hl1 f1 hm1
        have hc2 : cn (j * 4 + 3) = cn (j * 4 + 2) + 1 := by rw [HCN.out]; have := countL_more f2; rw [Rw.count] at this; show k0 + countL (cs.take (j * 4 + 2 + 1)) = k0 + countL (cs.take (j * 4 + 2)) + _; omega
        have hm2 : (markL cs k0)[j * 4 + 2]? = some (.leaf (.int .i64 (cn (j * 4 + 2) : Int))) := by rw [HCN.out]; have := markL_at f2 k0; rw [mark_leaf] at this; exact this
        have hl2 : w.cell? ⟨g, off + j * 4 + 2, none⟩ = some (.int .i64 (cn (j * 4 + 2) : Int)) := by rw [Nat.add_assoc]; exact HCL.out (j * 4 + 2) _ (by rw [List.getElem?_map, hm2]; rfl)
        have HC2 := Lib.hid hc2; have HL2 := Lib.hid hl2; clear hc2 hl2 f2 hm2
        have hc3 : cn (j * 4 + 4) = cn (j * 4 + 3) + a3.count := by rw [HCN.out]; have := countL_more f3; skip; show k0 + countL (cs.take (j * 4 + 3 + 1)) = k0 + countL (cs.take (j * 4 + 3)) + _; omega
        have hm3 : (markL cs k0)[j * 4 + 3]? = some (a3.mark (cn (j * 4 + 3))) := by rw [HCN.out]; have := markL_at f3 k0;  exact this
        have hl3 : w.cell? ⟨g, off + j * 4 + 3, none⟩ = some ((a3.mark (cn (j * 4 + 3))).cell) := by rw [Nat.add_assoc]; exact HCL.out (j * 4 + 3) _ (by rw [List.getElem?_map, hm3]; rfl)
        have hrd3 := readRL_iff.1 HIN.out _ (List.mem_of_getElem? hm3); rw [mark_cell (is_sl_AttrS s3)] at hl3
        have HC3 := Lib.hid hc3; have HL3 := Lib.hid hl3; clear hc3 hl3 f3 hm3
        obtain ⟨q0, hq0⟩ : ∃ q, cn (j * 4) = q := ⟨_, rfl⟩
        obtain ⟨q1, hq1⟩ : ∃ q, cn (j * 4 + 1) = q := ⟨_, rfl⟩
        obtain ⟨q2, hq2⟩ : ∃ q, cn (j * 4 + 2) = q := ⟨_, rfl⟩
        obtain ⟨q3, hq3⟩ : ∃ q, cn (j * 4 + 3) = q := ⟨_, rfl⟩
        obtain ⟨q4, hq4⟩ : ∃ q, cn (j * 4 + 4) = q := ⟨_, rfl⟩
        rw [hq0, hq1] at HC0
        rw [hq0] at HL0
        rw [hq1, hq2] at HC1
        rw [hq1] at HL1
        rw [hq2, hq3] at HC2
        rw [hq2] at HL2
        rw [hq3, hq4] at HC3
        rw [hq3] at hrd3; have HRD3 := Lib.hid hrd3; clear hrd3
        have ht0 : q0 ≤ 4611686018427387904 := by rw [← hq0]; exact HTOP.out _
        have ht1 : q1 ≤ 4611686018427387904 := by rw [← hq1]; exact HTOP.out _
        have ht2 : q2 ≤ 4611686018427387904 := by rw [← hq2]; exact HTOP.out _
        have ht3 : q3 ≤ 4611686018427387904 := by rw [← hq3]; exact HTOP.out _
        have ht4 : q4 ≤ 4611686018427387904 := by rw [← hq4]; exact HTOP.out _
        rw [hq0]
        have HE := Lib.hid (show cn ((j + 1) * 4) = q4 by rw [Nat.add_mul, Nat.one_mul]; exact hq4)
        clear hq0 hq1 hq2 hq3 hq4
        have e0 : ((mt q0).toList == (mt q0).toList) = true := beqL_yes rfl
        have c0 : ∀ m os, (Sort.grow (wr.drewN m) os).cell? ⟨g, off + j * 4, none⟩ = some (.string (mt q0)) := cell_grown (show g < wr.heap.size by have := HS.out.below.size; omega) (by rw [HS.out.below.cell (show g < _ by omega)]; exact HL0.out)
        have HM0 := Lib.hid (fun (q : Int) (hq : q = q0) W => mark_anyI q0 q hq ht0 W)
        obtain ⟨m0, hm0⟩ : ∃ m, mt q0 = m := ⟨_, rfl⟩
        rw [hm0] at c0 HM0 e0; clear hm0
        go_wp2_with fail
        refine wp_region_quiet_grown mixed (by kernel_rfl) ?_
        repeat (go_big_quiet_step (first | (go_at_call 115; refine Calls.grown_of (HM0.out _ ?_ _); have := HC0.out; have := HC1.out; have := HC2.out; have := HC3.out; omega)))
        refine wpQuiet_nil ?_; intro _ hw'; obtain ⟨⟨nq, osq⟩, hw''⟩ := hw'; subst hw''
        have HG0 := Lib.hid (HS.out.trans ⟨nq, osq, rfl⟩)
        obtain ⟨w0, hw0⟩ : ∃ x, Sort.grow (wr.drewN nq) osq = x := ⟨_, rfl⟩
        rw [hw0] at HG0 ⊢; clear hw0 c0
        have e1 : ((mt q1).toList == (mt q1).toList) = true := beqL_yes rfl
        have c1 : ∀ m os, (Sort.grow (w0.drewN m) os).cell? ⟨g, off + j * 4 + 1, none⟩ = some (.string (mt q1)) := cell_grown (show g < w0.heap.size by have := HG0.out.below.size; omega) (by rw [HG0.out.below.cell (show g < _ by omega)]; exact HL1.out)
        have HM1 := Lib.hid (fun (q : Int) (hq : q = q1) W => mark_anyI q1 q hq ht1 W)
        obtain ⟨m1, hm1⟩ : ∃ m, mt q1 = m := ⟨_, rfl⟩
        rw [hm1] at c1 HM1 e1; clear hm1
        go_wp2_with fail
        refine wp_region_quiet_grown mixed (by kernel_rfl) ?_
        repeat (go_big_quiet_step (first | (go_at_call 115; refine Calls.grown_of (HM1.out _ ?_ _); have := HC0.out; have := HC1.out; have := HC2.out; have := HC3.out; omega)))
        refine wpQuiet_nil ?_; intro _ hw'; obtain ⟨⟨nq, osq⟩, hw''⟩ := hw'; subst hw''
        have HG1 := Lib.hid (HG0.out.trans ⟨nq, osq, rfl⟩)
        obtain ⟨w1, hw1⟩ : ∃ x, Sort.grow (w0.drewN nq) osq = x := ⟨_, rfl⟩
        rw [hw1] at HG1 ⊢; clear hw1 c1
        have c2 : w1.cell? ⟨g, off + j * 4 + 2, none⟩ = some (.int .i64 (q2 : Int)) := by rw [HG1.out.below.cell (show g < _ by omega)]; exact HL2.out
        have x2 : (q0 : Int) + 1 + 1 = (q2 : Int) := by have := HC0.out; have := HC1.out; omega
        have c3 : w1.cell? ⟨g, off + j * 4 + 3, none⟩ = some a3.cell := by rw [HG1.out.below.cell (show g < _ by omega)]; exact HL3.out
        go_wp2_with fail
        refine (hd_AttrS a3 s3 hi q3 _ (by have := HC0.out; have := HC1.out; have := HC2.out; omega) _ (HRD3.out.grw hh HG1.out) (by have := HG1.out.below.size; omega) (by have := HC3.out; omega)).mono ?_
        rintro e w3 ⟨rfl, hg3⟩
        rw [show q3 + a3.count = q4 from HC3.out.symm]
        have HG3 := Lib.hid (HG1.out.trans hg3); clear hg3 c3
        have n3 : ¬ ((q4 : Int) < 0) := by omega
        go_wp2_with fail
        go_roundw
        case rel => exact ⟨j + 1, by omega, by go_num, by first | (rw [HE.out]; done) | (rw [HE.out]; have := HC0.out; have := HC1.out; have := HC2.out; have := HC3.out; go_num), HG3.out⟩
        case measure => simp [intOf]; omega
    · have hjn : j = n := by omega
      subst hjn
      have HF := Lib.hid (show cn (j * 4) = k0 + countL cs by rw [HCN.out]; show k0 + countL (cs.take (j * 4)) = _; rw [List.take_of_length_le (by have := HLEN.out; omega)])
      go_wp2_with fail
      go_ret
      exact ⟨by rw [HF.out]; rfl, HS.out⟩

set_option maxRecDepth 100000 in
set_option maxHeartbeats 4000000 in
theorem eq_NodeS (x y : Rw) (hx : IsNodeS x) (hy : IsNodeS y) (hd : x.data = y.data) (w : World) (rx : x.ReadR w.heap.size w) (ry : y.ReadR w.heap.size w) :
    Calls Tryz.prog 106 #[x.cell, y.cell] w fun e w' => e = .returned (.bool true) ∧ Grw w w' := by
  have mixed : Tryz.prog.follows .mixedOrders = true := by kernel_rfl
  obtain ⟨v, n, e0, cs, rfl, hrow⟩ := hx
  obtain ⟨v', n', e0', cs', rfl, hrow'⟩ := hy
  rw [Rw.data, Rw.data] at hd
  have hdd := (Dt.sl.inj hd).2; clear hd
  rw [Rw.ReadR] at rx ry
  rw [Rw.cell_sl, Rw.cell_sl]
  obtain ⟨⟨a, cap, rfl, hlen, hc1, hc2, _, hcells⟩, hin⟩ := rx
  obtain ⟨⟨a', cap', rfl, hlen', hc1', hc2', _, hcells'⟩, hin'⟩ := ry
  have hnn : n = n' := by have := congrArg List.length hdd; rw [dataL_len, dataL_len] at this; omega
  subst hnn
  have HROW := Lib.hid hrow; have HROW' := Lib.hid hrow'; have HD := Lib.hid hdd; have HC := Lib.hid hcells; have HC' := Lib.hid hcells'; have HIN := Lib.hid hin; have HIN' := Lib.hid hin'
  clear hrow hrow' hdd hcells hcells' hin hin' hlen hlen'
  go_enter Tryz.func106, Tryz.ntmps106
  go_wp2
  go_loopw [5] (fun i wr => ∃ (j : Nat), j ≤ n ∧ i = .int .i64 j ∧ Grw w wr)
    (fun i _ => n - (intOf i).toNat)
  case atStart => exact ⟨0, Nat.zero_le _, rfl, Grw.refl _⟩
  case round =>
    obtain ⟨j, hj, rfl, hs⟩ := hrel
    have HS := Lib.hid hs
    clear hs
    by_cases hlt : (j : Int) < (n : Int)
    · rcases HC.out with h0 | ⟨g, off, rfl, hg, hcells⟩
      · omega
      · rcases HC'.out with h0 | ⟨g', off', rfl, hg', hcells'⟩
        · omega
        · have HCL := Lib.hid hcells; have HCL' := Lib.hid hcells'; clear hcells hcells'
          obtain ⟨a0, a1, a2, a3, f0, f1, f2, f3, s3⟩ := HROW.out j (by omega)
          obtain ⟨b0, b1, b2, b3, f0', f1', f2', f3', s3'⟩ := HROW'.out j (by omega)
          have hd0 := data_same HD.out f0 f0'
          have hv0 := leaf_same hd0; obtain rfl : a0 = b0 := by cases hv0; rfl
          clear hd0 hv0
          have c0 : ∀ m os, (Sort.grow (wr.drewN m) os).cell? ⟨g, off + j * 4, none⟩ = some (.string a0) := cell_grown (show g < wr.heap.size by have := HS.out.below.size; omega) (by rw [HS.out.below.cell (show g < _ by omega)]; exact HCL.out (j * 4) _ (by rw [List.getElem?_map, f0]; rfl))
          have c0' : ∀ m os, (Sort.grow (wr.drewN m) os).cell? ⟨g', off' + j * 4, none⟩ = some (.string a0) := cell_grown (show g' < wr.heap.size by have := HS.out.below.size; omega) (by rw [HS.out.below.cell (show g' < _ by omega)]; exact HCL'.out (j * 4) _ (by rw [List.getElem?_map, f0']; rfl))
          have hd1 := data_same HD.out f1 f1'
          have hv1 := leaf_same hd1; obtain rfl : a1 = b1 := by cases hv1; rfl
          clear hd1 hv1
          have c1 : ∀ m os, (Sort.grow (wr.drewN m) os).cell? ⟨g, off + j * 4 + 1, none⟩ = some (.string a1) := cell_grown (show g < wr.heap.size by have := HS.out.below.size; omega) (by rw [HS.out.below.cell (show g < _ by omega)]; rw [Nat.add_assoc]; exact HCL.out (j * 4 + 1) _ (by rw [List.getElem?_map, f1]; rfl))
          have c1' : ∀ m os, (Sort.grow (wr.drewN m) os).cell? ⟨g', off' + j * 4 + 1, none⟩ = some (.string a1) := cell_grown (show g' < wr.heap.size by have := HS.out.below.size; omega) (by rw [HS.out.below.cell (show g' < _ by omega)]; rw [Nat.add_assoc]; exact HCL'.out (j * 4 + 1) _ (by rw [List.getElem?_map, f1']; rfl))
          have hd2 := data_same HD.out f2 f2'
          have hv2 := leaf_same hd2; obtain rfl : a2 = b2 := by cases hv2; rfl
          clear hd2 hv2
          have c2 : ∀ m os, (Sort.grow (wr.drewN m) os).cell? ⟨g, off + j * 4 + 2, none⟩ = some (.int .i64 a2) := cell_grown (show g < wr.heap.size by have := HS.out.below.size; omega) (by rw [HS.out.below.cell (show g < _ by omega)]; rw [Nat.add_assoc]; exact HCL.out (j * 4 + 2) _ (by rw [List.getElem?_map, f2]; rfl))
          have c2' : ∀ m os, (Sort.grow (wr.drewN m) os).cell? ⟨g', off' + j * 4 + 2, none⟩ = some (.int .i64 a2) := cell_grown (show g' < wr.heap.size by have := HS.out.below.size; omega) (by rw [HS.out.below.cell (show g' < _ by omega)]; rw [Nat.add_assoc]; exact HCL'.out (j * 4 + 2) _ (by rw [List.getElem?_map, f2']; rfl))
          have hd3 := data_same HD.out f3 f3'
          have c3 : ∀ m os, (Sort.grow (wr.drewN m) os).cell? ⟨g, off + j * 4 + 3, none⟩ = some (a3.cell) := cell_grown (show g < wr.heap.size by have := HS.out.below.size; omega) (by rw [HS.out.below.cell (show g < _ by omega)]; rw [Nat.add_assoc]; exact HCL.out (j * 4 + 3) _ (by rw [List.getElem?_map, f3]; rfl))
          have c3' : ∀ m os, (Sort.grow (wr.drewN m) os).cell? ⟨g', off' + j * 4 + 3, none⟩ = some (b3.cell) := cell_grown (show g' < wr.heap.size by have := HS.out.below.size; omega) (by rw [HS.out.below.cell (show g' < _ by omega)]; rw [Nat.add_assoc]; exact HCL'.out (j * 4 + 3) _ (by rw [List.getElem?_map, f3']; rfl))
          have HE := Lib.hid (fun (n : Nat) (os : Array Obj) => (show Grw w wr from HS.out) |> fun HG0 => eq_Node a0 a1 a2 a3 b3 (Sort.grow (wr.drewN n) os) s3 s3' hd3 ((HG0.trans ⟨n, os, rfl⟩).rd (readRL_iff.1 HIN.out _ (List.mem_of_getElem? f3))) ((HG0.trans ⟨n, os, rfl⟩).rd (readRL_iff.1 HIN'.out _ (List.mem_of_getElem? f3'))))
          clear f0 f0' f1 f1' f2 f2' f3 f3'
          go_wp2_with fail
          refine wp_region_quiet_grown mixed (by kernel_rfl) ?_
          repeat (go_big_quiet_step (first | (go_at_call 150; refine Calls.grown_of (HE.out _ _))))
          refine wpQuiet_nil ?_; intro _ hw'; obtain ⟨⟨nq, osq⟩, hw''⟩ := hw'; subst hw''
          have HG1 := Lib.hid (HS.out.trans ⟨nq, osq, rfl⟩)
          obtain ⟨w1, hw1⟩ : ∃ x, Sort.grow (wr.drewN nq) osq = x := ⟨_, rfl⟩
          rw [hw1] at HG1 ⊢; clear hw1 c0 c0' c1 c1' c2 c2' c3 c3'
          go_wp2_with fail
          go_roundw
          case rel => exact ⟨j + 1, by omega, by go_num, HG1.out⟩
          case measure => simp [intOf]; omega
    · have hkn : decide ((j : Int) < (n : Int)) = false := decide_eq_false hlt
      go_wp2_with fail
      go_ret
      exact ⟨rfl, HS.out⟩
end Go.Proofs.YtgcdfkpidcdicaaGreatDoor
