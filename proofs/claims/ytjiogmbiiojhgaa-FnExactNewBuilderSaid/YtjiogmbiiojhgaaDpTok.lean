/- Helper contracts over the functions with which the laws copy, compare, measure and mark slices, by program (deep.py). Asked: what lies in memory is as named. -/
import Derived.Test.YtjiogmbiiojhgaaDpAttr
import Derived.Shelf.SlSortCmp.QuietGrown
namespace Go.Proofs.Ytjiogmbiiojhgaa
open Go.ChangeShapes Go.WideShapes Go.ChangeAt Go.RowKit

/-- What a slice of this type holds. -/
def IsTokenS (x : Rw) : Prop := ∃ v n e cs, x = .sl v n 4 e cs ∧ ∀ j, j < n → ∃ (a0 : Int) (a1 : ByteArray) (a2 : Rw) (a3 : ByteArray), cs[j * 4]? = some (.leaf (.int .i64 a0)) ∧ cs[j * 4 + 1]? = some (.leaf (.string a1)) ∧ cs[j * 4 + 2]? = some a2 ∧ IsAttrS a2 ∧ cs[j * 4 + 3]? = some (.leaf (.string a3))
theorem is_sl_TokenS {x : Rw} (h : IsTokenS x) : ∃ v n k e cs, x = .sl v n k e cs := by
  obtain ⟨v, n, e, cs, rfl, _⟩ := h
  exact ⟨v, n, _, e, cs, rfl⟩

set_option maxHeartbeats 2000000 in
theorem eq_Token (a0 : Int) (a1 : ByteArray) (a2 b2 : Rw) (a3 : ByteArray) (w : World) (hx2 : IsAttrS a2) (hy2 : IsAttrS b2) (hd2 : a2.data = b2.data) (rx2 : a2.ReadR w.heap.size w) (ry2 : b2.ReadR w.heap.size w) :
    Calls Try.prog 41 #[.agg #[.int .i64 a0, .string a1, a2.cell, .string a3], .agg #[.int .i64 a0, .string a1, b2.cell, .string a3]] w fun e w' => e = .returned (.bool true) ∧ Grw w w' := by
  have e1 : (a1.toList == a1.toList) = true := beqL_yes rfl
  have e3 : (a3.toList == a3.toList) = true := beqL_yes rfl
  go_enter Try.func41, Try.ntmps41
  go_wp2_with fail
  obtain ⟨w0, hw0⟩ : ∃ x, ((w.alloc (.cells #[.int .i64 a0, .string a1, a2.cell, .string a3] 30)).alloc (.cells #[.int .i64 a0, .string a1, b2.cell, .string a3] 30)) = x := ⟨_, rfl⟩
  rw [hw0]
  have HG0 := Lib.hid (show Grw w w0 by rw [← hw0]; exact ((Grw.refl w).alloc _).alloc _)
  have qa3 : w0.cell? ⟨w.heap.size, 3, none⟩ = some (.string a3) := by rw [← hw0]; simp
  have qb3 : w0.cell? ⟨w.heap.size + 1, 3, none⟩ = some (.string a3) := by rw [← hw0]; simp
  clear hw0
  refine (eq_AttrS a2 b2 hx2 hy2 hd2 _ (rx2.up HG0.out) (ry2.up HG0.out)).mono ?_
  rintro e w1 ⟨rfl, hg1⟩
  replace qa3 := (hg1.below.cell (show (⟨w.heap.size, 3, none⟩ : Addr).block < _ from World.block_lt_of_cell? _ _ qa3)).trans qa3
  replace qb3 := (hg1.below.cell (show (⟨w.heap.size + 1, 3, none⟩ : Addr).block < _ from World.block_lt_of_cell? _ _ qb3)).trans qb3
  have HG1 := Lib.hid (HG0.out.trans hg1); clear hg1
  go_wp2_with fail
  go_ret
  exact ⟨rfl, HG1.out⟩

set_option maxRecDepth 100000 in
set_option maxHeartbeats 2000000 in
theorem mk_Token (a0 : Int) (a1 : ByteArray) (a2 : Rw) (a3 : ByteArray) (hx : IsAttrS a2) (lo hi k0 : Nat) (q : Int) (hq : q = k0) (w : World) (ho : a2.OwnR lo hi w) (hd : a2.blocks.Nodup) (hk : k0 + a2.count ≤ 4611686018427387904) :
    Calls Try.prog 42 #[.agg #[.int .i64 a0, .string a1, a2.cell, .string a3], .int .i64 q] w fun e w' => e = .returned (.int .i64 ((k0 + a2.count : Nat) : Int)) ∧ (a2.mark k0).OwnR lo hi w' ∧ OnlyB a2.blocks w w' := by
  subst hq
  have hg := (Grw.refl w).alloc (.cells #[.int .i64 a0, .string a1, a2.cell, .string a3] 30)
  have HO := Lib.hid (ho.later hg.below); have HG := Lib.hid hg; clear ho hg
  go_enter Try.func42, Try.ntmps42
  go_wp2_with fail
  refine (mk_AttrS a2 hx lo hi k0 _ rfl _ HO.out hd hk).mono ?_
  rintro e w1 ⟨rfl, hoi, hon⟩
  have HOI := Lib.hid hoi; have HON := Lib.hid ((OnlyB.of_below HG.out.below _).trans hon); clear hoi hon
  obtain ⟨r, hr⟩ : ∃ r, k0 + a2.count = r := ⟨_, rfl⟩
  rw [hr]
  have HRR := Lib.hid hr; clear hr
  go_wp2_with fail
  go_ret
  exact ⟨by rw [HRR.out]; rfl, HOI.out, HON.out⟩

set_option maxRecDepth 100000 in
set_option maxHeartbeats 4000000 in
theorem mk_TokenS (x : Rw) (hx : IsTokenS x) (lo hi k0 : Nat) (q : Int) (hq : q = k0) (w : World) (ho : x.OwnR lo hi w) (hd : x.blocks.Nodup) (hk : k0 + x.count ≤ 4611686018427387904) :
    Calls Try.prog 46 #[x.cell, .int .i64 q] w fun e w' => e = .returned (.int .i64 ((k0 + x.count : Nat) : Int)) ∧ (x.mark k0).OwnR lo hi w' ∧ OnlyB x.blocks w w' := by
  subst hq
  obtain ⟨v, n, e0, cs, rfl, hrow⟩ := hx
  rw [Rw.cell_sl]; rw [Rw.count] at hk ⊢; rw [mark_cell_sl]
  have ho2 := ho; rw [Rw.OwnR] at ho2
  have hlen : cs.length = n * 4 := by have := ho2.1.1.1; rwa [List.length_map] at this
  have hrw := ho2.1.1.2; clear ho2
  have HROW := Lib.hid hrow; have HD := Lib.hid hd; have HO0 := Lib.hid ho; have HLEN := Lib.hid hlen; have HK := Lib.hid hk; clear hrow hd ho hlen hk
  rcases hrw with ⟨rfl, h0⟩ | ⟨g, cap, cur, rfl, hg, _, hcap, hm, _⟩
  · subst h0
    have hz : cs = [] := List.eq_nil_of_length_eq_zero (by have := HLEN.out; omega)
    subst hz
    go_enter Try.func46, Try.ntmps46
    go_wp2
    refine wp_loop_rounds 1 ?_
    rw [rounds_succ]
    go_wp2
    go_ret
    exact ⟨by simp [countL], by rw [markL]; exact HO0.out, OnlyB.refl _ _⟩
  · unfold maxLen at hm
    obtain ⟨st, hst⟩ : ∃ f : Nat → List Rw, f = markTo cs k0 := ⟨_, rfl⟩
    obtain ⟨cn, hcn⟩ : ∃ f : Nat → Nat, f = fun m => k0 + countL (cs.take m) := ⟨_, rfl⟩
    have HST := Lib.hid hst; have HCN := Lib.hid hcn; clear hst hcn
    have HTOP := Lib.hid (fun m => show cn m ≤ 4611686018427387904 by rw [HCN.out]; have := countL_take_le cs m; have := HK.out; show k0 + countL (cs.take m) ≤ _; omega)
    have HNOT := Lib.hid (show g ∉ blocksL cs by have := HD.out; rw [Rw.blocks] at this; exact (List.nodup_cons.1 (show (g :: blocksL cs).Nodup from this)).1)
    have HOB := Lib.hid (show ∀ m, blocksL (st m) = blocksL cs from fun m => by rw [HST.out]; exact markTo_blocks cs k0 m)
    go_enter Try.func46, Try.ntmps46
    go_wp2
    go_loopw [1, 5] (fun m i wr => ∃ (j : Nat), j ≤ n ∧ i = .int .i64 j ∧ m = .int .i64 (cn (j * 4) : Int) ∧ (Rw.sl (.slice (some ⟨g, 0, none⟩) n cap) n 4 e0 (st (j * 4))).OwnR lo hi wr ∧ OnlyB (Rw.sl (.slice (some ⟨g, 0, none⟩) n cap) n 4 e0 cs).blocks w wr)
      (fun _ i _ => n - (intOf i).toNat)
    case atStart => exact ⟨0, Nat.zero_le _, rfl, by rw [HCN.out]; simp [countL], by rw [HST.out, Nat.zero_mul, markTo_zero]; exact HO0.out, OnlyB.refl _ _⟩
    case round =>
      obtain ⟨j, hj, rfl, rfl, hown, hon⟩ := hrel
      have HO := Lib.hid hown; have HN := Lib.hid hon
      clear hown hon
      by_cases hlt : (j : Int) < (n : Int)
      · obtain ⟨a0, a1, a2, a3, f0, f1, f2, s2, f3⟩ := HROW.out j (by omega)
        have hc0 : cn (j * 4 + 1) = cn (j * 4) + 1 := by rw [HCN.out]; have := countL_more f0; rw [Rw.count] at this; show k0 + countL (cs.take (j * 4 + 1)) = k0 + countL (cs.take (j * 4)) + _; omega
        have hs0 : (st (j * 4)).set (j * 4) (.leaf (.int .i64 (cn (j * 4) : Int))) = st (j * 4 + 1) := by rw [HST.out, HCN.out]; have := markTo_next f0 k0; rw [mark_leaf] at this; exact this
        have ha0 : (st (j * 4))[j * 4]? = some (.leaf (.int .i64 a0)) := by rw [HST.out]; exact markTo_at f0 k0
        have HC0 := Lib.hid hc0; have HS0 := Lib.hid hs0; have HA0 := Lib.hid ha0; clear hc0 hs0 ha0 f0
        have hc1 : cn (j * 4 + 2) = cn (j * 4 + 1) + 1 := by rw [HCN.out]; have := countL_more f1; rw [Rw.count] at this; show k0 + countL (cs.take (j * 4 + 1 + 1)) = k0 + countL (cs.take (j * 4 + 1)) + _; omega
        have hs1 : (st (j * 4 + 1)).set (j * 4 + 1) (.leaf (.string (mt (cn (j * 4 + 1))))) = st (j * 4 + 2) := by rw [HST.out, HCN.out]; have := markTo_next f1 k0; rw [mark_leaf] at this; exact this
        have ha1 : (st (j * 4 + 1))[j * 4 + 1]? = some (.leaf (.string a1)) := by rw [HST.out]; exact markTo_at f1 k0
        have HC1 := Lib.hid hc1; have HS1 := Lib.hid hs1; have HA1 := Lib.hid ha1; clear hc1 hs1 ha1 f1
        have hc2 : cn (j * 4 + 3) = cn (j * 4 + 2) + a2.count := by rw [HCN.out]; have := countL_more f2; skip; show k0 + countL (cs.take (j * 4 + 2 + 1)) = k0 + countL (cs.take (j * 4 + 2)) + _; omega
        have hs2 : (st (j * 4 + 2)).set (j * 4 + 2) (a2.mark (cn (j * 4 + 2))) = st (j * 4 + 3) := by rw [HST.out, HCN.out]; have := markTo_next f2 k0;  exact this
        have ha2 : (st (j * 4 + 2))[j * 4 + 2]? = some (a2) := by rw [HST.out]; exact markTo_at f2 k0
        have HF2 := Lib.hid f2; have HC2 := Lib.hid hc2; have HS2 := Lib.hid hs2; have HA2 := Lib.hid ha2; clear hc2 hs2 ha2 f2
        have hc3 : cn (j * 4 + 4) = cn (j * 4 + 3) + 1 := by rw [HCN.out]; have := countL_more f3; rw [Rw.count] at this; show k0 + countL (cs.take (j * 4 + 3 + 1)) = k0 + countL (cs.take (j * 4 + 3)) + _; omega
        have hs3 : (st (j * 4 + 3)).set (j * 4 + 3) (.leaf (.string (mt (cn (j * 4 + 3))))) = st (j * 4 + 4) := by rw [HST.out, HCN.out]; have := markTo_next f3 k0; rw [mark_leaf] at this; exact this
        have ha3 : (st (j * 4 + 3))[j * 4 + 3]? = some (.leaf (.string a3)) := by rw [HST.out]; exact markTo_at f3 k0
        have HC3 := Lib.hid hc3; have HS3 := Lib.hid hs3; have HA3 := Lib.hid ha3; clear hc3 hs3 ha3 f3
        obtain ⟨q0, hq0⟩ : ∃ q, cn (j * 4) = q := ⟨_, rfl⟩
        obtain ⟨q1, hq1⟩ : ∃ q, cn (j * 4 + 1) = q := ⟨_, rfl⟩
        obtain ⟨q2, hq2⟩ : ∃ q, cn (j * 4 + 2) = q := ⟨_, rfl⟩
        obtain ⟨q3, hq3⟩ : ∃ q, cn (j * 4 + 3) = q := ⟨_, rfl⟩
        obtain ⟨q4, hq4⟩ : ∃ q, cn (j * 4 + 4) = q := ⟨_, rfl⟩
        rw [hq0, hq1] at HC0
        rw [hq0] at HS0
        rw [hq1, hq2] at HC1
        rw [hq1] at HS1
        rw [hq2, hq3] at HC2
        rw [hq2] at HS2
        rw [hq3, hq4] at HC3
        rw [hq3] at HS3
        have ht0 : q0 ≤ 4611686018427387904 := by rw [← hq0]; exact HTOP.out _
        have ht1 : q1 ≤ 4611686018427387904 := by rw [← hq1]; exact HTOP.out _
        have ht2 : q2 ≤ 4611686018427387904 := by rw [← hq2]; exact HTOP.out _
        have ht3 : q3 ≤ 4611686018427387904 := by rw [← hq3]; exact HTOP.out _
        have ht4 : q4 ≤ 4611686018427387904 := by rw [← hq4]; exact HTOP.out _
        rw [hq0]
        have HE := Lib.hid (show cn ((j + 1) * 4) = q4 by rw [Nat.add_mul, Nat.one_mul]; exact hq4)
        clear hq0 hq1 hq2 hq3 hq4
        have r0 := HO.out; rw [Rw.OwnR] at r0
        have d0 := r0.1.1.cellAt (j * 4) (by omega); rw [List.getElem?_map, HA0.out] at d0; replace d0 := d0.trans (show _ = some (Value.int .i64 a0) from rfl)
        have z0 := r0.1.1.frozenAt (j * 4)
        have hsx : (st (j * 4)).set (j * 4) (.leaf (.int .i64 ((q0 : Int)))) = st (j * 4 + 1) := by rw [show ((q0 : Int)) = (q0 : Int) from by omega]; exact HS0.out
        have hsto := HO.out.store (v := .int .i64 ((q0 : Int))) (by rw [HOB.out]; exact HNOT.out) HA0.out rfl
        rw [hsx] at hsto
        have HO0' := Lib.hid hsto.1; have HN0' := Lib.hid (HN.out.trans (hsto.2.1.mono (by intro i hi; rw [Rw.blocks]; exact List.mem_append.2 (Or.inl hi)))); clear hsto r0 hsx
        go_wp2_with fail
        refine (mark_anyI q1 _ (by have := HC0.out; omega) (by omega) _).mono ?_
        rintro e w1 ⟨rfl, hg1⟩
        have HO1a := Lib.hid (HO0'.out.later hg1.below)
        have HN1a := Lib.hid (HN0'.out.trans (OnlyB.of_below hg1.below _))
        have r1 := HO1a.out; rw [Rw.OwnR] at r1
        have d1 : w1.cell? ⟨g, j * 4 + 1, none⟩ = some (.string a1) := by rw [r1.1.1.cellAt (j * 4 + 1) (by omega), List.getElem?_map, HA1.out]; rfl
        have z1 : w1.frozen? ⟨g, j * 4 + 1, none⟩ = false := r1.1.1.frozenAt _
        have hsto := HO1a.out.store (v := .string (mt q1)) (by rw [HOB.out]; exact HNOT.out) HA1.out rfl
        rw [HS1.out] at hsto
        have HO1' := Lib.hid hsto.1; have HN1' := Lib.hid (HN1a.out.trans (hsto.2.1.mono (by intro i hi; rw [Rw.blocks]; exact List.mem_append.2 (Or.inl hi)))); clear hsto r1 hg1
        have r2 := HO1'.out; rw [Rw.OwnR] at r2
        have d2 := r2.1.1.cellAt (j * 4 + 2) (by omega); rw [List.getElem?_map, HA2.out] at d2; replace d2 := d2.trans (show _ = some a2.cell from rfl)
        have HI2 := Lib.hid (ownRL_iff.1 r2.2 _ (List.mem_of_getElem? HA2.out)); clear r2
        go_wp2_with fail
        refine (mk_AttrS a2 s2 lo hi q2 _ (by have := HC0.out; have := HC1.out; omega) _ HI2.out (inner_nodup HD.out HF2.out) (by have := HC2.out; omega)).mono ?_
        rintro e w2 ⟨rfl, hoi, hon⟩
        rw [show q2 + a2.count = q3 from HC2.out.symm]
        have HN2' := Lib.hid (HN1'.out.trans (hon.mono (inner_mem HF2.out)))
        have hin := HO1'.out.inner (by rw [blocks_same (HOB.out _)]; exact HD.out) HA2.out hon hoi (mark_cell (is_sl_AttrS s2) _) (mark_blocks _ _)
        rw [HS2.out] at hin
        have HO2' := Lib.hid hin.1; clear hin hoi hon d2
        go_wp2_with fail
        refine (mark_anyI q3 _ (by have := HC0.out; have := HC1.out; have := HC2.out; omega) (by omega) _).mono ?_
        rintro e w3 ⟨rfl, hg3⟩
        have HO3a := Lib.hid (HO2'.out.later hg3.below)
        have HN3a := Lib.hid (HN2'.out.trans (OnlyB.of_below hg3.below _))
        have r3 := HO3a.out; rw [Rw.OwnR] at r3
        have d3 : w3.cell? ⟨g, j * 4 + 3, none⟩ = some (.string a3) := by rw [r3.1.1.cellAt (j * 4 + 3) (by omega), List.getElem?_map, HA3.out]; rfl
        have z3 : w3.frozen? ⟨g, j * 4 + 3, none⟩ = false := r3.1.1.frozenAt _
        have hsto := HO3a.out.store (v := .string (mt q3)) (by rw [HOB.out]; exact HNOT.out) HA3.out rfl
        rw [HS3.out] at hsto
        have HO3' := Lib.hid hsto.1; have HN3' := Lib.hid (HN3a.out.trans (hsto.2.1.mono (by intro i hi; rw [Rw.blocks]; exact List.mem_append.2 (Or.inl hi)))); clear hsto r3 hg3
        go_wp2_with fail
        go_roundw
        case rel => exact ⟨j + 1, by omega, by go_num, by rw [HE.out]; have := HC0.out; have := HC1.out; have := HC2.out; have := HC3.out; go_num, by rw [Nat.add_mul, Nat.one_mul]; exact HO3'.out, HN3'.out⟩
        case measure => simp [intOf]; omega
      · have hjn : j = n := by omega
        subst hjn
        have HF := Lib.hid (show cn (j * 4) = k0 + countL cs by rw [HCN.out]; show k0 + countL (cs.take (j * 4)) = _; rw [List.take_of_length_le (by have := HLEN.out; omega)])
        have HG := Lib.hid (show st (j * 4) = markL cs k0 by rw [HST.out]; exact markTo_full cs k0 (by have := HLEN.out; omega))
        go_wp2_with fail
        go_ret
        exact ⟨by rw [HF.out]; rfl, by rw [← HG.out]; exact HO.out, HN.out⟩

set_option maxRecDepth 100000 in
set_option maxHeartbeats 4000000 in
theorem eq_TokenS (x y : Rw) (hx : IsTokenS x) (hy : IsTokenS y) (hd : x.data = y.data) (w : World) (rx : x.ReadR w.heap.size w) (ry : y.ReadR w.heap.size w) :
    Calls Try.prog 45 #[x.cell, y.cell] w fun e w' => e = .returned (.bool true) ∧ Grw w w' := by
  have mixed : Try.prog.follows .mixedOrders = true := by kernel_rfl
  obtain ⟨v, n, e0, cs, rfl, hrow⟩ := hx
  obtain ⟨v', n', e0', cs', rfl, hrow'⟩ := hy
  rw [Rw.data, Rw.data] at hd
  have hdd := (Dt.sl.inj hd).2; clear hd
  rw [Rw.ReadR] at rx ry
  rw [Rw.cell_sl, Rw.cell_sl]
  obtain ⟨⟨a, cap, rfl, hlen, hc1, hc2, _, hcells⟩, hin⟩ := rx
  obtain ⟨⟨a', cap', rfl, hlen', hc1', hc2', _, hcells'⟩, hin'⟩ := ry
  have hnn : n = n' := by have := congrArg List.length hdd; rw [dataL_len, dataL_len] at this; omega
  subst hnn
  have HROW := Lib.hid hrow; have HROW' := Lib.hid hrow'; have HD := Lib.hid hdd; have HC := Lib.hid hcells; have HC' := Lib.hid hcells'; have HIN := Lib.hid hin; have HIN' := Lib.hid hin'
  clear hrow hrow' hdd hcells hcells' hin hin' hlen hlen'
  go_enter Try.func45, Try.ntmps45
  go_wp2
  go_loopw [5] (fun i wr => ∃ (j : Nat), j ≤ n ∧ i = .int .i64 j ∧ Grw w wr)
    (fun i _ => n - (intOf i).toNat)
  case atStart => exact ⟨0, Nat.zero_le _, rfl, Grw.refl _⟩
  case round =>
    obtain ⟨j, hj, rfl, hs⟩ := hrel
    have HS := Lib.hid hs
    clear hs
    by_cases hlt : (j : Int) < (n : Int)
    · rcases HC.out with h0 | ⟨g, off, rfl, hg, hcells⟩
      · omega
      · rcases HC'.out with h0 | ⟨g', off', rfl, hg', hcells'⟩
        · omega
        · have HCL := Lib.hid hcells; have HCL' := Lib.hid hcells'; clear hcells hcells'
          obtain ⟨a0, a1, a2, a3, f0, f1, f2, s2, f3⟩ := HROW.out j (by omega)
          obtain ⟨b0, b1, b2, b3, f0', f1', f2', s2', f3'⟩ := HROW'.out j (by omega)
          have hd0 := data_same HD.out f0 f0'
          have hv0 := leaf_same hd0; obtain rfl : a0 = b0 := by cases hv0; rfl
          clear hd0 hv0
          have c0 : ∀ m os, (Sort.grow (wr.drewN m) os).cell? ⟨g, off + j * 4, none⟩ = some (.int .i64 a0) := cell_grown (show g < wr.heap.size by have := HS.out.below.size; omega) (by rw [HS.out.below.cell (show g < _ by omega)]; exact HCL.out (j * 4) _ (by rw [List.getElem?_map, f0]; rfl))
          have c0' : ∀ m os, (Sort.grow (wr.drewN m) os).cell? ⟨g', off' + j * 4, none⟩ = some (.int .i64 a0) := cell_grown (show g' < wr.heap.size by have := HS.out.below.size; omega) (by rw [HS.out.below.cell (show g' < _ by omega)]; exact HCL'.out (j * 4) _ (by rw [List.getElem?_map, f0']; rfl))
          have hd1 := data_same HD.out f1 f1'
          have hv1 := leaf_same hd1; obtain rfl : a1 = b1 := by cases hv1; rfl
          clear hd1 hv1
          have c1 : ∀ m os, (Sort.grow (wr.drewN m) os).cell? ⟨g, off + j * 4 + 1, none⟩ = some (.string a1) := cell_grown (show g < wr.heap.size by have := HS.out.below.size; omega) (by rw [HS.out.below.cell (show g < _ by omega)]; rw [Nat.add_assoc]; exact HCL.out (j * 4 + 1) _ (by rw [List.getElem?_map, f1]; rfl))
          have c1' : ∀ m os, (Sort.grow (wr.drewN m) os).cell? ⟨g', off' + j * 4 + 1, none⟩ = some (.string a1) := cell_grown (show g' < wr.heap.size by have := HS.out.below.size; omega) (by rw [HS.out.below.cell (show g' < _ by omega)]; rw [Nat.add_assoc]; exact HCL'.out (j * 4 + 1) _ (by rw [List.getElem?_map, f1']; rfl))
          have hd2 := data_same HD.out f2 f2'
          have c2 : ∀ m os, (Sort.grow (wr.drewN m) os).cell? ⟨g, off + j * 4 + 2, none⟩ = some (a2.cell) := cell_grown (show g < wr.heap.size by have := HS.out.below.size; omega) (by rw [HS.out.below.cell (show g < _ by omega)]; rw [Nat.add_assoc]; exact HCL.out (j * 4 + 2) _ (by rw [List.getElem?_map, f2]; rfl))
          have c2' : ∀ m os, (Sort.grow (wr.drewN m) os).cell? ⟨g', off' + j * 4 + 2, none⟩ = some (b2.cell) := cell_grown (show g' < wr.heap.size by have := HS.out.below.size; omega) (by rw [HS.out.below.cell (show g' < _ by omega)]; rw [Nat.add_assoc]; exact HCL'.out (j * 4 + 2) _ (by rw [List.getElem?_map, f2']; rfl))
          have hd3 := data_same HD.out f3 f3'
          have hv3 := leaf_same hd3; obtain rfl : a3 = b3 := by cases hv3; rfl
          clear hd3 hv3
          have c3 : ∀ m os, (Sort.grow (wr.drewN m) os).cell? ⟨g, off + j * 4 + 3, none⟩ = some (.string a3) := cell_grown (show g < wr.heap.size by have := HS.out.below.size; omega) (by rw [HS.out.below.cell (show g < _ by omega)]; rw [Nat.add_assoc]; exact HCL.out (j * 4 + 3) _ (by rw [List.getElem?_map, f3]; rfl))
          have c3' : ∀ m os, (Sort.grow (wr.drewN m) os).cell? ⟨g', off' + j * 4 + 3, none⟩ = some (.string a3) := cell_grown (show g' < wr.heap.size by have := HS.out.below.size; omega) (by rw [HS.out.below.cell (show g' < _ by omega)]; rw [Nat.add_assoc]; exact HCL'.out (j * 4 + 3) _ (by rw [List.getElem?_map, f3']; rfl))
          have HE := Lib.hid (fun (n : Nat) (os : Array Obj) => (show Grw w wr from HS.out) |> fun HG0 => eq_Token a0 a1 a2 b2 a3 (Sort.grow (wr.drewN n) os) s2 s2' hd2 ((HG0.trans ⟨n, os, rfl⟩).rd (readRL_iff.1 HIN.out _ (List.mem_of_getElem? f2))) ((HG0.trans ⟨n, os, rfl⟩).rd (readRL_iff.1 HIN'.out _ (List.mem_of_getElem? f2'))))
          clear f0 f0' f1 f1' f2 f2' f3 f3'
          go_wp2_with fail
          refine wp_region_quiet_grown mixed (by kernel_rfl) ?_
          repeat (go_big_quiet_step (first | (go_at_call 41; refine Calls.grown_of (HE.out _ _))))
          refine wpQuiet_nil ?_; intro _ hw'; obtain ⟨⟨nq, osq⟩, hw''⟩ := hw'; subst hw''
          have HG1 := Lib.hid (HS.out.trans ⟨nq, osq, rfl⟩)
          obtain ⟨w1, hw1⟩ : ∃ x, Sort.grow (wr.drewN nq) osq = x := ⟨_, rfl⟩
          rw [hw1] at HG1 ⊢; clear hw1 c0 c0' c1 c1' c2 c2' c3 c3'
          go_wp2_with fail
          go_roundw
          case rel => exact ⟨j + 1, by omega, by go_num, HG1.out⟩
          case measure => simp [intOf]; omega
    · have hkn : decide ((j : Int) < (n : Int)) = false := decide_eq_false hlt
      go_wp2_with fail
      go_ret
      exact ⟨rfl, HS.out⟩
end Go.Proofs.Ytjiogmbiiojhgaa
