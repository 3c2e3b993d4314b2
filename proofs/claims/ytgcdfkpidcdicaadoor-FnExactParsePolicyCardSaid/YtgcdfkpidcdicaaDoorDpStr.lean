/- Helper contracts over the functions with which the laws copy, compare, measure and mark slices, by program (deep.py). Asked: what lies in memory is as named. -/
import Derived.Test.YtgcdfkpidcdicaaDoorDpAttr
import Derived.Shelf.SlSortCmp.QuietGrown
namespace Go.Proofs.YtgcdfkpidcdicaaDoor
open Go.ChangeShapes Go.WideShapes Go.ChangeAt Go.RowKit

/-- What a slice of this type holds. -/
def IsStringS (x : Rw) : Prop := ∃ v n e cs, x = .sl v n 1 e cs ∧ ∀ j, j < n → ∃ (a0 : ByteArray), cs[j]? = some (.leaf (.string a0))
theorem is_sl_StringS {x : Rw} (h : IsStringS x) : ∃ v n k e cs, x = .sl v n k e cs := by
  obtain ⟨v, n, e, cs, rfl, _⟩ := h
  exact ⟨v, n, _, e, cs, rfl⟩

set_option maxRecDepth 100000 in
set_option maxHeartbeats 4000000 in
theorem mk_StringS (x : Rw) (hx : IsStringS x) (lo hi k0 : Nat) (q : Int) (hq : q = k0) (w : World) (ho : x.OwnR lo hi w) (hd : x.blocks.Nodup) (hk : k0 + x.count ≤ 4611686018427387904) :
    Calls Tryd.prog 48 #[x.cell, .int .i64 q] w fun e w' => e = .returned (.int .i64 ((k0 + x.count : Nat) : Int)) ∧ (x.mark k0).OwnR lo hi w' ∧ OnlyB x.blocks w w' := by
  subst hq
  obtain ⟨v, n, e0, cs, rfl, hrow⟩ := hx
  rw [Rw.cell_sl]; rw [Rw.count] at hk ⊢; rw [mark_cell_sl]
  have ho2 := ho; rw [Rw.OwnR] at ho2
  have hlen : cs.length = n := by have := ho2.1.1.1; rw [List.length_map] at this; omega
  have hrw := ho2.1.1.2; clear ho2
  have HROW := Lib.hid hrow; have HD := Lib.hid hd; have HO0 := Lib.hid ho; have HLEN := Lib.hid hlen; have HK := Lib.hid hk; clear hrow hd ho hlen hk
  rcases hrw with ⟨rfl, h0⟩ | ⟨g, cap, cur, rfl, hg, _, hcap, hm, _⟩
  · subst h0
    have hz : cs = [] := List.eq_nil_of_length_eq_zero (by have := HLEN.out; omega)
    subst hz
    go_enter Tryd.func48, Tryd.ntmps48
    go_wp2
    refine wp_loop_rounds 1 ?_
    rw [rounds_succ]
    go_wp2
    go_ret
    exact ⟨by simp [countL], by rw [markL]; exact HO0.out, OnlyB.refl _ _⟩
  · unfold maxLen at hm
    obtain ⟨st, hst⟩ : ∃ f : Nat → List Rw, f = markTo cs k0 := ⟨_, rfl⟩
    obtain ⟨cn, hcn⟩ : ∃ f : Nat → Nat, f = fun m => k0 + countL (cs.take m) := ⟨_, rfl⟩
    have HST := Lib.hid hst; have HCN := Lib.hid hcn; clear hst hcn
    have HTOP := Lib.hid (fun m => show cn m ≤ 4611686018427387904 by rw [HCN.out]; have := countL_take_le cs m; have := HK.out; show k0 + countL (cs.take m) ≤ _; omega)
    have HNOT := Lib.hid (show g ∉ blocksL cs by have := HD.out; rw [Rw.blocks] at this; exact (List.nodup_cons.1 (show (g :: blocksL cs).Nodup from this)).1)
    have HOB := Lib.hid (show ∀ m, blocksL (st m) = blocksL cs from fun m => by rw [HST.out]; exact markTo_blocks cs k0 m)
    go_enter Tryd.func48, Tryd.ntmps48
    go_wp2
    go_loopw [1, 5] (fun m i wr => ∃ (j : Nat), j ≤ n ∧ i = .int .i64 j ∧ m = .int .i64 (cn (j) : Int) ∧ (Rw.sl (.slice (some ⟨g, 0, none⟩) n cap) n 1 e0 (st (j))).OwnR lo hi wr ∧ OnlyB (Rw.sl (.slice (some ⟨g, 0, none⟩) n cap) n 1 e0 cs).blocks w wr)
      (fun _ i _ => n - (intOf i).toNat)
    case atStart => exact ⟨0, Nat.zero_le _, rfl, by rw [HCN.out]; simp [countL], by rw [HST.out, markTo_zero]; exact HO0.out, OnlyB.refl _ _⟩
    case round =>
      obtain ⟨j, hj, rfl, rfl, hown, hon⟩ := hrel
      have HO := Lib.hid hown; have HN := Lib.hid hon
      clear hown hon
      by_cases hlt : (j : Int) < (n : Int)
      · obtain ⟨a0, f0⟩ := HROW.out j (by omega)
        have hc0 : cn (j + 1) = cn (j) + 1 := by rw [HCN.out]; have := countL_more f0; rw [Rw.count] at this; show k0 + countL (cs.take (j + 1)) = k0 + countL (cs.take (j)) + _; omega
        have hs0 : (st (j)).set (j) (.leaf (.string (mt (cn (j))))) = st (j + 1) := by rw [HST.out, HCN.out]; have := markTo_next f0 k0; rw [mark_leaf] at this; exact this
        have ha0 : (st (j))[j]? = some (.leaf (.string a0)) := by rw [HST.out]; exact markTo_at f0 k0
        have HC0 := Lib.hid hc0; have HS0 := Lib.hid hs0; have HA0 := Lib.hid ha0; clear hc0 hs0 ha0 f0
        obtain ⟨q0, hq0⟩ : ∃ q, cn (j) = q := ⟨_, rfl⟩
        obtain ⟨q1, hq1⟩ : ∃ q, cn (j + 1) = q := ⟨_, rfl⟩
        rw [hq0, hq1] at HC0
        rw [hq0] at HS0
        have ht0 : q0 ≤ 4611686018427387904 := by rw [← hq0]; exact HTOP.out _
        have ht1 : q1 ≤ 4611686018427387904 := by rw [← hq1]; exact HTOP.out _
        rw [hq0]
        have HE := Lib.hid (show cn (j + 1) = q1 by exact hq1)
        clear hq0 hq1
        go_wp2_with fail
        refine (mark_anyI q0 _ rfl (by omega) _).mono ?_
        rintro e w0 ⟨rfl, hg0⟩
        have HO0a := Lib.hid (HO.out.later hg0.below)
        have HN0a := Lib.hid (HN.out.trans (OnlyB.of_below hg0.below _))
        have r0 := HO0a.out; rw [Rw.OwnR] at r0
        have d0 : w0.cell? ⟨g, j, none⟩ = some (.string a0) := by rw [r0.1.1.cellAt (j) (by omega), List.getElem?_map, HA0.out]; rfl
        have z0 : w0.frozen? ⟨g, j, none⟩ = false := r0.1.1.frozenAt _
        have hsto := HO0a.out.store (v := .string (mt q0)) (by rw [HOB.out]; exact HNOT.out) HA0.out rfl
        rw [HS0.out] at hsto
        have HO0' := Lib.hid hsto.1; have HN0' := Lib.hid (HN0a.out.trans (hsto.2.1.mono (by intro i hi; rw [Rw.blocks]; exact List.mem_append.2 (Or.inl hi)))); clear hsto r0 hg0
        go_wp2_with fail
        go_roundw
        case rel => exact ⟨j + 1, by omega, by go_num, by first | (rw [HE.out]; done) | (rw [HE.out]; have := HC0.out; go_num), by exact HO0'.out, HN0'.out⟩
        case measure => simp [intOf]; omega
      · have hjn : j = n := by omega
        subst hjn
        have HF := Lib.hid (show cn (j) = k0 + countL cs by rw [HCN.out]; show k0 + countL (cs.take (j)) = _; rw [List.take_of_length_le (by have := HLEN.out; omega)])
        have HG := Lib.hid (show st (j) = markL cs k0 by rw [HST.out]; exact markTo_full cs k0 (by have := HLEN.out; omega))
        go_wp2_with fail
        go_ret
        exact ⟨by rw [HF.out]; rfl, by rw [← HG.out]; exact HO.out, HN.out⟩

set_option maxRecDepth 100000 in
set_option maxHeartbeats 4000000 in
theorem hd_StringS (x : Rw) (hx : IsStringS x) (hi k0 : Nat) (q : Int) (hq : q = k0) (w : World) (hr : (x.mark k0).ReadR hi w) (hh : hi ≤ w.heap.size) (hk : k0 + x.count ≤ 4611686018427387904) :
    Calls Tryd.prog 49 #[x.cell, .int .i64 q] w fun e w' => e = .returned (.int .i64 ((k0 + x.count : Nat) : Int)) ∧ Grw w w' := by
  have mixed : Tryd.prog.follows .mixedOrders = true := by kernel_rfl
  subst hq
  obtain ⟨v, n, e0, cs, rfl, hrow⟩ := hx
  rw [Rw.cell_sl]; rw [Rw.count] at hk ⊢; rw [mark_cell_sl, Rw.ReadR] at hr
  obtain ⟨⟨a, cap, rfl, hlen, hc1, hc2, _, hcells⟩, hrin⟩ := hr
  rw [markL_len] at hlen
  have HROW := Lib.hid hrow; have HLEN := Lib.hid hlen; have HK := Lib.hid hk; have HC := Lib.hid hcells; have HIN := Lib.hid hrin; clear hrow hlen hk hcells hrin
  obtain ⟨cn, hcn⟩ : ∃ f : Nat → Nat, f = fun m => k0 + countL (cs.take m) := ⟨_, rfl⟩
  have HCN := Lib.hid hcn; clear hcn
  have HTOP := Lib.hid (fun m => show cn m ≤ 4611686018427387904 by rw [HCN.out]; have := countL_take_le cs m; have := HK.out; show k0 + countL (cs.take m) ≤ _; omega)
  go_enter Tryd.func49, Tryd.ntmps49
  go_wp2
  go_loopw [1, 5] (fun m i wr => ∃ (j : Nat), j ≤ n ∧ i = .int .i64 j ∧ m = .int .i64 (cn (j) : Int) ∧ Grw w wr)
    (fun _ i _ => n - (intOf i).toNat)
  case atStart => exact ⟨0, Nat.zero_le _, rfl, by rw [HCN.out]; simp [countL], Grw.refl _⟩
  case round =>
    obtain ⟨j, hj, rfl, rfl, hs⟩ := hrel
    have HS := Lib.hid hs
    clear hs
    by_cases hlt : (j : Int) < (n : Int)
    · rcases HC.out with h0 | ⟨g, off, rfl, hg, hcells⟩
      · omega
      · have HCL := Lib.hid hcells; clear hcells
        obtain ⟨a0, f0⟩ := HROW.out j (by omega)
        have hc0 : cn (j + 1) = cn (j) + 1 := by rw [HCN.out]; have := countL_more f0; rw [Rw.count] at this; show k0 + countL (cs.take (j + 1)) = k0 + countL (cs.take (j)) + _; omega
        have hm0 : (markL cs k0)[j]? = some (.leaf (.string (mt (cn (j))))) := by rw [HCN.out]; have := markL_at f0 k0; rw [mark_leaf] at this; exact this
        have hl0 : w.cell? ⟨g, off + j, none⟩ = some (.string (mt (cn (j)))) := HCL.out (j) _ (by rw [List.getElem?_map, hm0]; rfl)
        have HC0 := Lib.hid hc0; have HL0 := Lib.hid hl0; clear hc0 hl0 f0 hm0
        obtain ⟨q0, hq0⟩ : ∃ q, cn (j) = q := ⟨_, rfl⟩
        obtain ⟨q1, hq1⟩ : ∃ q, cn (j + 1) = q := ⟨_, rfl⟩
        rw [hq0, hq1] at HC0
        rw [hq0] at HL0
        have ht0 : q0 ≤ 4611686018427387904 := by rw [← hq0]; exact HTOP.out _
        have ht1 : q1 ≤ 4611686018427387904 := by rw [← hq1]; exact HTOP.out _
        rw [hq0]
        have HE := Lib.hid (show cn (j + 1) = q1 by exact hq1)
        clear hq0 hq1
        have e0 : ((mt q0).toList == (mt q0).toList) = true := beqL_yes rfl
        have c0 : ∀ m os, (Sort.grow (wr.drewN m) os).cell? ⟨g, off + j, none⟩ = some (.string (mt q0)) := cell_grown (show g < wr.heap.size by have := HS.out.below.size; omega) (by rw [HS.out.below.cell (show g < _ by omega)]; exact HL0.out)
        have HM0 := Lib.hid (fun (q : Int) (hq : q = q0) W => mark_anyI q0 q hq ht0 W)
        obtain ⟨m0, hm0⟩ : ∃ m, mt q0 = m := ⟨_, rfl⟩
        rw [hm0] at c0 HM0 e0; clear hm0
        go_wp2_with fail
        refine wp_region_quiet_grown mixed (by kernel_rfl) ?_
        repeat (go_big_quiet_step (first | (go_at_call 68; refine Calls.grown_of (HM0.out _ ?_ _); have := HC0.out; omega)))
        refine wpQuiet_nil ?_; intro _ hw'; obtain ⟨⟨nq, osq⟩, hw''⟩ := hw'; subst hw''
        have HG0 := Lib.hid (HS.out.trans ⟨nq, osq, rfl⟩)
        obtain ⟨w0, hw0⟩ : ∃ x, Sort.grow (wr.drewN nq) osq = x := ⟨_, rfl⟩
        rw [hw0] at HG0 ⊢; clear hw0 c0
        go_wp2_with fail
        go_roundw
        case rel => exact ⟨j + 1, by omega, by go_num, by first | (rw [HE.out]; done) | (rw [HE.out]; have := HC0.out; go_num), HG0.out⟩
        case measure => simp [intOf]; omega
    · have hjn : j = n := by omega
      subst hjn
      have HF := Lib.hid (show cn (j) = k0 + countL cs by rw [HCN.out]; show k0 + countL (cs.take (j)) = _; rw [List.take_of_length_le (by have := HLEN.out; omega)])
      go_wp2_with fail
      go_ret
      exact ⟨by rw [HF.out]; rfl, HS.out⟩

set_option maxRecDepth 100000 in
set_option maxHeartbeats 4000000 in
theorem eq_StringS (x y : Rw) (hx : IsStringS x) (hy : IsStringS y) (hd : x.data = y.data) (w : World) (rx : x.ReadR w.heap.size w) (ry : y.ReadR w.heap.size w) :
    Calls Tryd.prog 47 #[x.cell, y.cell] w fun e w' => e = .returned (.bool true) ∧ Grw w w' := by
  obtain ⟨v, n, e0, cs, rfl, hrow⟩ := hx
  obtain ⟨v', n', e0', cs', rfl, hrow'⟩ := hy
  rw [Rw.data, Rw.data] at hd
  have hdd := (Dt.sl.inj hd).2; clear hd
  rw [Rw.ReadR] at rx ry
  rw [Rw.cell_sl, Rw.cell_sl]
  obtain ⟨⟨a, cap, rfl, hlen, hc1, hc2, _, hcells⟩, hin⟩ := rx
  obtain ⟨⟨a', cap', rfl, hlen', hc1', hc2', _, hcells'⟩, hin'⟩ := ry
  have hnn : n = n' := by have := congrArg List.length hdd; rw [dataL_len, dataL_len] at this; omega
  subst hnn
  have HROW := Lib.hid hrow; have HROW' := Lib.hid hrow'; have HD := Lib.hid hdd; have HC := Lib.hid hcells; have HC' := Lib.hid hcells'
  clear hrow hrow' hdd hcells hcells' hin hin' hlen hlen'
  go_enter Tryd.func47, Tryd.ntmps47
  go_wp2
  go_loopw [5] (fun i wr => ∃ (j : Nat), j ≤ n ∧ i = .int .i64 j ∧ Grw w wr)
    (fun i _ => n - (intOf i).toNat)
  case atStart => exact ⟨0, Nat.zero_le _, rfl, Grw.refl _⟩
  case round =>
    obtain ⟨j, hj, rfl, hs⟩ := hrel
    have HS := Lib.hid hs
    clear hs
    by_cases hlt : (j : Int) < (n : Int)
    · rcases HC.out with h0 | ⟨g, off, rfl, hg, hcells⟩
      · omega
      · rcases HC'.out with h0 | ⟨g', off', rfl, hg', hcells'⟩
        · omega
        · have HCL := Lib.hid hcells; have HCL' := Lib.hid hcells'; clear hcells hcells'
          obtain ⟨a0, f0⟩ := HROW.out j (by omega)
          obtain ⟨b0, f0'⟩ := HROW'.out j (by omega)
          have hd0 := data_same HD.out f0 f0'
          have hv0 := leaf_same hd0; obtain rfl : a0 = b0 := by cases hv0; rfl
          clear hd0 hv0
          have c0 : wr.cell? ⟨g, off + j, none⟩ = some (.string a0) := by rw [HS.out.below.cell (show g < _ by omega)]; exact HCL.out (j) _ (by rw [List.getElem?_map, f0]; rfl)
          have c0' : wr.cell? ⟨g', off' + j, none⟩ = some (.string a0) := by rw [HS.out.below.cell (show g' < _ by omega)]; exact HCL'.out (j) _ (by rw [List.getElem?_map, f0']; rfl)
          have e0 : (a0.toList == a0.toList) = true := beqL_yes rfl
          have e1 : (a0.toList != a0.toList) = false := by rw [bne, e0]; rfl
          clear f0 f0'
          go_wp2
          go_quiet (fail)
          go_wp2
          go_roundw
          case rel => exact ⟨j + 1, by omega, by go_num, HS.out.drewN _⟩
          case measure => simp [intOf]; omega
    · have hkn : decide ((j : Int) < (n : Int)) = false := decide_eq_false hlt
      go_wp2_with fail
      go_ret
      exact ⟨rfl, HS.out⟩

theorem info_StringS : (Tryd.prog.info? 9).map (fun i => (i.zero, i.size, i.bytes)) = some (some (.string ⟨#[]⟩), 1, 16) := by kernel_rfl

end Go.Proofs.YtgcdfkpidcdicaaDoor
