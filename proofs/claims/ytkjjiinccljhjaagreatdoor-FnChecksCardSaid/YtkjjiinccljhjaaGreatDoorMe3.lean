/- Helper contracts over the functions with which the laws copy, compare, measure and mark slices, by program (deep.py). Asked: what lies in memory is as named. Strings as elements of slices; a new slice of the call's own. Helper facts, no claim of its own. Helper contracts over the functions with which the laws copy, compare, mark and look again at slices of bytes. Asked: the slices read as the lists named. Helper contracts over the functions with which the laws copy, compare, mark and look again at slices of integers. Asked: the slices read as the lists named. More on data with slices in slices: lists of them (a struct's slices), an own slice put into a cell, new slices of zero cells, boxes. No claim of its own. -/
import Derived.Test.YtkjjiinccljhjaaGreatDoorMe2
import Derived.Shelf.SlSortCmp.QuietGrown
import Derived.Test.YtkjjiinccljhjaaGreatDoorMe1
import Derived.Laws.MakeOwn
namespace Go.Proofs.YtkjjiinccljhjaaGreatDoor

open Go.ChangeShapes Go.WideShapes Go.ChangeAt Go.RowKit

/-- What a slice of this type holds. -/
def IsStringS (x : Rw) : Prop := ∃ v n e cs, x = .sl v n 1 e cs ∧ ∀ j, j < n → ∃ (a0 : ByteArray), cs[j]? = some (.leaf (.string a0))
theorem is_sl_StringS {x : Rw} (h : IsStringS x) : ∃ v n k e cs, x = .sl v n k e cs := by
  obtain ⟨v, n, e, cs, rfl, _⟩ := h
  exact ⟨v, n, _, e, cs, rfl⟩

set_option maxRecDepth 100000 in
set_option maxHeartbeats 4000000 in
theorem mk_StringS (x : Rw) (hx : IsStringS x) (lo hi k0 : Nat) (q : Int) (hq : q = k0) (w : World) (ho : x.OwnR lo hi w) (hd : x.blocks.Nodup) (hk : k0 + x.count ≤ 4611686018427387904) :
    Calls Tryz.prog 69 #[x.cell, .int .i64 q] w fun e w' => e = .returned (.int .i64 ((k0 + x.count : Nat) : Int)) ∧ (x.mark k0).OwnR lo hi w' ∧ OnlyB x.blocks w w' := by
  subst hq
  obtain ⟨v, n, e0, cs, rfl, hrow⟩ := hx
  rw [Rw.cell_sl]; rw [Rw.count] at hk ⊢; rw [mark_cell_sl]
  have ho2 := ho; rw [Rw.OwnR] at ho2
  have hlen : cs.length = n := by have := ho2.1.1.1; rw [List.length_map] at this; omega
  have hrw := ho2.1.1.2; clear ho2
  have HROW := Lib.hid hrow; have HD := Lib.hid hd; have HO0 := Lib.hid ho; have HLEN := Lib.hid hlen; have HK := Lib.hid hk; clear hrow hd ho hlen hk
  rcases hrw with ⟨rfl, h0⟩ | ⟨g, cap, cur, rfl, hg, _, hcap, hm, _⟩
  · subst h0
    have hz : cs = [] := List.eq_nil_of_length_eq_zero (by have := HLEN.out; omega)
    subst hz
    go_enter Tryz.func69, Tryz.ntmps69
    go_wp2
    refine wp_loop_rounds 1 ?_
    rw [rounds_succ]
    go_wp2
    go_ret
    exact ⟨by simp [countL], by rw [markL]; exact HO0.out, OnlyB.refl _ _⟩
  · unfold maxLen at hm
    obtain ⟨st, hst⟩ : ∃ f : Nat → List Rw, f = markTo cs k0 := ⟨_, rfl⟩
    obtain ⟨cn, hcn⟩ : ∃ f : Nat → Nat, f = fun m => k0 + countL (cs.take m) := ⟨_, rfl⟩
    have HST := Lib.hid hst; have HCN := Lib.hid hcn; clear hst hcn
    have HTOP := Lib.hid (fun m => show cn m ≤ 4611686018427387904 by rw [HCN.out]; have := countL_take_le cs m; have := HK.out; show k0 + countL (cs.take m) ≤ _; omega)
    have HNOT := Lib.hid (show g ∉ blocksL cs by have := HD.out; rw [Rw.blocks] at this; exact (List.nodup_cons.1 (show (g :: blocksL cs).Nodup from this)).1)
    have HOB := Lib.hid (show ∀ m, blocksL (st m) = blocksL cs from fun m => by rw [HST.out]; exact markTo_blocks cs k0 m)
    go_enter Tryz.func69, Tryz.ntmps69
    go_wp2
    go_loopw [1, 5] (fun m i wr => ∃ (j : Nat), j ≤ n ∧ i = .int .i64 j ∧ m = .int .i64 (cn (j) : Int) ∧ (Rw.sl (.slice (some ⟨g, 0, none⟩) n cap) n 1 e0 (st (j))).OwnR lo hi wr ∧ OnlyB (Rw.sl (.slice (some ⟨g, 0, none⟩) n cap) n 1 e0 cs).blocks w wr)
      (fun _ i _ => n - (intOf i).toNat)
    case atStart => exact ⟨0, Nat.zero_le _, rfl, by rw [HCN.out]; simp [countL], by rw [HST.out, markTo_zero]; exact HO0.out, OnlyB.refl _ _⟩
    case round =>
      obtain ⟨j, hj, rfl, rfl, hown, hon⟩ := hrel
      have HO := Lib.hid hown; have HN := Lib.hid hon
      clear hown hon
      by_cases hlt : (j : Int) < (n : Int)
      · obtain ⟨a0, f0⟩ := HROW.out j (by omega)
        have hc0 : cn (j + 1) = cn (j) + 1 := by rw [HCN.out]; have := countL_more f0; rw [Rw.count] at this; show k0 + countL (cs.take (j + 1)) = k0 + countL (cs.take (j)) + _; omega
        have hs0 : (st (j)).set (j) (.leaf (.string (mt (cn (j))))) = st (j + 1) := by rw [HST.out, HCN.out]; have := markTo_next f0 k0; rw [mark_leaf] at this; exact this
        have ha0 : (st (j))[j]? = some (.leaf (.string a0)) := by rw [HST.out]; exact markTo_at f0 k0
        have HC0 := Lib.hid hc0; have HS0 := Lib.hid hs0; have HA0 := Lib.hid ha0; clear hc0 hs0 ha0 f0
        obtain ⟨q0, hq0⟩ : ∃ q, cn (j) = q := ⟨_, rfl⟩
        obtain ⟨q1, hq1⟩ : ∃ q, cn (j + 1) = q := ⟨_, rfl⟩
        rw [hq0, hq1] at HC0
        rw [hq0] at HS0
        have ht0 : q0 ≤ 4611686018427387904 := by rw [← hq0]; exact HTOP.out _
        have ht1 : q1 ≤ 4611686018427387904 := by rw [← hq1]; exact HTOP.out _
        rw [hq0]
        have HE := Lib.hid (show cn (j + 1) = q1 by exact hq1)
        clear hq0 hq1
        go_wp2_with fail
        refine (mark_anyI q0 _ rfl (by omega) _).mono ?_
        rintro e w0 ⟨rfl, hg0⟩
        have HO0a := Lib.hid (HO.out.later hg0.below)
        have HN0a := Lib.hid (HN.out.trans (OnlyB.of_below hg0.below _))
        have r0 := HO0a.out; rw [Rw.OwnR] at r0
        have d0 : w0.cell? ⟨g, j, none⟩ = some (.string a0) := by rw [r0.1.1.cellAt (j) (by omega), List.getElem?_map, HA0.out]; rfl
        have z0 : w0.frozen? ⟨g, j, none⟩ = false := r0.1.1.frozenAt _
        have hsto := HO0a.out.store (v := .string (mt q0)) (by rw [HOB.out]; exact HNOT.out) HA0.out rfl
        rw [HS0.out] at hsto
        have HO0' := Lib.hid hsto.1; have HN0' := Lib.hid (HN0a.out.trans (hsto.2.1.mono (by intro i hi; rw [Rw.blocks]; exact List.mem_append.2 (Or.inl hi)))); clear hsto r0 hg0
        go_wp2_with fail
        go_roundw
        case rel => exact ⟨j + 1, by omega, by go_num, by first | (rw [HE.out]; done) | (rw [HE.out]; have := HC0.out; go_num), by exact HO0'.out, HN0'.out⟩
        case measure => simp [intOf]; omega
      · have hjn : j = n := by omega
        subst hjn
        have HF := Lib.hid (show cn (j) = k0 + countL cs by rw [HCN.out]; show k0 + countL (cs.take (j)) = _; rw [List.take_of_length_le (by have := HLEN.out; omega)])
        have HG := Lib.hid (show st (j) = markL cs k0 by rw [HST.out]; exact markTo_full cs k0 (by have := HLEN.out; omega))
        go_wp2_with fail
        go_ret
        exact ⟨by rw [HF.out]; rfl, by rw [← HG.out]; exact HO.out, HN.out⟩

set_option maxRecDepth 100000 in
set_option maxHeartbeats 4000000 in
theorem hd_StringS (x : Rw) (hx : IsStringS x) (hi k0 : Nat) (q : Int) (hq : q = k0) (w : World) (hr : (x.mark k0).ReadR hi w) (hh : hi ≤ w.heap.size) (hk : k0 + x.count ≤ 4611686018427387904) :
    Calls Tryz.prog 70 #[x.cell, .int .i64 q] w fun e w' => e = .returned (.int .i64 ((k0 + x.count : Nat) : Int)) ∧ Grw w w' := by
  have mixed : Tryz.prog.follows .mixedOrders = true := by kernel_rfl
  subst hq
  obtain ⟨v, n, e0, cs, rfl, hrow⟩ := hx
  rw [Rw.cell_sl]; rw [Rw.count] at hk ⊢; rw [mark_cell_sl, Rw.ReadR] at hr
  obtain ⟨⟨a, cap, rfl, hlen, hc1, hc2, _, hcells⟩, hrin⟩ := hr
  rw [markL_len] at hlen
  have HROW := Lib.hid hrow; have HLEN := Lib.hid hlen; have HK := Lib.hid hk; have HC := Lib.hid hcells; have HIN := Lib.hid hrin; clear hrow hlen hk hcells hrin
  obtain ⟨cn, hcn⟩ : ∃ f : Nat → Nat, f = fun m => k0 + countL (cs.take m) := ⟨_, rfl⟩
  have HCN := Lib.hid hcn; clear hcn
  have HTOP := Lib.hid (fun m => show cn m ≤ 4611686018427387904 by rw [HCN.out]; have := countL_take_le cs m; have := HK.out; show k0 + countL (cs.take m) ≤ _; omega)
  go_enter Tryz.func70, Tryz.ntmps70
  go_wp2
  go_loopw [1, 5] (fun m i wr => ∃ (j : Nat), j ≤ n ∧ i = .int .i64 j ∧ m = .int .i64 (cn (j) : Int) ∧ Grw w wr)
    (fun _ i _ => n - (intOf i).toNat)
  case atStart => exact ⟨0, Nat.zero_le _, rfl, by rw [HCN.out]; simp [countL], Grw.refl _⟩
  case round =>
    obtain ⟨j, hj, rfl, rfl, hs⟩ := hrel
    have HS := Lib.hid hs
    clear hs
    by_cases hlt : (j : Int) < (n : Int)
    · rcases HC.out with h0 | ⟨g, off, rfl, hg, hcells⟩
      · omega
      · have HCL := Lib.hid hcells; clear hcells
        obtain ⟨a0, f0⟩ := HROW.out j (by omega)
        have hc0 : cn (j + 1) = cn (j) + 1 := by rw [HCN.out]; have := countL_more f0; rw [Rw.count] at this; show k0 + countL (cs.take (j + 1)) = k0 + countL (cs.take (j)) + _; omega
        have hm0 : (markL cs k0)[j]? = some (.leaf (.string (mt (cn (j))))) := by rw [HCN.out]; have := markL_at f0 k0; rw [mark_leaf] at this; exact this
        have hl0 : w.cell? ⟨g, off + j, none⟩ = some (.string (mt (cn (j)))) := HCL.out (j) _ (by rw [List.getElem?_map, hm0]; rfl)
        have HC0 := Lib.hid hc0; have HL0 := Lib.hid hl0; clear hc0 hl0 f0 hm0
        obtain ⟨q0, hq0⟩ : ∃ q, cn (j) = q := ⟨_, rfl⟩
        obtain ⟨q1, hq1⟩ : ∃ q, cn (j + 1) = q := ⟨_, rfl⟩
        rw [hq0, hq1] at HC0
        rw [hq0] at HL0
        have ht0 : q0 ≤ 4611686018427387904 := by rw [← hq0]; exact HTOP.out _
        have ht1 : q1 ≤ 4611686018427387904 := by rw [← hq1]; exact HTOP.out _
        rw [hq0]
        have HE := Lib.hid (show cn (j + 1) = q1 by exact hq1)
        clear hq0 hq1
        have e0 : ((mt q0).toList == (mt q0).toList) = true := beqL_yes rfl
        have c0 : ∀ m os, (Sort.grow (wr.drewN m) os).cell? ⟨g, off + j, none⟩ = some (.string (mt q0)) := cell_grown (show g < wr.heap.size by have := HS.out.below.size; omega) (by rw [HS.out.below.cell (show g < _ by omega)]; exact HL0.out)
        have HM0 := Lib.hid (fun (q : Int) (hq : q = q0) W => mark_anyI q0 q hq ht0 W)
        obtain ⟨m0, hm0⟩ : ∃ m, mt q0 = m := ⟨_, rfl⟩
        rw [hm0] at c0 HM0 e0; clear hm0
        go_wp2_with fail
        refine wp_region_quiet_grown mixed (by kernel_rfl) ?_
        repeat (go_big_quiet_step (first | (go_at_call 130; refine Calls.grown_of (HM0.out _ ?_ _); have := HC0.out; omega)))
        refine wpQuiet_nil ?_; intro _ hw'; obtain ⟨⟨nq, osq⟩, hw''⟩ := hw'; subst hw''
        have HG0 := Lib.hid (HS.out.trans ⟨nq, osq, rfl⟩)
        obtain ⟨w0, hw0⟩ : ∃ x, Sort.grow (wr.drewN nq) osq = x := ⟨_, rfl⟩
        rw [hw0] at HG0 ⊢; clear hw0 c0
        go_wp2_with fail
        go_roundw
        case rel => exact ⟨j + 1, by omega, by go_num, by first | (rw [HE.out]; done) | (rw [HE.out]; have := HC0.out; go_num), HG0.out⟩
        case measure => simp [intOf]; omega
    · have hjn : j = n := by omega
      subst hjn
      have HF := Lib.hid (show cn (j) = k0 + countL cs by rw [HCN.out]; show k0 + countL (cs.take (j)) = _; rw [List.take_of_length_le (by have := HLEN.out; omega)])
      go_wp2_with fail
      go_ret
      exact ⟨by rw [HF.out]; rfl, HS.out⟩

set_option maxRecDepth 100000 in
set_option maxHeartbeats 4000000 in
theorem eq_StringS (x y : Rw) (hx : IsStringS x) (hy : IsStringS y) (hd : x.data = y.data) (w : World) (rx : x.ReadR w.heap.size w) (ry : y.ReadR w.heap.size w) :
    Calls Tryz.prog 66 #[x.cell, y.cell] w fun e w' => e = .returned (.bool true) ∧ Grw w w' := by
  obtain ⟨v, n, e0, cs, rfl, hrow⟩ := hx
  obtain ⟨v', n', e0', cs', rfl, hrow'⟩ := hy
  rw [Rw.data, Rw.data] at hd
  have hdd := (Dt.sl.inj hd).2; clear hd
  rw [Rw.ReadR] at rx ry
  rw [Rw.cell_sl, Rw.cell_sl]
  obtain ⟨⟨a, cap, rfl, hlen, hc1, hc2, _, hcells⟩, hin⟩ := rx
  obtain ⟨⟨a', cap', rfl, hlen', hc1', hc2', _, hcells'⟩, hin'⟩ := ry
  have hnn : n = n' := by have := congrArg List.length hdd; rw [dataL_len, dataL_len] at this; omega
  subst hnn
  have HROW := Lib.hid hrow; have HROW' := Lib.hid hrow'; have HD := Lib.hid hdd; have HC := Lib.hid hcells; have HC' := Lib.hid hcells'
  clear hrow hrow' hdd hcells hcells' hin hin' hlen hlen'
  go_enter Tryz.func66, Tryz.ntmps66
  go_wp2
  go_loopw [5] (fun i wr => ∃ (j : Nat), j ≤ n ∧ i = .int .i64 j ∧ Grw w wr)
    (fun i _ => n - (intOf i).toNat)
  case atStart => exact ⟨0, Nat.zero_le _, rfl, Grw.refl _⟩
  case round =>
    obtain ⟨j, hj, rfl, hs⟩ := hrel
    have HS := Lib.hid hs
    clear hs
    by_cases hlt : (j : Int) < (n : Int)
    · rcases HC.out with h0 | ⟨g, off, rfl, hg, hcells⟩
      · omega
      · rcases HC'.out with h0 | ⟨g', off', rfl, hg', hcells'⟩
        · omega
        · have HCL := Lib.hid hcells; have HCL' := Lib.hid hcells'; clear hcells hcells'
          obtain ⟨a0, f0⟩ := HROW.out j (by omega)
          obtain ⟨b0, f0'⟩ := HROW'.out j (by omega)
          have hd0 := data_same HD.out f0 f0'
          have hv0 := leaf_same hd0; obtain rfl : a0 = b0 := by cases hv0; rfl
          clear hd0 hv0
          have c0 : wr.cell? ⟨g, off + j, none⟩ = some (.string a0) := by rw [HS.out.below.cell (show g < _ by omega)]; exact HCL.out (j) _ (by rw [List.getElem?_map, f0]; rfl)
          have c0' : wr.cell? ⟨g', off' + j, none⟩ = some (.string a0) := by rw [HS.out.below.cell (show g' < _ by omega)]; exact HCL'.out (j) _ (by rw [List.getElem?_map, f0']; rfl)
          have e0 : (a0.toList == a0.toList) = true := beqL_yes rfl
          have e1 : (a0.toList != a0.toList) = false := by rw [bne, e0]; rfl
          clear f0 f0'
          go_wp2
          go_quiet (fail)
          go_wp2
          go_roundw
          case rel => exact ⟨j + 1, by omega, by go_num, HS.out.drewN _⟩
          case measure => simp [intOf]; omega
    · have hkn : decide ((j : Int) < (n : Int)) = false := decide_eq_false hlt
      go_wp2_with fail
      go_ret
      exact ⟨rfl, HS.out⟩

set_option maxRecDepth 100000 in
set_option maxHeartbeats 4000000 in
theorem sz_StringS (x : Rw) (hx : IsStringS x) (left : Int) (l1 : 0 ≤ left) (l2 : left ≤ 1099511627776) (w : World) (rx : x.ReadR w.heap.size w) (hz : x.Small) :
    Calls Tryz.prog 88 #[x.cell, .int .i64 left] w fun e w' => ∃ r : Int, e = .returned (.int .i64 r) ∧ -1 ≤ r ∧ (0 ≤ r → r + (x.weight : Nat) = left) ∧ Grw w w' := by
  obtain ⟨v, n, e0, cs, rfl, hrow⟩ := hx
  rw [Rw.ReadR] at rx; rw [Rw.Small] at hz; rw [Rw.cell_sl, Rw.weight]
  obtain ⟨⟨a, cap, rfl, hlen, hc1, hc2, _, hcells⟩, hin⟩ := rx
  have HROW := Lib.hid hrow; have HC := Lib.hid hcells; have HZ := Lib.hid (smallL_iff.1 hz); have HLEN := Lib.hid hlen
  clear hrow hcells hin hz hlen
  obtain ⟨wt, hwt⟩ : ∃ f : Nat → Nat, f = fun m => weightL (cs.take m) := ⟨_, rfl⟩
  have HWT := Lib.hid hwt; clear hwt
  by_cases h0 : left - n < 0
  · go_enter Tryz.func88, Tryz.ntmps88
    go_wp2
    go_ret
    exact ⟨-1, rfl, by omega, by omega, Grw.refl _⟩
  · go_enter Tryz.func88, Tryz.ntmps88
    go_wp2
    go_loopw [1, 5] (fun q i wr => ∃ (j : Nat) (r : Int), j ≤ n ∧ i = .int .i64 j ∧ q = .int .i64 r ∧ 0 ≤ r ∧ r + n + (wt j : Nat) = left ∧ Grw w wr)
      (fun _ i _ => n - (intOf i).toNat)
    case atStart => exact ⟨0, left - n, Nat.zero_le _, rfl, rfl, by omega, by rw [HWT.out]; (simp [weightL]; try omega), Grw.refl _⟩
    case round =>
      obtain ⟨j, r, hj, rfl, rfl, hr0, hr1, hs⟩ := hrel
      have HS := Lib.hid hs; have HR1 := Lib.hid hr1
      have hr2 : r ≤ 1099511627776 := by omega
      clear hs hr1
      by_cases hlt : (j : Int) < (n : Int)
      · rcases HC.out with hz0 | ⟨g, off, rfl, hg, hcells⟩
        · omega
        · have HCL := Lib.hid hcells; clear hcells
          obtain ⟨a0, f0⟩ := HROW.out j (by omega)
          have c0 : wr.cell? ⟨g, off + j, none⟩ = some (.string a0) := by rw [HS.out.below.cell (show g < _ by omega)]; exact HCL.out (j) _ (by rw [List.getElem?_map, f0]; rfl)
          have z0 : a0.size ≤ 9223372036854775807 := by have := HZ.out _ (List.mem_of_getElem? f0); rw [Rw.Small] at this; exact this
          have hw0 : weightL (cs.take (j + 1)) = weightL (cs.take j) + _ := weightL_more f0; rw [Rw.weight] at hw0; simp only [weightV] at hw0
          have HW := Lib.hid (show wt (j + 1) = wt j + (a0.size) by rw [HWT.out]; show weightL (cs.take (j + 1)) = weightL (cs.take j) + _; omega)
          clear hw0 f0
          by_cases hneg : r - (a0.size : Int) < 0
          · go_wp2_with fail
            go_ret
            exact ⟨-1, rfl, by omega, by omega, HS.out⟩
          · go_wp2_with fail
            go_roundw
            case rel => exact ⟨j + 1, r - (a0.size : Int), by omega, by go_num, by go_num, by omega, by rw [HW.out]; have := HR1.out; omega, HS.out⟩
            case measure => simp [intOf]; omega
      · have hjn : j = n := by omega
        subst hjn
        have HF := Lib.hid (show wt j = weightL cs by rw [HWT.out]; show weightL (cs.take j) = _; rw [List.take_of_length_le (by have := HLEN.out; omega)])
        go_wp2_with fail
        go_ret
        exact ⟨r, rfl, by omega, fun _ => by have := HF.out; have := HR1.out; omega, HS.out⟩

theorem info_StringS : (Tryz.prog.info? 9).map (fun i => (i.zero, i.size, i.bytes)) = some (some (.string ⟨#[]⟩), 1, 16) := by kernel_rfl

set_option maxRecDepth 100000 in
set_option maxHeartbeats 4000000 in
theorem to_StringS (x : Rw) (hx : IsStringS x) (w : World) (rx : x.ReadR w.heap.size w) (hl : x.weight ≤ 4398046511104) :
    Calls Tryz.prog 90 #[x.cell] w fun e w' => ∃ y : Rw, e = .returned y.cell ∧ IsStringS y ∧ y.data = x.data ∧ y.blocks.Nodup ∧ y.OwnR w.heap.size w'.heap.size w' ∧ Below w.heap.size w w' := by
  obtain ⟨i0, hi0, hz0, hz1, hz2⟩ := info_parts info_StringS
  obtain ⟨v, n, e0, cs, rfl, hrow⟩ := hx
  rw [Rw.ReadR] at rx; rw [Rw.weight] at hl; rw [Rw.cell_sl, Rw.data]
  obtain ⟨⟨a, cap, rfl, hlen, hc1, hc2, _, hcells⟩, hin⟩ := rx
  have hnl : n ≤ 4398046511104 := by omega
  have hall : ∀ c ∈ cs, c.blocks = [] ∧ c.cell.oneCell' = true ∧ c = .leaf c.cell := rows_all (K := 1) (by decide) hlen _ fun j hj t ht => by
    obtain ⟨a0, f0⟩ := hrow j hj
    obtain rfl : t = 0 := by omega
    exact ⟨_, by rw [Nat.mul_one]; exact f0, by rw [Rw.blocks], rfl, rfl⟩
  have HROW := Lib.hid hrow; have HC := Lib.hid hcells; have HLEN := Lib.hid hlen; have HI := Lib.hid hz2; have HALL := Lib.hid hall
  clear hrow hcells hin hlen hz2 hall hl
  go_enter Tryz.func90, Tryz.ntmps90
  go_wp2_with (at_make; refine wpList_make_full _ rfl _ _ 24 rfl w.heap.size 9 i0 (.string ⟨#[]⟩) 1 Tryz.underlying24 hi0 hz0 hz1 .i64 .i64 _ _ n rfl rfl rfl rfl ?c1 ?c2 (Nat.le_refl _) ?_)
  case c1 => rw [HI.out]; omega
  case c2 => unfold maxLen; omega
  intro w1 hown1 hgr1
  have hb1 : Below w.heap.size w w1 := (Below.refl _ _).grown hgr1 (Nat.le_refl _) (fun k h => by cases h)
  have HO1 := Lib.hid hown1; have HB1 := Lib.hid hb1; clear hown1 hgr1 hb1
  go_wp2
  go_loopw [4] (fun i wr => ∃ (j : Nat) (us : List Value), j ≤ n ∧ i = .int .i64 j ∧ wr.ownsRow w.heap.size 9 1 (.slice (some ⟨w.heap.size, 0, none⟩) n n) n us ∧ (∀ i, i < j → us[i]? = (cs.map Rw.cell)[i]?) ∧ Below w.heap.size w wr)
    (fun i _ => n - (intOf i).toNat)
  case atStart => exact ⟨0, _, Nat.zero_le _, rfl, HO1.out, fun i hi => by omega, HB1.out⟩
  case round =>
    obtain ⟨j, us, hj, rfl, hown, hup, hbw⟩ := hrel
    have HO := Lib.hid hown; have HU := Lib.hid hup; have HB := Lib.hid hbw
    clear hown hup hbw HO1 HB1
    by_cases hlt : (j : Int) < (n : Int)
    · rcases HC.out with h0 | ⟨g, off, rfl, hg, hcells⟩
      · omega
      · have HCL := Lib.hid hcells; clear hcells
        obtain ⟨a0, f0⟩ := HROW.out j (by omega)
        have c0 : wr.cell? ⟨g, off + j, none⟩ = some (.string a0) := by rw [HB.out.cell (show g < _ by omega)]; exact HCL.out (j) _ (by rw [List.getElem?_map, f0]; rfl)
        have HM0 := Lib.hid (show (cs.map Rw.cell)[j]? = some (.string a0) by rw [List.getElem?_map, f0]; rfl)
        clear f0
        have hxl : us.length = n * 1 := HO.out.1
        obtain ⟨u0, hu0⟩ : ∃ u, us[j]? = some u := ⟨_, List.getElem?_eq_getElem (by omega)⟩
        have d0 : wr.cell? ⟨w.heap.size, j, none⟩ = some u0 := by rw [HO.out.cellAt (j) (by omega)]; exact hu0
        have z0 : wr.frozen? ⟨w.heap.size, j, none⟩ = false := HO.out.frozenAt _
        have HX := Lib.hid hxl
        clear hu0 hxl
        go_wp2_with fail
        go_roundw
        case rel =>
          refine ⟨j + 1, _, by omega, by go_num, (HO.out.stored _ _).1, fun i hi => ?_, (HB.out.setCell (Nat.le_refl _) _)⟩
          have hxl := HX.out
          by_cases i0 : i = j
          · rw [i0, List.getElem?_set_self (by first | omega | (simp only [List.length_set]; omega))]; exact HM0.out.symm
          rw [List.getElem?_set_ne (by omega)]; exact HU.out i (by omega)
        case measure => simp [intOf]; omega
    · have hjn : j = n := by omega
      subst hjn
      have hus : us = cs.map Rw.cell := by
        apply List.ext_getElem?
        intro i
        by_cases hi : i < j
        · exact HU.out i hi
        · rw [List.getElem?_eq_none (by have := HO.out.1; omega), List.getElem?_eq_none (by rw [List.length_map]; have := HLEN.out; omega)]
      have HF := Lib.hid hus; clear hus
      have hbn := blocksL_nil fun c hc => (HALL.out c hc).1
      have HBN := Lib.hid hbn; clear hbn
      go_wp2
      go_ret
      refine ⟨.sl (.slice (some ⟨w.heap.size, 0, none⟩) j j) j 1 9 cs, rfl, ⟨_, _, _, _, rfl, HROW.out⟩, by rw [Rw.data], ?_, ?_, HB.out⟩
      · rw [Rw.blocks, HBN.out]; simp [Value.ownBlock]
      · rw [Rw.OwnR]
        refine ⟨⟨by rw [← HF.out]; exact HO.out, fun g hg => (HO.out.lt g hg).2⟩, ownRL_iff.2 fun c hc => ?_⟩
        obtain ⟨_, h2, h3⟩ := HALL.out c hc
        rw [h3, Rw.OwnR]; exact h2

end Go.Proofs.YtkjjiinccljhjaaGreatDoor
namespace Go.Proofs.YtkjjiinccljhjaaGreatDoor
open Go.ChangeShapes Go.WideShapes Go.ChangeAt Go.RowKit

def encS (s : ByteArray) : List Value := [.string s]
theorem encS_len (s : ByteArray) : (encS s).length = 1 := rfl
theorem encS_one (s : ByteArray) : ∀ u ∈ encS s, u.oneCell' = true := by
  intro u hu
  simp only [encS, List.mem_cons, List.mem_nil_iff, or_false] at hu
  subst hu; rfl
theorem infoStr : (Tryz.prog.info? 9).map (fun i => (i.zero, i.size, i.bytes)) = some (some (.string ⟨#[]⟩), 1, 16) := by kernel_rfl
/-- A new slice of these elements, the call's own; of what lay in memory nothing is written. -/
def NewK {α : Type} (enc : α → List Value) (k : Nat) (e : TypeId) (xs : List α) (w : World) (en : Ending) (w' : World) : Prop :=
  ∃ v, en = .returned v ∧ OwnK enc k e w.heap.size w'.heap.size w' v xs ∧ Below w.heap.size w w'
theorem add_off (g off t : Nat) : (⟨g, off, none⟩ : Addr).add t = ⟨g, off + t, none⟩ := by unfold Addr.add; split <;> simp_all
theorem leaf_of_data {c : Rw} {v : Value} (h : c.data = (Rw.leaf v).data) : c = .leaf v := by
  cases c with
  | leaf u => rw [leaf_same h]
  | sl u n k e cs => rw [Rw.data, Rw.data] at h; cases h

end Go.Proofs.YtkjjiinccljhjaaGreatDoor
namespace Go.Proofs.YtkjjiinccljhjaaGreatDoor
open Go.ChangeShapes Go.WideShapes Go.ChangeAt Go.RowKit

/-- A new slice of these numbers, the call's own; of what lay in memory nothing is written. -/
def New (k : IntKind) (e : TypeId) (zs : List Int) (w : World) (en : Ending) (w' : World) : Prop :=
  ∃ v, en = .returned v ∧ Own k e w.heap.size w'.heap.size w' v zs ∧ Below w.heap.size w w'

/-- The marks that a law writes: byte(k), byte(k+1), .. -/
def marks (k n : Nat) : List Int := (List.range n).map (fun i => (((k + i) % 256 : Nat) : Int))
theorem marks_len (k n : Nat) : (marks k n).length = n := by simp [marks]
theorem marks_at {k n j : Nat} (h : j < n) : (marks k n).getD j 0 = ((k : Int) + (j : Int)) % 256 := by
  rw [List.getD_eq_getElem?_getD]
  simp [marks, h]

def Marked (k : IntKind) (e : TypeId) (lo hi : Nat) (v : Value) (ms : List Int) (m : Int) (w : World) (en : Ending) (w' : World) : Prop :=
  en = .returned (.int .i64 m) ∧ Own k e lo hi w' v ms ∧ w.grownBy w' v.ownBlock

end Go.Proofs.YtkjjiinccljhjaaGreatDoor
namespace Go.Proofs.YtkjjiinccljhjaaGreatDoor
open Go.ChangeShapes Go.WideShapes Go.ChangeAt Go.RowKit

set_option maxHeartbeats 1000000 in
theorem to64_any (v : Value) (hi : Nat) (zs : List Int) (w : World) (hr : Reads .i64 hi w v zs) (hh : hi ≤ w.heap.size) (hl : zs.length ≤ 17592186044416) :
    Calls Tryz.prog 119 #[v] w (New .i64 3 zs w) := by
  obtain ⟨i0, hi0, hz0, hz1, hz2⟩ := info_parts info64
  obtain ⟨a, cap, rfl, hc1, hc2, _, hcells⟩ := hr
  have HC := Lib.hid hcells; clear hcells
  have HI := Lib.hid hz2; clear hz2
  obtain ⟨n, hn⟩ : ∃ n, zs.length = n := ⟨_, rfl⟩
  rw [hn] at hl hc1 ⊢
  go_enter Tryz.func119, Tryz.ntmps119
  go_wp2_with (at_make; refine wpList_make_full _ rfl _ _ 71 rfl w.heap.size 3 i0 (.int .i64 0) 1 Tryz.underlying71 hi0 hz0 hz1 .i64 .i64 _ _ n rfl rfl rfl rfl ?c1 ?c2 (Nat.le_refl _) ?_)
  case c1 => rw [HI.out]; omega
  case c2 => unfold maxLen; omega
  intro w1 hown1 hgr1
  have hb1 : Below w.heap.size w w1 := (Below.refl _ _).grown hgr1 (Nat.le_refl _) (fun k h => by cases h)
  have HO1 := Lib.hid hown1; have HB1 := Lib.hid hb1; clear hown1 hgr1 hb1
  go_wp2
  go_loopw [4] (fun i wr => ∃ (k : Nat) (xs : List Value), k ≤ n ∧ i = .int .i64 k ∧ wr.ownsRow w.heap.size 3 1 (.slice (some ⟨w.heap.size, 0, none⟩) n n) n xs ∧ Upto .i64 zs k xs ∧ Below w.heap.size w wr)
    (fun i _ => n - (intOf i).toNat)
  case atStart => exact ⟨0, _, Nat.zero_le _, rfl, HO1.out, Upto.zero _ _ _, HB1.out⟩
  case round =>
    obtain ⟨k, xs, hk, rfl, hown, hup, hbw⟩ := hrel
    have HO := Lib.hid hown; have HU := Lib.hid hup; have HB := Lib.hid hbw
    clear hown hup hbw HO1 HB1
    by_cases hlt : (k : Int) < (n : Int)
    · rcases HC.out with h0 | ⟨g, off, rfl, hg, hcells⟩
      · omega
      · have c1 : wr.cell? ⟨g, off + k, none⟩ = some (.int .i64 (zs.getD k 0)) := by rw [HB.out.cell (show g < _ by omega)]; exact hcells k (by omega)
        have c2 : wr.cell? ⟨w.heap.size, k, none⟩ = xs[k]? := HO.out.cellAt k (by omega)
        have hxl : xs.length = n := by have := HO.out.1; omega
        obtain ⟨u, hu⟩ : ∃ u, xs[k]? = some u := ⟨_, List.getElem?_eq_getElem (by omega)⟩
        rw [hu] at c2
        have f2 : wr.frozen? ⟨w.heap.size, k, none⟩ = false := HO.out.frozenAt k
        clear hcells hu
        go_wp2
        go_roundw
        case rel => exact ⟨k + 1, _, by omega, by go_num, (HO.out.stored k _).1, HU.out.set (by omega), HB.out.setCell (Nat.le_refl _) _⟩
        case measure => simp [intOf]; omega
    · have hkn : k = n := by omega
      subst hkn
      go_wp2
      go_ret
      refine ⟨_, rfl, ⟨?_, ?_⟩, HB.out⟩
      · have h1 := HO.out
        rw [HU.out.full (by have := h1.1; omega) hn] at h1
        rw [hn]; exact h1
      · intro g hg; exact (HO.out.lt g hg).2

set_option maxHeartbeats 1000000 in
theorem eq64_any (v u : Value) (hi hi' : Nat) (zs : List Int) (w : World) (hv : Reads .i64 hi w v zs) (hu : Reads .i64 hi' w u zs) :
    Calls Tryz.prog 122 #[v, u] w fun e w' => e = .returned (.bool true) ∧ Same w w' := by
  obtain ⟨a, cap, rfl, hc1, hc2, _, hcells⟩ := hv
  obtain ⟨a', cap', rfl, hc1', hc2', _, hcells'⟩ := hu
  have HC := Lib.hid hcells; have HC' := Lib.hid hcells'; clear hcells hcells'
  obtain ⟨n, hn⟩ : ∃ n, zs.length = n := ⟨_, rfl⟩
  rw [hn] at hc1 hc1' HC HC' ⊢
  have HN := Lib.hid hn; clear hn
  go_enter Tryz.func122, Tryz.ntmps122
  go_wp2
  go_loopw [5] (fun i wr => ∃ (k : Nat), k ≤ n ∧ i = .int .i64 k ∧ Same w wr)
    (fun i _ => n - (intOf i).toNat)
  case atStart => exact ⟨0, Nat.zero_le _, rfl, Same.refl _⟩
  case round =>
    obtain ⟨k, hk, rfl, hs⟩ := hrel
    have HS := Lib.hid hs
    clear hs
    by_cases hlt : (k : Int) < (n : Int)
    · rcases HC.out with h0 | ⟨g, off, rfl, hg, hcells⟩
      · omega
      · rcases HC'.out with h0 | ⟨g', off', rfl, hg', hcells'⟩
        · omega
        · have c1 : wr.cell? ⟨g, off + k, none⟩ = some (.int .i64 (zs.getD k 0)) := by rw [HS.out.cell]; exact hcells k (by omega)
          have c2 : wr.cell? ⟨g', off' + k, none⟩ = some (.int .i64 (zs.getD k 0)) := by rw [HS.out.cell]; exact hcells' k (by omega)
          obtain ⟨z, hz⟩ : ∃ z, zs.getD k 0 = z := ⟨_, rfl⟩
          rw [hz] at c1 c2
          clear hcells hcells' hz
          go_wp2
          go_quiet (fail)
          go_wp2
          go_roundw
          case rel => exact ⟨k + 1, by omega, by go_num, HS.out.trans ⟨rfl, rfl, rfl, rfl⟩⟩
          case measure => simp [intOf]; omega
    · have hkn : decide ((k : Int) < (n : Int)) = false := decide_eq_false hlt
      go_wp2
      go_ret
      exact ⟨rfl, HS.out⟩

/-- The marks that a law writes: k, k+1, .. -/
def marksI (k n : Nat) : List Int := (List.range n).map (fun i => ((k + i : Nat) : Int))
theorem marksI_len (k n : Nat) : (marksI k n).length = n := by simp [marksI]
theorem marksI_at {k n j : Nat} (h : j < n) : (marksI k n).getD j 0 = ((k : Int) + (j : Int)) := by
  rw [List.getD_eq_getElem?_getD]
  simp [marksI, h]

set_option maxHeartbeats 1000000 in
theorem mark64_any (v : Value) (lo hi : Nat) (zs : List Int) (k0 : Nat) (q : Int) (hq : q = k0) (w : World) (hv : Own .i64 3 lo hi w v zs) (hk : (k0 : Int) + (zs.length : Int) ≤ 4611686018427387904) :
    Calls Tryz.prog 125 #[v, .int .i64 q] w (Marked .i64 3 lo hi v (marksI k0 zs.length) ((k0 : Int) + (zs.length : Int)) w) := by
  subst hq
  obtain ⟨hv1, hv2⟩ := hv
  obtain ⟨n, hn⟩ : ∃ n, zs.length = n := ⟨_, rfl⟩
  rw [hn] at hv1 hk ⊢
  have HV1 := Lib.hid hv1; have HV2 := Lib.hid hv2
  rcases hv1.2 with ⟨rfl, h0⟩ | ⟨g, cap, cur, rfl, hg, _, hcap, hm, _⟩
  · subst h0
    have hz : zs = [] := List.eq_nil_of_length_eq_zero hn
    subst hz
    clear hv1 hv2
    go_enter Tryz.func125, Tryz.ntmps125
    go_wp2
    refine wp_loop_rounds 1 ?_
    rw [rounds_succ]
    go_wp2
    go_ret
    exact ⟨by simp, ⟨by simpa [marksI] using HV1.out, HV2.out⟩, World.grownBy.refl _ _⟩
  · unfold maxLen at hm
    clear hv1 hv2
    go_enter Tryz.func125, Tryz.ntmps125
    go_wp2
    go_loopw [1, 5] (fun m i wr => ∃ (j : Nat) (xs : List Value), j ≤ n ∧ i = .int .i64 j ∧ m = .int .i64 ((k0 : Int) + (j : Int)) ∧ wr.ownsRow lo 3 1 (.slice (some ⟨g, 0, none⟩) n cap) n xs ∧ Upto .i64 (marksI k0 n) j xs ∧ w.grownBy wr (some g))
      (fun _ i _ => n - (intOf i).toNat)
    case atStart => exact ⟨0, _, Nat.zero_le _, rfl, by simp, HV1.out, Upto.zero _ _ _, World.grownBy.refl _ _⟩
    case round =>
      obtain ⟨j, xs, hj, rfl, rfl, hown, hup, hgr⟩ := hrel
      have HO := Lib.hid hown; have HU := Lib.hid hup; have HG := Lib.hid hgr
      clear hown hup hgr
      by_cases hlt : (j : Int) < (n : Int)
      · have c2 : wr.cell? ⟨g, j, none⟩ = xs[j]? := HO.out.cellAt j (by omega)
        have hxl : xs.length = n := by have := HO.out.1; omega
        obtain ⟨u, hu⟩ : ∃ u, xs[j]? = some u := ⟨_, List.getElem?_eq_getElem (by omega)⟩
        rw [hu] at c2
        have f2 : wr.frozen? ⟨g, j, none⟩ = false := HO.out.frozenAt j
        clear hu
        go_wp2
        go_roundw
        case rel =>
          have hu := HU.out.set (show j < xs.length by omega)
          rw [marksI_at (by omega)] at hu
          exact ⟨j + 1, _, by omega, by go_num, by go_num, (HO.out.stored j _).1, hu, grown_trans HG.out (HO.out.stored j _).2⟩
        case measure => simp [intOf]; omega
      · have hjn : j = n := by omega
        subst hjn
        go_wp2
        go_ret
        refine ⟨rfl, ⟨?_, HV2.out⟩, HG.out⟩
        have h1 := HO.out
        rw [HU.out.full (by have := h1.1; omega) (marksI_len _ _)] at h1
        rw [marksI_len]; exact h1

set_option maxHeartbeats 1000000 in
theorem held64_any (v : Value) (hi n : Nat) (k0 : Nat) (q : Int) (hq : q = k0) (w : World) (hv : Reads .i64 hi w v (marksI k0 n)) (hk : (k0 : Int) + (n : Int) ≤ 4611686018427387904) :
    Calls Tryz.prog 128 #[v, .int .i64 q] w fun e w' => e = .returned (.int .i64 ((k0 : Int) + (n : Int))) ∧ Same w w' := by
  subst hq
  obtain ⟨a, cap, rfl, hc1, hc2, _, hcells⟩ := hv
  rw [marksI_len] at hc1 hcells ⊢
  have HC := Lib.hid hcells; clear hcells
  go_enter Tryz.func128, Tryz.ntmps128
  go_wp2
  go_loopw [1, 5] (fun m i wr => ∃ (j : Nat), j ≤ n ∧ i = .int .i64 j ∧ m = .int .i64 ((k0 : Int) + (j : Int)) ∧ Same w wr)
    (fun _ i _ => n - (intOf i).toNat)
  case atStart => exact ⟨0, Nat.zero_le _, rfl, by simp, Same.refl _⟩
  case round =>
    obtain ⟨j, hj, rfl, rfl, hs⟩ := hrel
    have HS := Lib.hid hs
    clear hs
    by_cases hlt : (j : Int) < (n : Int)
    · rcases HC.out with h0 | ⟨g, off, rfl, hg, hcells⟩
      · omega
      · have c1 : wr.cell? ⟨g, off + j, none⟩ = some (.int .i64 ((k0 : Int) + (j : Int))) := by rw [HS.out.cell, hcells j (by omega), marksI_at (by omega)]
        clear hcells
        go_wp2
        go_roundw
        case rel => exact ⟨j + 1, by omega, by go_num, by go_num, HS.out.trans ⟨rfl, rfl, rfl, rfl⟩⟩
        case measure => simp [intOf]; omega
    · have hjn : j = n := by omega
      subst hjn
      go_wp2
      go_ret
      exact ⟨rfl, HS.out⟩

end Go.Proofs.YtkjjiinccljhjaaGreatDoor
namespace Go.Proofs.YtkjjiinccljhjaaGreatDoor
open Go.ChangeShapes Go.WideShapes Go.ChangeAt Go.RowKit

theorem own_top {lo hi : Nat} {w : World} : ∀ (x : Rw), x.OwnR lo hi w → x.OwnR lo w.heap.size w := by
  refine Rw.ind (fun v h => ?_) (fun v n k e cs ih h => ?_)
  · rw [Rw.OwnR] at h ⊢; exact h
  · rw [Rw.OwnR] at h ⊢
    exact ⟨⟨h.1.1, fun g hg => (h.1.1.lt g hg).2⟩, ownRL_iff.2 fun c hc => ih c hc (ownRL_iff.1 h.2 c hc)⟩
theorem Rw.OwnR.top {lo hi : Nat} {w : World} {x : Rw} (h : x.OwnR lo hi w) : x.OwnR lo w.heap.size w := own_top x h
theorem sl_form {x : Rw} {hi : Nat} {w : World} (hx : ∃ v n k e cs, x = .sl v n k e cs) (h : x.ReadR hi w) : ∃ a n c, x.cell = .slice a n c := by
  obtain ⟨v, n, k, e, cs, rfl⟩ := hx
  rw [Rw.ReadR] at h
  obtain ⟨⟨a, cap, rfl, _⟩, _⟩ := h
  exact ⟨a, n, cap, rfl⟩
theorem is_sl_mark {x : Rw} (hx : ∃ v n k e cs, x = .sl v n k e cs) (q : Nat) : ∃ v n k e cs, x.mark q = .sl v n k e cs := by
  obtain ⟨v, n, k, e, cs, rfl⟩ := hx
  exact ⟨v, n, k, e, markL cs q, by rw [mark_cell_sl]⟩
theorem weightL_mem : ∀ {cs : List Rw} {c : Rw}, c ∈ cs → c.weight ≤ weightL cs
  | [], c, h => by cases h
  | d :: cs, c, h => by
    rw [weightL]
    rcases List.mem_cons.1 h with e | h2
    · rw [e]; omega
    · have := weightL_mem h2; omega
/-- A cell that holds a plain value takes an own slice (or another plain value). -/
theorem Rw.OwnR.put {lo hi g n k cap m : Nat} {e : TypeId} {w : World} {cs : List Rw} {u : Value} {y : Rw} (h : (Rw.sl (.slice (some ⟨g, 0, none⟩) n cap) n k e cs).OwnR lo hi w) (hn : g ∉ blocksL cs) (hm : cs[m]? = some (.leaf u)) (hy : y.OwnR lo hi w) (hg : g ∉ y.blocks) :
    (Rw.sl (.slice (some ⟨g, 0, none⟩) n cap) n k e (cs.set m y)).OwnR lo hi (w.setCell ⟨g, m, none⟩ y.cell) ∧ OnlyB [g] w (w.setCell ⟨g, m, none⟩ y.cell) ∧ (∀ b, b ∈ blocksL (cs.set m y) ↔ b ∈ y.blocks ∨ b ∈ blocksL cs) ∧
      ((blocksL cs).Nodup → y.blocks.Nodup → (∀ b ∈ y.blocks, b ∉ blocksL cs) → (blocksL (cs.set m y)).Nodup) := by
  have hml : m < cs.length := (List.getElem?_eq_some_iff.1 hm).1
  rw [Rw.OwnR] at h
  have hst := h.1.1.stored m y.cell
  have hon : OnlyB [g] w (w.setCell ⟨g, m, none⟩ y.cell) := OnlyB.of_grown hst.2
  have e1 : cs = cs.take m ++ .leaf u :: cs.drop (m + 1) := by
    conv => lhs; rw [← List.take_append_drop m cs, List.drop_eq_getElem_cons hml]
    rw [show cs[m] = .leaf u from Option.some.inj ((List.getElem?_eq_getElem hml).symm.trans hm)]
  have e2 : cs.set m y = cs.take m ++ y :: cs.drop (m + 1) := List.set_eq_take_append_cons_drop.trans (if_pos hml)
  have b1 : blocksL cs = blocksL (cs.take m) ++ blocksL (cs.drop (m + 1)) := by
    conv => lhs; rw [e1, blocksL_append, blocksL, Rw.blocks]
    rfl
  have b2 : blocksL (cs.set m y) = blocksL (cs.take m) ++ (y.blocks ++ blocksL (cs.drop (m + 1))) := by rw [e2, blocksL_append, blocksL]
  refine ⟨?_, hon, fun b => ?_, fun hd hyd hdis => ?_⟩
  · rw [Rw.OwnR]
    refine ⟨⟨by rw [List.map_set]; exact hst.1, h.1.2⟩, ownRL_iff.2 fun c hc => ?_⟩
    rcases List.mem_or_eq_of_mem_set hc with h1 | h1
    · refine Rw.OwnR.only hon c (ownRL_iff.1 h.2 c h1) fun b hb hbg => ?_
      rw [List.mem_singleton] at hbg
      subst hbg
      exact hn (blocksL_mem.2 ⟨c, h1, hb⟩)
    · rw [h1]
      refine Rw.OwnR.only hon y hy fun b hb hbg => ?_
      rw [List.mem_singleton] at hbg
      subst hbg
      exact hg hb
  · rw [b2, b1]; simp only [List.mem_append]; constructor
    · rintro (h | h | h)
      · exact Or.inr (Or.inl h)
      · exact Or.inl h
      · exact Or.inr (Or.inr h)
    · rintro (h | h | h)
      · exact Or.inr (Or.inl h)
      · exact Or.inl h
      · exact Or.inr (Or.inr h)
  · rw [b2]
    rw [b1] at hd hdis
    have hA := List.nodup_append.1 hd
    refine List.nodup_append.2 ⟨hA.1, List.nodup_append.2 ⟨hyd, hA.2.1, fun a ha b hb e => ?_⟩, fun a ha b hb e => ?_⟩
    · subst e; exact hdis a ha (List.mem_append.2 (Or.inr hb))
    · subst e
      rcases List.mem_append.1 hb with hb | hb
      · exact hdis a hb (List.mem_append.2 (Or.inl ha))
      · exact hA.2.2 a ha a hb rfl

theorem made_one {z : Array Value} (h : ∀ u ∈ z, u.oneCell' = true) (hz : 0 < z.size) (n : Nat) : ∀ u ∈ (madeCells z n).toList, u.oneCell' = true := by
  intro u hu
  unfold madeCells at hu
  simp only [Array.toList_map, List.mem_map] at hu
  obtain ⟨i, _, rfl⟩ := hu
  have hi : i % z.size < z.size := Nat.mod_lt _ hz
  rw [getElem!_pos z (i % z.size) hi]
  exact h _ (Array.getElem_mem hi)
theorem leaves_blocks (us : List Value) : blocksL (us.map Rw.leaf) = [] := blocksL_nil fun c hc => by
  obtain ⟨u, _, rfl⟩ := List.mem_map.1 hc
  rw [Rw.blocks]
theorem leaves_own {lo k n : Nat} {e : TypeId} {w : World} {v : Value} {us : List Value} (h : w.ownsRow lo e k v n us) (h1 : ∀ u ∈ us, u.oneCell' = true) : (Rw.sl v n k e (us.map Rw.leaf)).OwnR lo w.heap.size w := by
  rw [Rw.OwnR]
  refine ⟨⟨?_, fun g hg => (h.lt g hg).2⟩, ownRL_iff.2 fun c hc => ?_⟩
  · rw [List.map_map, show (Rw.cell ∘ Rw.leaf) = (id : Value → Value) from rfl, List.map_id]; exact h
  · obtain ⟨u, hu, rfl⟩ := List.mem_map.1 hc
    rw [Rw.OwnR]; exact h1 u hu
theorem dataL_ext {cs ds : List Rw} (hl : cs.length = ds.length) (h : ∀ (m : Nat) (c d : Rw), cs[m]? = some c → ds[m]? = some d → c.data = d.data) : dataL cs = dataL ds := by
  apply List.ext_getElem?
  intro m
  rw [dataL_at, dataL_at]
  by_cases hm : m < cs.length
  · rw [List.getElem?_eq_getElem hm, List.getElem?_eq_getElem (hl ▸ hm)]
    show some _ = some _
    rw [h m _ _ (List.getElem?_eq_getElem hm) (List.getElem?_eq_getElem (hl ▸ hm))]
  · rw [List.getElem?_eq_none (by omega), List.getElem?_eq_none (by omega)]

theorem ownL_only {lo hi : Nat} {w w' : World} {bs : List Nat} {L : List Rw} (h : OwnRL lo hi w L) (hb : OnlyB bs w w') (hd : ∀ b ∈ blocksL L, b ∉ bs) : OwnRL lo hi w' L :=
  ownRL_iff.2 fun c hc => Rw.OwnR.only hb c (ownRL_iff.1 h c hc) fun b hbc => hd b (blocksL_mem.2 ⟨c, hc, hbc⟩)
theorem ownL_later {lo hi : Nat} {w w' : World} {L : List Rw} (h : OwnRL lo hi w L) (hb : Below w.heap.size w w') : OwnRL lo hi w' L :=
  ownL_only h (OnlyB.of_below hb []) fun _ _ hm => by cases hm
theorem ownL_lt {lo hi : Nat} {w : World} {L : List Rw} (h : OwnRL lo hi w L) : ∀ b ∈ blocksL L, lo ≤ b ∧ b < hi ∧ b < w.heap.size := by
  intro b hb
  obtain ⟨c, hc, hbc⟩ := blocksL_mem.1 hb
  exact Rw.OwnR.lt c (ownRL_iff.1 h c hc) b hbc
theorem ownL_mono {lo hi lo' hi' : Nat} {w : World} {L : List Rw} (h : OwnRL lo hi w L) (hl : lo' ≤ lo) (hh : hi ≤ hi') : OwnRL lo' hi' w L :=
  ownRL_iff.2 fun c hc => Rw.OwnR.mono hl hh c (ownRL_iff.1 h c hc)
theorem ownL_reads {lo hi : Nat} {w : World} {L : List Rw} (h : OwnRL lo hi w L) : ReadRL hi w L := readRL_iff.2 fun c hc => Rw.OwnR.reads c (ownRL_iff.1 h c hc)
theorem ownL_read {lo hi hi' : Nat} {w : World} {L : List Rw} (h : OwnRL lo hi w L) (hh : hi ≤ hi') : ReadRL hi' w L := readRL_iff.2 fun c hc => Rw.ReadR.mono hh c (Rw.OwnR.reads c (ownRL_iff.1 h c hc))
theorem ownL_apart {lo hi lo' hi' : Nat} {w w' : World} {L M : List Rw} (h : OwnRL lo hi w L) (hy : OwnRL lo' hi' w M) (hh : hi ≤ lo' ∨ hi' ≤ lo) (ho : OnlyB (blocksL M) w w') : OwnRL lo hi w' L :=
  ownL_only h ho fun b hb hby => by
    have h1 := ownL_lt h b hb
    have h2 := ownL_lt hy b hby
    omega
theorem ownL_back {lo hi : Nat} {w0 w w' : World} {M : List Rw} (hb : Below lo w0 w) (hy : OwnRL lo hi w M) (hl : lo ≤ w.heap.size) (ho : OnlyB (blocksL M) w w') : Below lo w0 w' :=
  hb.trans (ho.below (fun b hbm => (ownL_lt hy b hbm).1) hl)
theorem own_mono_L {lo hi lo' : Nat} {w : World} {L : List Rw} (h : OwnRL lo hi w L) (hl : lo' ≤ lo) : OwnRL lo' w.heap.size w L :=
  ownRL_iff.2 fun c hc => Rw.OwnR.top (Rw.OwnR.mono hl (Nat.le_refl _) c (ownRL_iff.1 h c hc))
theorem own_mono {x : Rw} {lo hi lo' hi' : Nat} {w : World} (h : x.OwnR lo hi w) (hl : lo' ≤ lo) (hh : hi ≤ hi') : x.OwnR lo' hi' w := Rw.OwnR.mono hl hh x h
theorem nodup_in : ∀ {L : List Rw} {c : Rw}, (blocksL L).Nodup → c ∈ L → c.blocks.Nodup
  | [], c, _, h => by cases h
  | d :: L, c, hn, h => by
    rw [blocksL] at hn
    rcases List.mem_cons.1 h with e | h2
    · rw [e]; exact (List.nodup_append.1 hn).1
    · exact nodup_in (List.nodup_append.1 hn).2.1 h2
theorem nodup_apart : ∀ {L : List Rw} {a b : Rw} {i j : Nat}, (blocksL L).Nodup → L[i]? = some a → L[j]? = some b → i ≠ j → ∀ x ∈ a.blocks, x ∉ b.blocks
  | [], _, _, _, _, _, h, _, _ => by simp at h
  | c :: L, a, b, 0, 0, _, _, _, h => absurd rfl h
  | c :: L, a, b, 0, j + 1, hn, ha, hb, _ => fun x hx hy => by
    rw [blocksL] at hn
    have e : c = a := by simpa using ha
    subst e
    exact (List.nodup_append.1 hn).2.2 x hx x (blocksL_mem.2 ⟨b, List.mem_of_getElem? (by simpa using hb), hy⟩) rfl
  | c :: L, a, b, i + 1, 0, hn, ha, hb, _ => fun x hx hy => by
    rw [blocksL] at hn
    have e : c = b := by simpa using hb
    subst e
    exact (List.nodup_append.1 hn).2.2 x hy x (blocksL_mem.2 ⟨a, List.mem_of_getElem? (by simpa using ha), hx⟩) rfl
  | c :: L, a, b, i + 1, j + 1, hn, ha, hb, h => by
    rw [blocksL] at hn
    exact nodup_apart (List.nodup_append.1 hn).2.1 (by simpa using ha) (by simpa using hb) (fun e => h (by rw [e]))
theorem cell_only {bs : List Nat} {w w' : World} {a : Addr} (h : OnlyB bs w w') (hn : a.block ∉ bs) (hl : a.block < w.heap.size) : w'.cell? a = w.cell? a := World.cell?_of_block (h.block _ hl hn)
theorem ownL_top {lo hi : Nat} {w : World} {L : List Rw} (h : OwnRL lo hi w L) : OwnRL lo w.heap.size w L := ownRL_iff.2 fun c hc => Rw.OwnR.top (ownRL_iff.1 h c hc)
theorem ownL_one {lo hi : Nat} {w : World} {a : Rw} : OwnRL lo hi w [a] ↔ a.OwnR lo hi w := by rw [ownRL_iff]; simp
theorem ownL_two {lo hi : Nat} {w : World} {a b : Rw} : OwnRL lo hi w [a, b] ↔ a.OwnR lo hi w ∧ b.OwnR lo hi w := by rw [ownRL_iff]; simp
theorem rd_of {lo hi : Nat} {w : World} {x : Rw} (h : x.OwnR lo hi w) : x.ReadR w.heap.size w := Rw.OwnR.reads _ h.top
theorem rdL1 {lo hi : Nat} {w : World} {a b : Rw} (h : OwnRL lo hi w [a, b]) : a.ReadR w.heap.size w := rd_of (ownL_two.1 h).1
theorem rdL2 {lo hi : Nat} {w : World} {a b : Rw} (h : OwnRL lo hi w [a, b]) : b.ReadR w.heap.size w := rd_of (ownL_two.1 h).2

theorem OnlyB.set {bs : List Nat} {w w' : World} {b o : Nat} {u : Value} (h : OnlyB bs w w') (hb : b ∈ bs) : OnlyB bs w (w'.setCell ⟨b, o, none⟩ u) :=
  ⟨h.os, h.tape, h.output, Nat.le_trans h.size (by simp [World.setCell]), fun i hi hn => by
    rw [Below.heap_setCell _ _ _ _ (show i ≠ b from fun e => hn (e ▸ hb))]; exact h.block i hi hn⟩
theorem size_alloc (w : World) (o : Obj) : (w.alloc o).heap.size = w.heap.size + 1 := by show (w.heap.push o).size = _; simp
theorem size_set (w : World) (a : Addr) (u : Value) : w.heap.size ≤ (w.setCell a u).heap.size := by simp [World.setCell]
theorem heap_lt {w : World} {b : Nat} {o : Obj} (h : w.heap[b]? = some o) : b < w.heap.size := (Array.getElem?_eq_some_iff.1 h).1
theorem below_heap {B b : Nat} {w w' : World} {o : Obj} (h : Below B w w') (hb : b < B) (hw : w.heap[b]? = some o) : w'.heap[b]? = some o := by rw [h.block b hb]; exact hw
theorem heap_one {w : World} {b o : Nat} {cs : Array Value} {T : TypeId} (h : w.heap[b]? = some (.cells cs T (0, 0))) (u : Value) : (w.setCell ⟨b, o, none⟩ u).heap[b]? = some (.cells (cs.setIfInBounds o u) T (0, 0)) := heap_setCell_same w b o cs T u h
theorem box_cell {w : World} {b j : Nat} {cs : Array Value} {T : TypeId} {u : Value} (h : w.heap[b]? = some (.cells cs T (0, 0))) (hj : cs[j]? = some u) : w.cell? ⟨b, j, none⟩ = some u := by
  unfold World.cell?; rw [h]; exact hj
theorem box_frz {w : World} {b : Nat} {cs : Array Value} {T : TypeId} (h : w.heap[b]? = some (.cells cs T (0, 0))) (j : Nat) : w.frozen? ⟨b, j, none⟩ = false := by
  unfold World.frozen?; rw [h]; simp
theorem box_far {w : World} {b c : Nat} {o : Obj} (h : w.heap[b]? = some o) (hne : b ≠ c) (j : Nat) (u : Value) : (w.setCell ⟨c, j, none⟩ u).heap[b]? = some o := by
  rw [Below.heap_setCell _ _ _ _ hne]; exact h
theorem three_new0 (w : World) (o0 o1 o2 : Obj) : (((w.alloc o0).alloc o1).alloc o2).heap[w.heap.size]? = some o0 := by
  rw [Below.heap_alloc _ _ _ (by rw [size_alloc, size_alloc]; omega), Below.heap_alloc _ _ _ (by rw [size_alloc]; omega)]
  exact heap_alloc_new w _
theorem three_new1 (w : World) (o0 o1 o2 : Obj) : (((w.alloc o0).alloc o1).alloc o2).heap[w.heap.size + 1]? = some o1 := by
  rw [Below.heap_alloc _ _ _ (by rw [size_alloc, size_alloc]; omega)]
  have h := heap_alloc_new (w.alloc o0) o1
  rw [size_alloc] at h
  exact h
theorem three_new2 (w : World) (o0 o1 o2 : Obj) : (((w.alloc o0).alloc o1).alloc o2).heap[w.heap.size + 2]? = some o2 := by
  have h := heap_alloc_new ((w.alloc o0).alloc o1) o2
  rw [size_alloc, size_alloc] at h
  exact h

/-- A slice of integers. -/
def intCells (zs : List Int) : List Rw := zs.map fun z => .leaf (.int .i64 z)
def rwI (v : Value) (zs : List Int) : Rw := .sl v zs.length 1 3 (intCells zs)
def IsIntS (x : Rw) : Prop := ∃ v zs, x = rwI v zs
theorem rwI_is (v : Value) (zs : List Int) : IsIntS (rwI v zs) := ⟨v, zs, rfl⟩
theorem is_sl_IntS {x : Rw} (h : IsIntS x) : ∃ v n k e cs, x = .sl v n k e cs := by
  obtain ⟨v, zs, rfl⟩ := h
  exact ⟨v, _, _, _, _, rfl⟩
theorem intCells_map (zs : List Int) : (intCells zs).map Rw.cell = zs.map (.int .i64) := by
  unfold intCells; rw [List.map_map]; rfl
theorem intCells_len (zs : List Int) : (intCells zs).length = zs.length := by unfold intCells; rw [List.length_map]
theorem intCells_leaf {zs : List Int} {c : Rw} (h : c ∈ intCells zs) : ∃ z, c = .leaf (.int .i64 z) := by
  obtain ⟨z, _, rfl⟩ := List.mem_map.1 h
  exact ⟨z, rfl⟩
theorem intCells_blocks (zs : List Int) : blocksL (intCells zs) = [] := blocksL_nil fun c hc => by
  obtain ⟨z, rfl⟩ := intCells_leaf hc
  rw [Rw.blocks]
theorem intCells_count : ∀ zs : List Int, countL (intCells zs) = zs.length
  | [] => rfl
  | z :: zs => by
    have := intCells_count zs
    unfold intCells at this ⊢
    rw [List.map_cons, countL, Rw.count, this, List.length_cons]; omega
theorem intCells_weight : ∀ zs : List Int, weightL (intCells zs) = 0
  | [] => rfl
  | z :: zs => by
    have := intCells_weight zs
    unfold intCells at this ⊢
    rw [List.map_cons, weightL, Rw.weight, this]; rfl
theorem marksI_cons (k n : Nat) : marksI k (n + 1) = (k : Int) :: marksI (k + 1) n := by
  unfold marksI
  rw [List.range_succ_eq_map, List.map_cons, List.map_map]
  congr 1
  apply List.map_congr_left
  intro i _
  show ((k + (i + 1) : Nat) : Int) = ((k + 1 + i : Nat) : Int)
  congr 1; omega
theorem intCells_mark : ∀ (zs : List Int) (q : Nat), markL (intCells zs) q = intCells (marksI q zs.length)
  | [], q => by rw [List.length_nil]; rfl
  | z :: zs, q => by
    have := intCells_mark zs (q + 1)
    rw [List.length_cons, marksI_cons]
    unfold intCells at this ⊢
    rw [List.map_cons, List.map_cons, markL, mark_leaf, Rw.count, this]; rfl
theorem rwI_blocks (v : Value) (zs : List Int) : (rwI v zs).blocks = v.ownBlock.toList := by rw [rwI, Rw.blocks, intCells_blocks, List.append_nil]
theorem rwI_count (v : Value) (zs : List Int) : (rwI v zs).count = zs.length := by rw [rwI, Rw.count, intCells_count]
theorem rwI_weight (v : Value) (zs : List Int) : (rwI v zs).weight = zs.length := by rw [rwI, Rw.weight, intCells_weight]; rfl
theorem rwI_mark (v : Value) (zs : List Int) (q : Nat) : (rwI v zs).mark q = rwI v (marksI q zs.length) := by
  rw [rwI, mark_cell_sl, intCells_mark, rwI, marksI_len]
theorem rwI_own {lo hi : Nat} {w : World} {v : Value} {zs : List Int} : (rwI v zs).OwnR lo hi w ↔ Own .i64 3 lo hi w v zs := by
  rw [rwI, Rw.OwnR, intCells_map]
  constructor
  · intro h; exact h.1
  · intro h; exact ⟨h, ownRL_iff.2 fun c hc => by obtain ⟨z, rfl⟩ := intCells_leaf hc; rw [Rw.OwnR]; rfl⟩
theorem rwI_reads {hi : Nat} {w : World} {v : Value} {zs : List Int} : (rwI v zs).ReadR hi w ↔ Reads .i64 hi w v zs := by
  rw [rwI, Rw.ReadR, intCells_map]
  constructor
  · rintro ⟨⟨a, cap, rfl, _, h2, h3, h4, h5⟩, _⟩
    refine ⟨a, cap, rfl, h2, h3, h4, ?_⟩
    rcases h5 with h5 | ⟨g, off, e2, hg, hc⟩
    · exact Or.inl h5
    · exact Or.inr ⟨g, off, e2, hg, fun j hj => hc j _ (by rw [List.getElem?_map, getD_at hj]; rfl)⟩
  · rintro ⟨a, cap, rfl, h2, h3, h4, h5⟩
    refine ⟨⟨a, cap, rfl, by rw [intCells_len, Nat.mul_one], h2, h3, h4, ?_⟩, readRL_iff.2 fun c hc => by obtain ⟨z, rfl⟩ := intCells_leaf hc; rw [Rw.ReadR]; rfl⟩
    rcases h5 with h5 | ⟨g, off, e2, hg, hc⟩
    · exact Or.inl h5
    · refine Or.inr ⟨g, off, e2, hg, fun j c hj => ?_⟩
      have hjl : j < zs.length := by have := (List.getElem?_eq_some_iff.1 hj).1; simpa using this
      rw [List.getElem?_map, getD_at hjl] at hj
      cases hj
      exact hc j hjl
theorem intCells_inj {zs ys : List Int} (h : dataL (intCells zs) = dataL (intCells ys)) : zs = ys := by
  induction zs generalizing ys with
  | nil =>
    cases ys with
    | nil => rfl
    | cons y ys => unfold intCells at h; rw [List.map_nil, List.map_cons, dataL, dataL] at h; cases h
  | cons z zs ih =>
    cases ys with
    | nil => unfold intCells at h; rw [List.map_nil, List.map_cons, dataL, dataL] at h; cases h
    | cons y ys =>
      unfold intCells at h
      rw [List.map_cons, List.map_cons, dataL, dataL] at h
      obtain ⟨h1, h2⟩ := List.cons.inj h
      rw [Rw.data, Rw.data] at h1
      injection h1 with h3
      injection h3 with _ h4
      rw [h4, ih h2]
theorem rwI_data {v u : Value} {zs ys : List Int} : (rwI v zs).data = (rwI u ys).data ↔ zs = ys := by
  rw [rwI, rwI, Rw.data, Rw.data]
  constructor
  · intro h; exact intCells_inj (Dt.sl.inj h).2
  · intro h; rw [h]

set_option maxHeartbeats 1000000 in
theorem eq64_anyG (v u : Value) (hi hi' : Nat) (zs : List Int) (w : World) (hv : Reads .i64 hi w v zs) (hu : Reads .i64 hi' w u zs) :
    Calls Tryz.prog 122 #[v, u] w fun e w' => e = .returned (.bool true) ∧ Grw w w' := by
  obtain ⟨a, cap, rfl, hc1, hc2, _, hcells⟩ := hv
  obtain ⟨a', cap', rfl, hc1', hc2', _, hcells'⟩ := hu
  have HC := Lib.hid hcells; have HC' := Lib.hid hcells'; clear hcells hcells'
  obtain ⟨n, hn⟩ : ∃ n, zs.length = n := ⟨_, rfl⟩
  rw [hn] at hc1 hc1' HC HC' ⊢
  have HN := Lib.hid hn; clear hn
  go_enter Tryz.func122, Tryz.ntmps122
  go_wp2
  go_loopw [5] (fun i wr => ∃ (k : Nat), k ≤ n ∧ i = .int .i64 k ∧ Same w wr ∧ Grw w wr)
    (fun i _ => n - (intOf i).toNat)
  case atStart => exact ⟨0, Nat.zero_le _, rfl, Same.refl _, Grw.refl _⟩
  case round =>
    obtain ⟨k, hk, rfl, hs, hg⟩ := hrel
    have HS := Lib.hid hs; have HG := Lib.hid hg
    clear hs hg
    by_cases hlt : (k : Int) < (n : Int)
    · rcases HC.out with h0 | ⟨g, off, rfl, hg, hcells⟩
      · omega
      · rcases HC'.out with h0 | ⟨g', off', rfl, hg', hcells'⟩
        · omega
        · have c1 : wr.cell? ⟨g, off + k, none⟩ = some (.int .i64 (zs.getD k 0)) := by rw [HS.out.cell]; exact hcells k (by omega)
          have c2 : wr.cell? ⟨g', off' + k, none⟩ = some (.int .i64 (zs.getD k 0)) := by rw [HS.out.cell]; exact hcells' k (by omega)
          obtain ⟨z, hz⟩ : ∃ z, zs.getD k 0 = z := ⟨_, rfl⟩
          rw [hz] at c1 c2
          clear hcells hcells' hz
          go_wp2
          go_quiet (fail)
          go_wp2
          go_roundw
          case rel => exact ⟨k + 1, by omega, by go_num, HS.out.trans ⟨rfl, rfl, rfl, rfl⟩, HG.out.drewN _⟩
          case measure => simp [intOf]; omega
    · have hkn : decide ((k : Int) < (n : Int)) = false := decide_eq_false hlt
      go_wp2
      go_ret
      exact ⟨rfl, HG.out⟩

set_option maxHeartbeats 1000000 in
theorem held64_anyG (v : Value) (hi n : Nat) (k0 : Nat) (q : Int) (hq : q = k0) (w : World) (hv : Reads .i64 hi w v (marksI k0 n)) (hk : (k0 : Int) + (n : Int) ≤ 4611686018427387904) :
    Calls Tryz.prog 128 #[v, .int .i64 q] w fun e w' => e = .returned (.int .i64 ((k0 : Int) + (n : Int))) ∧ Grw w w' := by
  subst hq
  obtain ⟨a, cap, rfl, hc1, hc2, _, hcells⟩ := hv
  rw [marksI_len] at hc1 hcells ⊢
  have HC := Lib.hid hcells; clear hcells
  go_enter Tryz.func128, Tryz.ntmps128
  go_wp2
  go_loopw [1, 5] (fun m i wr => ∃ (j : Nat), j ≤ n ∧ i = .int .i64 j ∧ m = .int .i64 ((k0 : Int) + (j : Int)) ∧ Grw w wr)
    (fun _ i _ => n - (intOf i).toNat)
  case atStart => exact ⟨0, Nat.zero_le _, rfl, by simp, Grw.refl _⟩
  case round =>
    obtain ⟨j, hj, rfl, rfl, hs⟩ := hrel
    have HS := Lib.hid hs
    clear hs
    by_cases hlt : (j : Int) < (n : Int)
    · rcases HC.out with h0 | ⟨g, off, rfl, hg, hcells⟩
      · omega
      · rcases Nat.lt_or_ge g w.heap.size with hgw | hgw
        · have c1 : wr.cell? ⟨g, off + j, none⟩ = some (.int .i64 ((k0 : Int) + (j : Int))) := by rw [HS.out.below.cell hgw, hcells j (by omega), marksI_at (by omega)]
          clear hcells
          go_wp2
          go_roundw
          case rel => exact ⟨j + 1, by omega, by go_num, by go_num, HS.out⟩
          case measure => simp [intOf]; omega
        · exact absurd (World.block_lt_of_cell? w _ (hcells j (by omega))) (Nat.not_lt.2 hgw)
    · have hjn : j = n := by omega
      subst hjn
      go_wp2
      go_ret
      exact ⟨rfl, HS.out⟩

theorem to_IntS (x : Rw) (hx : IsIntS x) (w : World) (rx : x.ReadR w.heap.size w) (hl : x.weight ≤ 4398046511104) :
    Calls Tryz.prog 119 #[x.cell] w fun e w' => ∃ y : Rw, e = .returned y.cell ∧ IsIntS y ∧ y.data = x.data ∧ y.blocks.Nodup ∧ y.OwnR w.heap.size w'.heap.size w' ∧ Below w.heap.size w w' := by
  obtain ⟨v, zs, rfl⟩ := hx
  rw [rwI_weight] at hl
  refine (to64_any v w.heap.size zs w (rwI_reads.1 rx) (Nat.le_refl _) (by omega)).mono ?_
  rintro en w1 ⟨u, rfl, ho, hb⟩
  refine ⟨rwI u zs, rfl, rwI_is _ _, rwI_data.2 rfl, ?_, rwI_own.2 ⟨ho.1, fun g hg => (ho.1.lt g hg).2⟩, hb⟩
  rw [rwI_blocks]; cases u.ownBlock <;> simp

theorem eq_IntS (x y : Rw) (hx : IsIntS x) (hy : IsIntS y) (hd : x.data = y.data) (w : World) (rx : x.ReadR w.heap.size w) (ry : y.ReadR w.heap.size w) :
    Calls Tryz.prog 122 #[x.cell, y.cell] w fun e w' => e = .returned (.bool true) ∧ Grw w w' := by
  obtain ⟨v, zs, rfl⟩ := hx
  obtain ⟨v', zs', rfl⟩ := hy
  obtain rfl := rwI_data.1 hd
  refine (eq64_anyG v v' w.heap.size w.heap.size zs w (rwI_reads.1 rx) (rwI_reads.1 ry)).mono ?_
  rintro en w1 ⟨rfl, hs⟩
  exact ⟨rfl, hs⟩

theorem sz_IntS (x : Rw) (hx : IsIntS x) (left : Int) (l1 : 0 ≤ left) (l2 : left ≤ 1099511627776) (w : World) (rx : x.ReadR w.heap.size w) (hz : x.Small) :
    Calls Tryz.prog 116 #[x.cell, .int .i64 left] w fun e w' => ∃ r : Int, e = .returned (.int .i64 r) ∧ -1 ≤ r ∧ (0 ≤ r → r + (x.weight : Nat) = left) ∧ Grw w w' := by
  obtain ⟨v, zs, rfl⟩ := hx
  rw [rwI_weight]
  obtain ⟨a, cap, rfl, h2, h3, h4, h5⟩ := rwI_reads.1 rx
  clear rx hz h5
  rw [show (rwI (.slice a zs.length cap) zs).cell = .slice a zs.length cap from rfl]
  generalize zs.length = n at h2 ⊢
  by_cases c : left - (n : Int) < 0
  · go_enter Tryz.func116, Tryz.ntmps116
    go_wp2
    go_ret
    exact ⟨-1, rfl, by omega, by omega, Grw.refl _⟩
  · go_enter Tryz.func116, Tryz.ntmps116
    go_wp2
    go_ret
    exact ⟨left - (n : Int), rfl, by omega, by omega, Grw.refl _⟩

theorem mk_IntS (x : Rw) (hx : IsIntS x) (lo hi k0 : Nat) (q : Int) (hq : q = k0) (w : World) (ho : x.OwnR lo hi w) (hd : x.blocks.Nodup) (hk : k0 + x.count ≤ 4611686018427387904) :
    Calls Tryz.prog 125 #[x.cell, .int .i64 q] w fun e w' => e = .returned (.int .i64 ((k0 + x.count : Nat) : Int)) ∧ (x.mark k0).OwnR lo hi w' ∧ OnlyB x.blocks w w' := by
  obtain ⟨v, zs, rfl⟩ := hx
  rw [rwI_count] at hk ⊢
  rw [rwI_blocks, rwI_mark]
  have h := rwI_own.1 ho
  refine (mark64_any v lo hi zs k0 q hq w h (by omega)).mono ?_
  rintro en w1 ⟨rfl, h1, h2⟩
  refine ⟨by congr 2, rwI_own.2 h1, OnlyB.of_grown h2⟩

theorem hd_IntS (x : Rw) (hx : IsIntS x) (hi k0 : Nat) (q : Int) (hq : q = k0) (w : World) (hr : (x.mark k0).ReadR hi w) (_ : hi ≤ w.heap.size) (hk : k0 + x.count ≤ 4611686018427387904) :
    Calls Tryz.prog 128 #[x.cell, .int .i64 q] w fun e w' => e = .returned (.int .i64 ((k0 + x.count : Nat) : Int)) ∧ Grw w w' := by
  obtain ⟨v, zs, rfl⟩ := hx
  rw [rwI_count] at hk ⊢
  rw [rwI_mark] at hr
  refine (held64_anyG v hi zs.length k0 q hq w (rwI_reads.1 hr) (by omega)).mono ?_
  rintro en w1 ⟨rfl, h1⟩
  exact ⟨by congr 2, h1⟩

end Go.Proofs.YtkjjiinccljhjaaGreatDoor
