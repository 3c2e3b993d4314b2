/- Helper contracts over the functions with which the laws copy, compare, measure and mark slices, by program (deep.py). Asked: what lies in memory is as named. -/
import Derived.Test.YtkjjiinccljhjaaDpAttr
import Derived.Shelf.SlSortCmp.QuietGrown
namespace Go.Proofs.Ytkjjiinccljhjaa
open Go.ChangeShapes Go.WideShapes Go.ChangeAt Go.RowKit

/-- What a slice of this type holds. -/
def IsStringS (x : Rw) : Prop := ∃ v n e cs, x = .sl v n 1 e cs ∧ ∀ j, j < n → ∃ (a0 : ByteArray), cs[j]? = some (.leaf (.string a0))
theorem is_sl_StringS {x : Rw} (h : IsStringS x) : ∃ v n k e cs, x = .sl v n k e cs := by
  obtain ⟨v, n, e, cs, rfl, _⟩ := h
  exact ⟨v, n, _, e, cs, rfl⟩

set_option maxRecDepth 100000 in
set_option maxHeartbeats 4000000 in
theorem eq_StringS (x y : Rw) (hx : IsStringS x) (hy : IsStringS y) (hd : x.data = y.data) (w : World) (rx : x.ReadR w.heap.size w) (ry : y.ReadR w.heap.size w) :
    Calls Try.prog 37 #[x.cell, y.cell] w fun e w' => e = .returned (.bool true) ∧ Grw w w' := by
  obtain ⟨v, n, e0, cs, rfl, hrow⟩ := hx
  obtain ⟨v', n', e0', cs', rfl, hrow'⟩ := hy
  rw [Rw.data, Rw.data] at hd
  have hdd := (Dt.sl.inj hd).2; clear hd
  rw [Rw.ReadR] at rx ry
  rw [Rw.cell_sl, Rw.cell_sl]
  obtain ⟨⟨a, cap, rfl, hlen, hc1, hc2, _, hcells⟩, hin⟩ := rx
  obtain ⟨⟨a', cap', rfl, hlen', hc1', hc2', _, hcells'⟩, hin'⟩ := ry
  have hnn : n = n' := by have := congrArg List.length hdd; rw [dataL_len, dataL_len] at this; omega
  subst hnn
  have HROW := Lib.hid hrow; have HROW' := Lib.hid hrow'; have HD := Lib.hid hdd; have HC := Lib.hid hcells; have HC' := Lib.hid hcells'
  clear hrow hrow' hdd hcells hcells' hin hin' hlen hlen'
  go_enter Try.func37, Try.ntmps37
  go_wp2
  go_loopw [5] (fun i wr => ∃ (j : Nat), j ≤ n ∧ i = .int .i64 j ∧ Grw w wr)
    (fun i _ => n - (intOf i).toNat)
  case atStart => exact ⟨0, Nat.zero_le _, rfl, Grw.refl _⟩
  case round =>
    obtain ⟨j, hj, rfl, hs⟩ := hrel
    have HS := Lib.hid hs
    clear hs
    by_cases hlt : (j : Int) < (n : Int)
    · rcases HC.out with h0 | ⟨g, off, rfl, hg, hcells⟩
      · omega
      · rcases HC'.out with h0 | ⟨g', off', rfl, hg', hcells'⟩
        · omega
        · have HCL := Lib.hid hcells; have HCL' := Lib.hid hcells'; clear hcells hcells'
          obtain ⟨a0, f0⟩ := HROW.out j (by omega)
          obtain ⟨b0, f0'⟩ := HROW'.out j (by omega)
          have hd0 := data_same HD.out f0 f0'
          have hv0 := leaf_same hd0; obtain rfl : a0 = b0 := by cases hv0; rfl
          clear hd0 hv0
          have c0 : wr.cell? ⟨g, off + j, none⟩ = some (.string a0) := by rw [HS.out.below.cell (show g < _ by omega)]; exact HCL.out (j) _ (by rw [List.getElem?_map, f0]; rfl)
          have c0' : wr.cell? ⟨g', off' + j, none⟩ = some (.string a0) := by rw [HS.out.below.cell (show g' < _ by omega)]; exact HCL'.out (j) _ (by rw [List.getElem?_map, f0']; rfl)
          have e0 : (a0.toList == a0.toList) = true := beqL_yes rfl
          have e1 : (a0.toList != a0.toList) = false := by rw [bne, e0]; rfl
          clear f0 f0'
          go_wp2
          go_quiet (fail)
          go_wp2
          go_roundw
          case rel => exact ⟨j + 1, by omega, by go_num, HS.out.drewN _⟩
          case measure => simp [intOf]; omega
    · have hkn : decide ((j : Int) < (n : Int)) = false := decide_eq_false hlt
      go_wp2_with fail
      go_ret
      exact ⟨rfl, HS.out⟩

set_option maxRecDepth 100000 in
set_option maxHeartbeats 4000000 in
theorem sz_StringS (x : Rw) (hx : IsStringS x) (left : Int) (l1 : 0 ≤ left) (l2 : left ≤ 1099511627776) (w : World) (rx : x.ReadR w.heap.size w) (hz : x.Small) :
    Calls Try.prog 33 #[x.cell, .int .i64 left] w fun e w' => ∃ r : Int, e = .returned (.int .i64 r) ∧ -1 ≤ r ∧ (0 ≤ r → r + (x.weight : Nat) = left) ∧ Grw w w' := by
  obtain ⟨v, n, e0, cs, rfl, hrow⟩ := hx
  rw [Rw.ReadR] at rx; rw [Rw.Small] at hz; rw [Rw.cell_sl, Rw.weight]
  obtain ⟨⟨a, cap, rfl, hlen, hc1, hc2, _, hcells⟩, hin⟩ := rx
  have HROW := Lib.hid hrow; have HC := Lib.hid hcells; have HZ := Lib.hid (smallL_iff.1 hz); have HLEN := Lib.hid hlen
  clear hrow hcells hin hz hlen
  obtain ⟨wt, hwt⟩ : ∃ f : Nat → Nat, f = fun m => weightL (cs.take m) := ⟨_, rfl⟩
  have HWT := Lib.hid hwt; clear hwt
  by_cases h0 : left - n < 0
  · go_enter Try.func33, Try.ntmps33
    go_wp2
    go_ret
    exact ⟨-1, rfl, by omega, by omega, Grw.refl _⟩
  · go_enter Try.func33, Try.ntmps33
    go_wp2
    go_loopw [1, 5] (fun q i wr => ∃ (j : Nat) (r : Int), j ≤ n ∧ i = .int .i64 j ∧ q = .int .i64 r ∧ 0 ≤ r ∧ r + n + (wt j : Nat) = left ∧ Grw w wr)
      (fun _ i _ => n - (intOf i).toNat)
    case atStart => exact ⟨0, left - n, Nat.zero_le _, rfl, rfl, by omega, by rw [HWT.out]; (simp [weightL]; try omega), Grw.refl _⟩
    case round =>
      obtain ⟨j, r, hj, rfl, rfl, hr0, hr1, hs⟩ := hrel
      have HS := Lib.hid hs; have HR1 := Lib.hid hr1
      have hr2 : r ≤ 1099511627776 := by omega
      clear hs hr1
      by_cases hlt : (j : Int) < (n : Int)
      · rcases HC.out with hz0 | ⟨g, off, rfl, hg, hcells⟩
        · omega
        · have HCL := Lib.hid hcells; clear hcells
          obtain ⟨a0, f0⟩ := HROW.out j (by omega)
          have c0 : wr.cell? ⟨g, off + j, none⟩ = some (.string a0) := by rw [HS.out.below.cell (show g < _ by omega)]; exact HCL.out (j) _ (by rw [List.getElem?_map, f0]; rfl)
          have z0 : a0.size ≤ 9223372036854775807 := by have := HZ.out _ (List.mem_of_getElem? f0); rw [Rw.Small] at this; exact this
          have hw0 : weightL (cs.take (j + 1)) = weightL (cs.take j) + _ := weightL_more f0; rw [Rw.weight] at hw0; simp only [weightV] at hw0
          have HW := Lib.hid (show wt (j + 1) = wt j + (a0.size) by rw [HWT.out]; show weightL (cs.take (j + 1)) = weightL (cs.take j) + _; omega)
          clear hw0 f0
          by_cases hneg : r - (a0.size : Int) < 0
          · go_wp2_with fail
            go_ret
            exact ⟨-1, rfl, by omega, by omega, HS.out⟩
          · go_wp2_with fail
            go_roundw
            case rel => exact ⟨j + 1, r - (a0.size : Int), by omega, by go_num, by go_num, by omega, by rw [HW.out]; have := HR1.out; omega, HS.out⟩
            case measure => simp [intOf]; omega
      · have hjn : j = n := by omega
        subst hjn
        have HF := Lib.hid (show wt j = weightL cs by rw [HWT.out]; show weightL (cs.take j) = _; rw [List.take_of_length_le (by have := HLEN.out; omega)])
        go_wp2_with fail
        go_ret
        exact ⟨r, rfl, by omega, fun _ => by have := HF.out; have := HR1.out; omega, HS.out⟩

theorem info_StringS : (Try.prog.info? 9).map (fun i => (i.zero, i.size, i.bytes)) = some (some (.string ⟨#[]⟩), 1, 16) := by kernel_rfl

set_option maxRecDepth 100000 in
set_option maxHeartbeats 4000000 in
theorem to_StringS (x : Rw) (hx : IsStringS x) (w : World) (rx : x.ReadR w.heap.size w) (hl : x.weight ≤ 4398046511104) :
    Calls Try.prog 35 #[x.cell] w fun e w' => ∃ y : Rw, e = .returned y.cell ∧ IsStringS y ∧ y.data = x.data ∧ y.blocks.Nodup ∧ y.OwnR w.heap.size w'.heap.size w' ∧ Below w.heap.size w w' := by
  obtain ⟨i0, hi0, hz0, hz1, hz2⟩ := info_parts info_StringS
  obtain ⟨v, n, e0, cs, rfl, hrow⟩ := hx
  rw [Rw.ReadR] at rx; rw [Rw.weight] at hl; rw [Rw.cell_sl, Rw.data]
  obtain ⟨⟨a, cap, rfl, hlen, hc1, hc2, _, hcells⟩, hin⟩ := rx
  have hnl : n ≤ 4398046511104 := by omega
  have hall : ∀ c ∈ cs, c.blocks = [] ∧ c.cell.oneCell' = true ∧ c = .leaf c.cell := rows_all (K := 1) (by decide) hlen _ fun j hj t ht => by
    obtain ⟨a0, f0⟩ := hrow j hj
    obtain rfl : t = 0 := by omega
    exact ⟨_, by rw [Nat.mul_one]; exact f0, by rw [Rw.blocks], rfl, rfl⟩
  have HROW := Lib.hid hrow; have HC := Lib.hid hcells; have HLEN := Lib.hid hlen; have HI := Lib.hid hz2; have HALL := Lib.hid hall
  clear hrow hcells hin hlen hz2 hall hl
  go_enter Try.func35, Try.ntmps35
  go_wp2_with (at_make; refine wpList_make_full _ rfl _ _ 33 rfl w.heap.size 9 i0 (.string ⟨#[]⟩) 1 Try.underlying33 hi0 hz0 hz1 .i64 .i64 _ _ n rfl rfl rfl rfl ?c1 ?c2 (Nat.le_refl _) ?_)
  case c1 => rw [HI.out]; omega
  case c2 => unfold maxLen; omega
  intro w1 hown1 hgr1
  have hb1 : Below w.heap.size w w1 := (Below.refl _ _).grown hgr1 (Nat.le_refl _) (fun k h => by cases h)
  have HO1 := Lib.hid hown1; have HB1 := Lib.hid hb1; clear hown1 hgr1 hb1
  go_wp2
  go_loopw [4] (fun i wr => ∃ (j : Nat) (us : List Value), j ≤ n ∧ i = .int .i64 j ∧ wr.ownsRow w.heap.size 9 1 (.slice (some ⟨w.heap.size, 0, none⟩) n n) n us ∧ (∀ i, i < j → us[i]? = (cs.map Rw.cell)[i]?) ∧ Below w.heap.size w wr)
    (fun i _ => n - (intOf i).toNat)
  case atStart => exact ⟨0, _, Nat.zero_le _, rfl, HO1.out, fun i hi => by omega, HB1.out⟩
  case round =>
    obtain ⟨j, us, hj, rfl, hown, hup, hbw⟩ := hrel
    have HO := Lib.hid hown; have HU := Lib.hid hup; have HB := Lib.hid hbw
    clear hown hup hbw HO1 HB1
    by_cases hlt : (j : Int) < (n : Int)
    · rcases HC.out with h0 | ⟨g, off, rfl, hg, hcells⟩
      · omega
      · have HCL := Lib.hid hcells; clear hcells
        obtain ⟨a0, f0⟩ := HROW.out j (by omega)
        have c0 : wr.cell? ⟨g, off + j, none⟩ = some (.string a0) := by rw [HB.out.cell (show g < _ by omega)]; exact HCL.out (j) _ (by rw [List.getElem?_map, f0]; rfl)
        have HM0 := Lib.hid (show (cs.map Rw.cell)[j]? = some (.string a0) by rw [List.getElem?_map, f0]; rfl)
        clear f0
        have hxl : us.length = n * 1 := HO.out.1
        obtain ⟨u0, hu0⟩ : ∃ u, us[j]? = some u := ⟨_, List.getElem?_eq_getElem (by omega)⟩
        have d0 : wr.cell? ⟨w.heap.size, j, none⟩ = some u0 := by rw [HO.out.cellAt (j) (by omega)]; exact hu0
        have z0 : wr.frozen? ⟨w.heap.size, j, none⟩ = false := HO.out.frozenAt _
        have HX := Lib.hid hxl
        clear hu0 hxl
        go_wp2_with fail
        go_roundw
        case rel =>
          refine ⟨j + 1, _, by omega, by go_num, (HO.out.stored _ _).1, fun i hi => ?_, (HB.out.setCell (Nat.le_refl _) _)⟩
          have hxl := HX.out
          by_cases i0 : i = j
          · rw [i0, List.getElem?_set_self (by first | omega | (simp only [List.length_set]; omega))]; exact HM0.out.symm
          rw [List.getElem?_set_ne (by omega)]; exact HU.out i (by omega)
        case measure => simp [intOf]; omega
    · have hjn : j = n := by omega
      subst hjn
      have hus : us = cs.map Rw.cell := by
        apply List.ext_getElem?
        intro i
        by_cases hi : i < j
        · exact HU.out i hi
        · rw [List.getElem?_eq_none (by have := HO.out.1; omega), List.getElem?_eq_none (by rw [List.length_map]; have := HLEN.out; omega)]
      have HF := Lib.hid hus; clear hus
      have hbn := blocksL_nil fun c hc => (HALL.out c hc).1
      have HBN := Lib.hid hbn; clear hbn
      go_wp2
      go_ret
      refine ⟨.sl (.slice (some ⟨w.heap.size, 0, none⟩) j j) j 1 9 cs, rfl, ⟨_, _, _, _, rfl, HROW.out⟩, by rw [Rw.data], ?_, ?_, HB.out⟩
      · rw [Rw.blocks, HBN.out]; simp [Value.ownBlock]
      · rw [Rw.OwnR]
        refine ⟨⟨by rw [← HF.out]; exact HO.out, fun g hg => (HO.out.lt g hg).2⟩, ownRL_iff.2 fun c hc => ?_⟩
        obtain ⟨_, h2, h3⟩ := HALL.out c hc
        rw [h3, Rw.OwnR]; exact h2
end Go.Proofs.Ytkjjiinccljhjaa
