/- The walk of the law FnExactSortAddrs: it returns true, and writes nothing that was there. -/
import Derived.Test.YtojpbdhkcpfeaaaSortA
import Derived.Test.YtojpbdhkcpfeaaaMark
import Derived.Test.YtojpbdhkcpfeaaaRowA
namespace Go.Proofs.Ytojpbdhkcpfeaaa
open Go.ChangeShapes Go.WideShapes Go.ChangeAt Go.RowKit

set_option maxRecDepth 100000 in
set_option maxHeartbeats 4000000 in
theorem walkSortAddrs (a_l : Option Addr) (len_l cap_l : Nat) (xs_l : List Ad) (w : World) (r_l : IsAds w a_l len_l cap_l xs_l) :
    Calls Try.prog 9 #[.slice a_l len_l cap_l] w fun e w' => e = .returned (.bool true) ∧ Below w.heap.size w w' := by
  obtain ⟨rd_l, rl_l, ok_l⟩ := r_l
  have HA := Lib.hid rd_l; have HOK := Lib.hid (show ∀ x ∈ xs_l, x.1.size ≤ 9223372036854775807 ∧ x.2.size ≤ 9223372036854775807 from ok_l); have HL := Lib.hid rl_l; clear rd_l ok_l rl_l
  go_enter Try.func9, Try.ntmps9
  have HB := Lib.hid (Below.refl w.heap.size w)
  go_wp2_with fail
  refine (szS_any _ w.heap.size xs_l 1048576 _ (HA.out.below HB.out (Nat.le_refl _)) HB.out.size HOK.out (by omega) (by omega)).mono ?_
  rintro e w_1 ⟨r, rfl, lo_r, hi_r, hb⟩
  have hB := hb
  have HS1 := Lib.hid hB.size
  replace HB := Lib.hid (HB.out.trans (hB.mono HB.out.size))
  clear hB
  by_cases neg_r : r < 0
  · go_wp2_with fail
    go_ret
    exact ⟨rfl, HB.out⟩
  obtain ⟨hn_l, hs_l⟩ := hi_r (by omega)
  have HN := Lib.hid (show xs_l.length ≤ 1048576 by omega); clear hn_l hs_l hi_r
  go_wp2_with fail
  refine (toS_any _ w.heap.size xs_l _ (HA.out.below HB.out (Nat.le_refl _)) HB.out.size (by have := HN.out; omega)).mono ?_
  rintro e w_2 ⟨v_c, rfl, ho, hb⟩
  have hB := hb
  have Hc := Lib.hid ho
  have HS2 := Lib.hid hB.size
  replace HB := Lib.hid (HB.out.trans (hB.mono HB.out.size))
  clear hB ho
  go_wp2_with fail
  refine (sortSpec_any _ _ xs_l _ (Hc.out.reads encA_len) (by have := HS1.out; have := HS2.out; omega) (by have := HN.out; omega)).mono ?_
  rintro e w_3 ⟨v_w, ys_w, rfl, hso, ho, hb⟩
  have hB := hb
  replace Hc := Lib.hid (Hc.out.later hB)
  have Hw := Lib.hid ho
  have HS3 := Lib.hid hB.size
  replace HB := Lib.hid (HB.out.trans (hB.mono HB.out.size))
  clear hB ho
  have HSO := Lib.hid hso; have HY := Lib.hid (Nat.le_trans (sortedOf_len hso) HN.out); clear hso
  obtain ⟨ys, ey⟩ : ∃ y, ys_w = y := ⟨_, rfl⟩
  rw [ey] at HSO HY Hw
  clear ey
  go_wp2_with fail
  refine (toS_any _ w.heap.size xs_l _ (HA.out.below HB.out (Nat.le_refl _)) HB.out.size (by have := HN.out; omega)).mono ?_
  rintro e w_4 ⟨v_x, rfl, ho, hb⟩
  have hB := hb
  replace Hc := Lib.hid (Hc.out.later hB)
  replace Hw := Lib.hid (Hw.out.later hB)
  have Hx := Lib.hid ho
  have HS4 := Lib.hid hB.size
  replace HB := Lib.hid (HB.out.trans (hB.mono HB.out.size))
  clear hB ho
  go_wp2_with fail
  refine (sortImpl_any _ _ xs_l _ (Hx.out.reads encA_len) (by have := HS1.out; have := HS2.out; have := HS3.out; have := HS4.out; omega) (by have := HN.out; omega)).mono ?_
  rintro e w_5 ⟨v_g, ys_g, rfl, hso, ho, hb⟩
  have hB := hb
  replace Hc := Lib.hid (Hc.out.later hB)
  replace Hw := Lib.hid (Hw.out.later hB)
  replace Hx := Lib.hid (Hx.out.later hB)
  have Hg := Lib.hid ho
  have HS5 := Lib.hid hB.size
  replace HB := Lib.hid (HB.out.trans (hB.mono HB.out.size))
  clear hB ho
  have ey := sortedOf_unique hso HSO.out
  rw [ey] at Hg
  clear ey hso
  go_wp2_with fail
  refine (eqS_any _ _ _ _ ys _ (Hg.out.reads encA_len) (Hw.out.reads encA_len) (by have := HS1.out; have := HS2.out; have := HS3.out; have := HS4.out; have := HS5.out; omega) (by have := HS1.out; have := HS2.out; have := HS3.out; have := HS4.out; have := HS5.out; omega)).mono ?_
  rintro e w_6 ⟨rfl, hg⟩
  have hB := hg.below
  replace Hc := Lib.hid (Hc.out.later hB)
  replace Hw := Lib.hid (Hw.out.later hB)
  replace Hx := Lib.hid (Hx.out.later hB)
  replace Hg := Lib.hid (Hg.out.later hB)
  have HS6 := Lib.hid hB.size
  replace HB := Lib.hid (HB.out.trans (hB.mono HB.out.size))
  clear hB
  go_wp2_with fail
  refine (toS_any _ w.heap.size xs_l _ (HA.out.below HB.out (Nat.le_refl _)) HB.out.size (by have := HN.out; omega)).mono ?_
  rintro e w_7 ⟨v_y, rfl, ho, hb⟩
  have hB := hb
  replace Hc := Lib.hid (Hc.out.later hB)
  replace Hw := Lib.hid (Hw.out.later hB)
  replace Hx := Lib.hid (Hx.out.later hB)
  replace Hg := Lib.hid (Hg.out.later hB)
  have Hy := Lib.hid ho
  have HS7 := Lib.hid hB.size
  replace HB := Lib.hid (HB.out.trans (hB.mono HB.out.size))
  clear hB ho
  go_wp2_with fail
  refine (eqS_any _ _ _ _ xs_l _ (Hx.out.reads encA_len) (Hy.out.reads encA_len) (by have := HS1.out; have := HS2.out; have := HS3.out; have := HS4.out; have := HS5.out; have := HS6.out; have := HS7.out; omega) (by have := HS1.out; have := HS2.out; have := HS3.out; have := HS4.out; have := HS5.out; have := HS6.out; have := HS7.out; omega)).mono ?_
  rintro e w_8 ⟨rfl, hg⟩
  have hB := hg.below
  replace Hc := Lib.hid (Hc.out.later hB)
  replace Hw := Lib.hid (Hw.out.later hB)
  replace Hx := Lib.hid (Hx.out.later hB)
  replace Hg := Lib.hid (Hg.out.later hB)
  replace Hy := Lib.hid (Hy.out.later hB)
  have HS8 := Lib.hid hB.size
  replace HB := Lib.hid (HB.out.trans (hB.mono HB.out.size))
  clear hB
  go_wp2_with fail
  refine (markS_any _ _ _ xs_l 1 _ (by omega) _ Hx.out (by have := HN.out; have := HY.out; omega)).mono ?_
  rintro e w_9 ⟨rfl, ho, hgr⟩
  have hbk := (Hx.out.mono (lo' := w.heap.size) (by have := HS1.out; have := HS2.out; have := HS3.out; have := HS4.out; have := HS5.out; have := HS6.out; have := HS7.out; have := HS8.out; omega) (Nat.le_refl _)).back HB.out HB.out.size hgr
  replace Hc := Lib.hid (Hc.out.apart Hx.out (Or.inl (by have := HS1.out; have := HS2.out; have := HS3.out; have := HS4.out; have := HS5.out; have := HS6.out; have := HS7.out; have := HS8.out; omega)) hgr)
  replace Hw := Lib.hid (Hw.out.apart Hx.out (Or.inl (by have := HS1.out; have := HS2.out; have := HS3.out; have := HS4.out; have := HS5.out; have := HS6.out; have := HS7.out; have := HS8.out; omega)) hgr)
  replace Hg := Lib.hid (Hg.out.apart Hx.out (Or.inr (by have := HS1.out; have := HS2.out; have := HS3.out; have := HS4.out; have := HS5.out; have := HS6.out; have := HS7.out; have := HS8.out; omega)) hgr)
  replace Hy := Lib.hid (Hy.out.apart Hx.out (Or.inr (by have := HS1.out; have := HS2.out; have := HS3.out; have := HS4.out; have := HS5.out; have := HS6.out; have := HS7.out; have := HS8.out; omega)) hgr)
  replace Hx := Lib.hid ho
  have HS9 := Lib.hid hgr.size
  replace HB := Lib.hid hbk
  clear hbk ho hgr
  go_wp2_with fail
  refine (eqS_any _ _ _ _ ys _ (Hg.out.reads encA_len) (Hw.out.reads encA_len) (by have := HS1.out; have := HS2.out; have := HS3.out; have := HS4.out; have := HS5.out; have := HS6.out; have := HS7.out; have := HS8.out; have := HS9.out; omega) (by have := HS1.out; have := HS2.out; have := HS3.out; have := HS4.out; have := HS5.out; have := HS6.out; have := HS7.out; have := HS8.out; have := HS9.out; omega)).mono ?_
  rintro e w_10 ⟨rfl, hg⟩
  have hB := hg.below
  replace Hc := Lib.hid (Hc.out.later hB)
  replace Hw := Lib.hid (Hw.out.later hB)
  replace Hx := Lib.hid (Hx.out.later hB)
  replace Hg := Lib.hid (Hg.out.later hB)
  replace Hy := Lib.hid (Hy.out.later hB)
  have HS10 := Lib.hid hB.size
  replace HB := Lib.hid (HB.out.trans (hB.mono HB.out.size))
  clear hB
  go_wp2_with fail
  refine (markS_any _ _ _ ys 1 _ (by omega) _ Hg.out (by have := HN.out; have := HY.out; omega)).mono ?_
  rintro e w_11 ⟨rfl, ho, hgr⟩
  have hbk := (Hg.out.mono (lo' := w.heap.size) (by have := HS1.out; have := HS2.out; have := HS3.out; have := HS4.out; have := HS5.out; have := HS6.out; have := HS7.out; have := HS8.out; have := HS9.out; have := HS10.out; omega) (Nat.le_refl _)).back HB.out HB.out.size hgr
  replace Hc := Lib.hid (Hc.out.apart Hg.out (Or.inl (by have := HS1.out; have := HS2.out; have := HS3.out; have := HS4.out; have := HS5.out; have := HS6.out; have := HS7.out; have := HS8.out; have := HS9.out; have := HS10.out; omega)) hgr)
  replace Hw := Lib.hid (Hw.out.apart Hg.out (Or.inl (by have := HS1.out; have := HS2.out; have := HS3.out; have := HS4.out; have := HS5.out; have := HS6.out; have := HS7.out; have := HS8.out; have := HS9.out; have := HS10.out; omega)) hgr)
  replace Hx := Lib.hid (Hx.out.apart Hg.out (Or.inl (by have := HS1.out; have := HS2.out; have := HS3.out; have := HS4.out; have := HS5.out; have := HS6.out; have := HS7.out; have := HS8.out; have := HS9.out; have := HS10.out; omega)) hgr)
  replace Hy := Lib.hid (Hy.out.apart Hg.out (Or.inr (by have := HS1.out; have := HS2.out; have := HS3.out; have := HS4.out; have := HS5.out; have := HS6.out; have := HS7.out; have := HS8.out; have := HS9.out; have := HS10.out; omega)) hgr)
  replace Hg := Lib.hid ho
  have HS11 := Lib.hid hgr.size
  replace HB := Lib.hid hbk
  clear hbk ho hgr
  go_wp2_with fail
  refine (heldS_any _ _ ys.length 1 _ (by omega) _ (Hg.out.reads encA_len) (by have := HS1.out; have := HS2.out; have := HS3.out; have := HS4.out; have := HS5.out; have := HS6.out; have := HS7.out; have := HS8.out; have := HS9.out; have := HS10.out; have := HS11.out; omega) (by have := HY.out; omega)).mono ?_
  rintro e w_12 ⟨rfl, hg⟩
  have hB := hg.below
  replace Hc := Lib.hid (Hc.out.later hB)
  replace Hw := Lib.hid (Hw.out.later hB)
  replace Hx := Lib.hid (Hx.out.later hB)
  replace Hg := Lib.hid (Hg.out.later hB)
  replace Hy := Lib.hid (Hy.out.later hB)
  have HS12 := Lib.hid hB.size
  replace HB := Lib.hid (HB.out.trans (hB.mono HB.out.size))
  clear hB
  go_wp2_with fail
  refine (toS_any _ w.heap.size xs_l _ (HA.out.below HB.out (Nat.le_refl _)) HB.out.size (by have := HN.out; omega)).mono ?_
  rintro e w_13 ⟨v_z, rfl, ho, hb⟩
  have hB := hb
  replace Hc := Lib.hid (Hc.out.later hB)
  replace Hw := Lib.hid (Hw.out.later hB)
  replace Hx := Lib.hid (Hx.out.later hB)
  replace Hg := Lib.hid (Hg.out.later hB)
  replace Hy := Lib.hid (Hy.out.later hB)
  have Hz := Lib.hid ho
  have HS13 := Lib.hid hB.size
  replace HB := Lib.hid (HB.out.trans (hB.mono HB.out.size))
  clear hB ho
  go_wp2_with fail
  refine (sortImpl_any _ _ xs_l _ (Hz.out.reads encA_len) (by have := HS1.out; have := HS2.out; have := HS3.out; have := HS4.out; have := HS5.out; have := HS6.out; have := HS7.out; have := HS8.out; have := HS9.out; have := HS10.out; have := HS11.out; have := HS12.out; have := HS13.out; omega) (by have := HN.out; omega)).mono ?_
  rintro e w_14 ⟨v_h, ys_h, rfl, hso, ho, hb⟩
  have hB := hb
  replace Hc := Lib.hid (Hc.out.later hB)
  replace Hw := Lib.hid (Hw.out.later hB)
  replace Hx := Lib.hid (Hx.out.later hB)
  replace Hg := Lib.hid (Hg.out.later hB)
  replace Hy := Lib.hid (Hy.out.later hB)
  replace Hz := Lib.hid (Hz.out.later hB)
  have Hh := Lib.hid ho
  have HS14 := Lib.hid hB.size
  replace HB := Lib.hid (HB.out.trans (hB.mono HB.out.size))
  clear hB ho
  have ey := sortedOf_unique hso HSO.out
  rw [ey] at Hh
  clear ey hso
  go_wp2_with fail
  refine (eqS_any _ _ _ _ ys _ (Hh.out.reads encA_len) (Hw.out.reads encA_len) (by have := HS1.out; have := HS2.out; have := HS3.out; have := HS4.out; have := HS5.out; have := HS6.out; have := HS7.out; have := HS8.out; have := HS9.out; have := HS10.out; have := HS11.out; have := HS12.out; have := HS13.out; have := HS14.out; omega) (by have := HS1.out; have := HS2.out; have := HS3.out; have := HS4.out; have := HS5.out; have := HS6.out; have := HS7.out; have := HS8.out; have := HS9.out; have := HS10.out; have := HS11.out; have := HS12.out; have := HS13.out; have := HS14.out; omega)).mono ?_
  rintro e w_15 ⟨rfl, hg⟩
  have hB := hg.below
  replace Hc := Lib.hid (Hc.out.later hB)
  replace Hw := Lib.hid (Hw.out.later hB)
  replace Hx := Lib.hid (Hx.out.later hB)
  replace Hg := Lib.hid (Hg.out.later hB)
  replace Hy := Lib.hid (Hy.out.later hB)
  replace Hz := Lib.hid (Hz.out.later hB)
  replace Hh := Lib.hid (Hh.out.later hB)
  have HS15 := Lib.hid hB.size
  replace HB := Lib.hid (HB.out.trans (hB.mono HB.out.size))
  clear hB
  go_wp2_with fail
  refine (heldS_any _ _ ys.length 1 _ (by omega) _ (Hg.out.reads encA_len) (by have := HS1.out; have := HS2.out; have := HS3.out; have := HS4.out; have := HS5.out; have := HS6.out; have := HS7.out; have := HS8.out; have := HS9.out; have := HS10.out; have := HS11.out; have := HS12.out; have := HS13.out; have := HS14.out; have := HS15.out; omega) (by have := HY.out; omega)).mono ?_
  rintro e w_16 ⟨rfl, hg⟩
  have hB := hg.below
  replace Hc := Lib.hid (Hc.out.later hB)
  replace Hw := Lib.hid (Hw.out.later hB)
  replace Hx := Lib.hid (Hx.out.later hB)
  replace Hg := Lib.hid (Hg.out.later hB)
  replace Hy := Lib.hid (Hy.out.later hB)
  replace Hz := Lib.hid (Hz.out.later hB)
  replace Hh := Lib.hid (Hh.out.later hB)
  have HS16 := Lib.hid hB.size
  replace HB := Lib.hid (HB.out.trans (hB.mono HB.out.size))
  clear hB
  go_wp2_with fail
  go_ret
  exact ⟨rfl, HB.out⟩
end Go.Proofs.Ytojpbdhkcpfeaaa
