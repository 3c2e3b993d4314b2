/- The walk of the law FnExactBytesToInts: it returns true, and writes nothing that was there. -/
import Derived.Test.YtlehahpgdafnoaaKeyed
import Derived.Test.YtlehahpgdafnoaaRowReads
namespace Go.Proofs.Ytlehahpgdafnoaa
open Go.ChangeShapes Go.WideShapes Go.ChangeAt Go.RowKit

set_option maxRecDepth 100000 in
set_option maxHeartbeats 4000000 in
theorem walkBytesToInts (a_v : Option Addr) (len_v cap_v : Nat) (z_v : List Int) (w : World) (r_v : IsRow .u8 w a_v len_v cap_v z_v) :
    Calls Try.prog 8 #[.slice a_v len_v cap_v] w fun e w' => e = .returned (.bool true) ∧ Below w.heap.size w w' := by
  by_cases big_v : (1048576 : Int) < (len_v : Int)
  · go_enter Try.func8, Try.ntmps8
    go_wp2_with fail
    go_ret
    exact ⟨rfl, Below.refl _ _⟩
  obtain ⟨rd_v, rl_v, rw_v⟩ := reads_of_row r_v
  obtain ⟨zs_v, ez_v⟩ : ∃ zs, z_v.take len_v = zs := ⟨_, rfl⟩
  rw [ez_v] at rd_v rl_v rw_v
  have HA_v := Lib.hid rd_v; have HN_v := Lib.hid (show zs_v.length ≤ 1048576 by omega); have HW_v := Lib.hid (bytes_of_wf rw_v)
  clear rd_v rl_v rw_v ez_v r_v z_v
  have HB := Lib.hid (Below.refl w.heap.size w)
  go_enter Try.func8, Try.ntmps8
  obtain ⟨R, eR⟩ : ∃ R, b2i zs_v = R := ⟨_, rfl⟩
  have HLEN := Lib.hid (show R.length ≤ 1048577 by have h2 := HN_v.out; rw [← eR, b2i_len]; omega)
  have HR := Lib.hid eR; clear eR
  go_wp2_with fail
  refine (to8_any _ w.heap.size _ _ (HA_v.out.below HB.out (Nat.le_refl _)) HB.out.size (by have := HN_v.out; omega)).mono ?_
  rintro e w_1 ⟨v_c, rfl, ho, hb⟩
  have Hc := Lib.hid ho
  have HS1 := Lib.hid (hb.size)
  replace HB := Lib.hid (HB.out.trans (hb.mono HB.out.size))
  clear ho hb
  go_wp2_with fail
  refine (specB2I_any _ _ _ _ Hc.out.reads (Nat.le_refl _) HW_v.out (by have := HN_v.out; omega)).mono ?_
  rintro e w_2 ⟨v_w0, rfl, ho, hb⟩
  replace Hc := Lib.hid (Hc.out.later hb)
  have Hw0 := Lib.hid ho
  have HS2 := Lib.hid (hb.size)
  replace HB := Lib.hid (HB.out.trans (hb.mono HB.out.size))
  clear ho hb
  rw [HR.out] at Hw0
  go_wp2_with fail
  refine (to8_any _ w.heap.size _ _ (HA_v.out.below HB.out (Nat.le_refl _)) HB.out.size (by have := HN_v.out; omega)).mono ?_
  rintro e w_3 ⟨v_x, rfl, ho, hb⟩
  replace Hc := Lib.hid (Hc.out.later hb)
  replace Hw0 := Lib.hid (Hw0.out.later hb)
  have Hx := Lib.hid ho
  have HS3 := Lib.hid (hb.size)
  replace HB := Lib.hid (HB.out.trans (hb.mono HB.out.size))
  clear ho hb
  go_wp2_with fail
  refine (implB2I_any _ _ _ _ Hx.out.reads (Nat.le_refl _) HW_v.out (by have := HN_v.out; omega)).mono ?_
  rintro e w_4 ⟨v_g, rfl, ho, hb⟩
  replace Hc := Lib.hid (Hc.out.later hb)
  replace Hw0 := Lib.hid (Hw0.out.later hb)
  replace Hx := Lib.hid (Hx.out.later hb)
  have Hg := Lib.hid ho
  have HS4 := Lib.hid (hb.size)
  replace HB := Lib.hid (HB.out.trans (hb.mono HB.out.size))
  clear ho hb
  rw [HR.out] at Hg
  go_wp2_with fail
  refine (eq64_any _ _ _ _ _ _ Hg.out.reads Hw0.out.reads).mono ?_
  rintro e w_5 ⟨rfl, hs⟩
  have hb := hs.below w_4.heap.size
  replace Hc := Lib.hid (Hc.out.later hb)
  replace Hw0 := Lib.hid (Hw0.out.later hb)
  replace Hx := Lib.hid (Hx.out.later hb)
  replace Hg := Lib.hid (Hg.out.later hb)
  have HS5 := Lib.hid (hb.size)
  have HE5 := Lib.hid (congrArg Array.size hs.heap)
  replace HB := Lib.hid (HB.out.trans (hs.below _))
  clear hs hb
  go_wp2_with fail
  refine (to8_any _ w.heap.size _ _ (HA_v.out.below HB.out (Nat.le_refl _)) HB.out.size (by have := HN_v.out; omega)).mono ?_
  rintro e w_6 ⟨v_y, rfl, ho, hb⟩
  replace Hc := Lib.hid (Hc.out.later hb)
  replace Hw0 := Lib.hid (Hw0.out.later hb)
  replace Hx := Lib.hid (Hx.out.later hb)
  replace Hg := Lib.hid (Hg.out.later hb)
  have Hy := Lib.hid ho
  have HS6 := Lib.hid (hb.size)
  replace HB := Lib.hid (HB.out.trans (hb.mono HB.out.size))
  clear ho hb
  go_wp2_with fail
  refine (eq8_any _ _ _ _ _ _ Hx.out.reads Hy.out.reads).mono ?_
  rintro e w_7 ⟨rfl, hs⟩
  have hb := hs.below w_6.heap.size
  replace Hc := Lib.hid (Hc.out.later hb)
  replace Hw0 := Lib.hid (Hw0.out.later hb)
  replace Hx := Lib.hid (Hx.out.later hb)
  replace Hg := Lib.hid (Hg.out.later hb)
  replace Hy := Lib.hid (Hy.out.later hb)
  have HS7 := Lib.hid (hb.size)
  have HE7 := Lib.hid (congrArg Array.size hs.heap)
  replace HB := Lib.hid (HB.out.trans (hs.below _))
  clear hs hb
  go_wp2_with fail
  refine (mark8_any _ _ _ _ (1) _ (by omega) _ Hx.out (by have := HLEN.out; have := HN_v.out; omega)).mono ?_
  rintro e w_8 ⟨rfl, ho, hg⟩
  have hbk := (Hx.out.mono (lo' := w.heap.size) (by have := HS1.out; have := HS2.out; have := HS3.out; have := HS4.out; have := HS5.out; have := HE5.out; have := HS6.out; have := HS7.out; have := HE7.out; omega) (Nat.le_refl _)).back HB.out HB.out.size hg
  replace Hc := Lib.hid (Hc.out.apart Hx.out (Or.inl (by have := HS1.out; have := HS2.out; have := HS3.out; have := HS4.out; have := HS5.out; have := HE5.out; have := HS6.out; have := HS7.out; have := HE7.out; omega)) hg)
  replace Hw0 := Lib.hid (Hw0.out.apart Hx.out (Or.inl (by have := HS1.out; have := HS2.out; have := HS3.out; have := HS4.out; have := HS5.out; have := HE5.out; have := HS6.out; have := HS7.out; have := HE7.out; omega)) hg)
  replace Hg := Lib.hid (Hg.out.apart Hx.out (Or.inr (by have := HS1.out; have := HS2.out; have := HS3.out; have := HS4.out; have := HS5.out; have := HE5.out; have := HS6.out; have := HS7.out; have := HE7.out; omega)) hg)
  replace Hy := Lib.hid (Hy.out.apart Hx.out (Or.inr (by have := HS1.out; have := HS2.out; have := HS3.out; have := HS4.out; have := HS5.out; have := HE5.out; have := HS6.out; have := HS7.out; have := HE7.out; omega)) hg)
  replace Hx := Lib.hid ho
  have HS8 := Lib.hid (hg.size)
  replace HB := Lib.hid hbk
  clear ho hg hbk
  go_wp2_with fail
  refine (eq64_any _ _ _ _ _ _ Hg.out.reads Hw0.out.reads).mono ?_
  rintro e w_9 ⟨rfl, hs⟩
  have hb := hs.below w_8.heap.size
  replace Hc := Lib.hid (Hc.out.later hb)
  replace Hw0 := Lib.hid (Hw0.out.later hb)
  replace Hx := Lib.hid (Hx.out.later hb)
  replace Hg := Lib.hid (Hg.out.later hb)
  replace Hy := Lib.hid (Hy.out.later hb)
  have HS9 := Lib.hid (hb.size)
  have HE9 := Lib.hid (congrArg Array.size hs.heap)
  replace HB := Lib.hid (HB.out.trans (hs.below _))
  clear hs hb
  go_wp2_with fail
  refine (mark64_any _ _ _ _ (1) _ (by omega) _ Hg.out (by have := HLEN.out; have := HN_v.out; omega)).mono ?_
  rintro e w_10 ⟨rfl, ho, hg⟩
  have hbk := (Hg.out.mono (lo' := w.heap.size) (by have := HS1.out; have := HS2.out; have := HS3.out; have := HS4.out; have := HS5.out; have := HE5.out; have := HS6.out; have := HS7.out; have := HE7.out; have := HS8.out; have := HS9.out; have := HE9.out; omega) (Nat.le_refl _)).back HB.out HB.out.size hg
  replace Hc := Lib.hid (Hc.out.apart Hg.out (Or.inl (by have := HS1.out; have := HS2.out; have := HS3.out; have := HS4.out; have := HS5.out; have := HE5.out; have := HS6.out; have := HS7.out; have := HE7.out; have := HS8.out; have := HS9.out; have := HE9.out; omega)) hg)
  replace Hw0 := Lib.hid (Hw0.out.apart Hg.out (Or.inl (by have := HS1.out; have := HS2.out; have := HS3.out; have := HS4.out; have := HS5.out; have := HE5.out; have := HS6.out; have := HS7.out; have := HE7.out; have := HS8.out; have := HS9.out; have := HE9.out; omega)) hg)
  replace Hx := Lib.hid (Hx.out.apart Hg.out (Or.inl (by have := HS1.out; have := HS2.out; have := HS3.out; have := HS4.out; have := HS5.out; have := HE5.out; have := HS6.out; have := HS7.out; have := HE7.out; have := HS8.out; have := HS9.out; have := HE9.out; omega)) hg)
  replace Hy := Lib.hid (Hy.out.apart Hg.out (Or.inr (by have := HS1.out; have := HS2.out; have := HS3.out; have := HS4.out; have := HS5.out; have := HE5.out; have := HS6.out; have := HS7.out; have := HE7.out; have := HS8.out; have := HS9.out; have := HE9.out; omega)) hg)
  replace Hg := Lib.hid ho
  have HS10 := Lib.hid (hg.size)
  replace HB := Lib.hid hbk
  clear ho hg hbk
  go_wp2_with fail
  refine (held64_any _ _ (R.length) (1) _ (by omega) _ Hg.out.reads (by have := HLEN.out; have := HN_v.out; omega)).mono ?_
  rintro e w_11 ⟨rfl, hs⟩
  have hb := hs.below w_10.heap.size
  replace Hc := Lib.hid (Hc.out.later hb)
  replace Hw0 := Lib.hid (Hw0.out.later hb)
  replace Hx := Lib.hid (Hx.out.later hb)
  replace Hg := Lib.hid (Hg.out.later hb)
  replace Hy := Lib.hid (Hy.out.later hb)
  have HS11 := Lib.hid (hb.size)
  have HE11 := Lib.hid (congrArg Array.size hs.heap)
  replace HB := Lib.hid (HB.out.trans (hs.below _))
  clear hs hb
  go_wp2_with fail
  refine (to8_any _ w.heap.size _ _ (HA_v.out.below HB.out (Nat.le_refl _)) HB.out.size (by have := HN_v.out; omega)).mono ?_
  rintro e w_12 ⟨v_z, rfl, ho, hb⟩
  replace Hc := Lib.hid (Hc.out.later hb)
  replace Hw0 := Lib.hid (Hw0.out.later hb)
  replace Hx := Lib.hid (Hx.out.later hb)
  replace Hg := Lib.hid (Hg.out.later hb)
  replace Hy := Lib.hid (Hy.out.later hb)
  have Hz := Lib.hid ho
  have HS12 := Lib.hid (hb.size)
  replace HB := Lib.hid (HB.out.trans (hb.mono HB.out.size))
  clear ho hb
  go_wp2_with fail
  refine (implB2I_any _ _ _ _ Hz.out.reads (Nat.le_refl _) HW_v.out (by have := HN_v.out; omega)).mono ?_
  rintro e w_13 ⟨v_h, rfl, ho, hb⟩
  replace Hc := Lib.hid (Hc.out.later hb)
  replace Hw0 := Lib.hid (Hw0.out.later hb)
  replace Hx := Lib.hid (Hx.out.later hb)
  replace Hg := Lib.hid (Hg.out.later hb)
  replace Hy := Lib.hid (Hy.out.later hb)
  replace Hz := Lib.hid (Hz.out.later hb)
  have Hh := Lib.hid ho
  have HS13 := Lib.hid (hb.size)
  replace HB := Lib.hid (HB.out.trans (hb.mono HB.out.size))
  clear ho hb
  rw [HR.out] at Hh
  go_wp2_with fail
  refine (eq64_any _ _ _ _ _ _ Hh.out.reads Hw0.out.reads).mono ?_
  rintro e w_14 ⟨rfl, hs⟩
  have hb := hs.below w_13.heap.size
  replace Hc := Lib.hid (Hc.out.later hb)
  replace Hw0 := Lib.hid (Hw0.out.later hb)
  replace Hx := Lib.hid (Hx.out.later hb)
  replace Hg := Lib.hid (Hg.out.later hb)
  replace Hy := Lib.hid (Hy.out.later hb)
  replace Hz := Lib.hid (Hz.out.later hb)
  replace Hh := Lib.hid (Hh.out.later hb)
  have HS14 := Lib.hid (hb.size)
  have HE14 := Lib.hid (congrArg Array.size hs.heap)
  replace HB := Lib.hid (HB.out.trans (hs.below _))
  clear hs hb
  go_wp2_with fail
  refine (held64_any _ _ (R.length) (1) _ (by omega) _ Hg.out.reads (by have := HLEN.out; have := HN_v.out; omega)).mono ?_
  rintro e w_15 ⟨rfl, hs⟩
  have hb := hs.below w_14.heap.size
  replace Hc := Lib.hid (Hc.out.later hb)
  replace Hw0 := Lib.hid (Hw0.out.later hb)
  replace Hx := Lib.hid (Hx.out.later hb)
  replace Hg := Lib.hid (Hg.out.later hb)
  replace Hy := Lib.hid (Hy.out.later hb)
  replace Hz := Lib.hid (Hz.out.later hb)
  replace Hh := Lib.hid (Hh.out.later hb)
  have HS15 := Lib.hid (hb.size)
  have HE15 := Lib.hid (congrArg Array.size hs.heap)
  replace HB := Lib.hid (HB.out.trans (hs.below _))
  clear hs hb
  go_wp2_with fail
  go_ret
  exact ⟨rfl, HB.out⟩
end Go.Proofs.Ytlehahpgdafnoaa
