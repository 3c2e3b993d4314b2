/- The walk of the law FnExactParseSheet: it returns true, and writes nothing that was there. -/
import Derived.Test.YtmlmiclgledcpaaDoorPsS
import Derived.Test.YtmlmiclgledcpaaDoorLawU
import Derived.Deep.RegionWith
import Derived.Deep.CutRange
namespace Go.Proofs.YtmlmiclgledcpaaDoor
open Go.ChangeShapes Go.WideShapes Go.ChangeAt Go.RowKit

set_option maxRecDepth 100000 in
set_option maxHeartbeats 4000000 in
theorem walkParseSheet (a_s : ByteArray) (w : World) (hL : Laid w) (r_s : a_s.size ≤ 9223372036854775807) :
    Calls Tryd.prog 3 #[.string a_s] w fun e w' => e = .returned (.bool true) ∧ Below w.heap.size w w' := by
  have hrs := r_s; clear hrs
  by_cases big_s : (1048576 : Int) < (a_s.size : Int)
  · go_enter Tryd.func3, Tryd.ntmps3
    go_wp2_with fail
    go_ret
    exact ⟨rfl, by first | exact Below.refl _ _ | exact (Below.refl _ _).alloc (Nat.le_refl _) _⟩
  go_enter Tryd.func3, Tryd.ntmps3
  have HB := Lib.hid (Below.refl w.heap.size w)
  have HLD := Lib.hid hL; clear hL
  obtain ⟨RS, hRS⟩ : ∃ RS, prsS a_s = RS := ⟨_, rfl⟩
  have HRS := Lib.hid hRS
  have HRL := Lib.hid (show RS.length ≤ 8 by rw [← hRS, prsS, List.length_take]; omega); clear hRS
  go_wp2_with fail
  refine (psheet_spec a_s (by omega) _).mono ?_
  rintro e w_1 ⟨sa_p, sn_p, sc_p, rfl, hm⟩
  rw [HRS.out] at hm
  have hB := hm.below
  have Hp := Lib.hid (ownL_one.2 (rwU_own hm.own))
  have HS1 := Lib.hid hB.size
  replace HB := Lib.hid (HB.out.trans (hB.mono HB.out.size))
  have HN_p := Lib.hid (optL_nodup2 (.slice sa_p sn_p sc_p) RS)
  clear hB hm
  go_wp2_with fail
  obtain ⟨w_2, hw⟩ : ∃ x, w_1.alloc (.cells #[.slice sa_p sn_p sc_p] 24) = x := ⟨_, rfl⟩
  rw [hw]
  have hB : Below w_1.heap.size w_1 w_2 := by rw [← hw]; exact (Below.refl _ _).alloc (Nat.le_refl _) _
  have q_p0 : w_2.cell? ⟨w_1.heap.size, 0, none⟩ = some (.slice sa_p sn_p sc_p) := by rw [← hw]; simp
  have b_p : w_1.heap.size < w_2.heap.size := World.block_lt_of_cell? _ _ q_p0
  replace Hp := Lib.hid (ownL_later Hp.out hB)
  have HS2 := Lib.hid hB.size
  replace HB := Lib.hid (HB.out.trans (hB.mono HB.out.size))
  clear hB hw
  have HSb_p := Lib.hid b_p
  go_wp2_with fail
  refine (psheet_impl a_s (by omega) _ (laid_on HLD.out HB.out)).mono ?_
  rintro e w_3 ⟨sa_g, sn_g, sc_g, rfl, hm⟩
  rw [HRS.out] at hm
  have hB := hm.below
  replace q_p0 := (hB.cell (show (⟨w_1.heap.size, 0, none⟩ : Addr).block < _ from World.block_lt_of_cell? _ _ q_p0)).trans q_p0
  replace b_p : w_1.heap.size < w_3.heap.size := World.block_lt_of_cell? _ _ q_p0
  replace Hp := Lib.hid (ownL_later Hp.out hB)
  have Hg := Lib.hid (ownL_one.2 (rwU_own hm.own))
  have HS3 := Lib.hid hB.size
  replace HB := Lib.hid (HB.out.trans (hB.mono HB.out.size))
  have HN_g := Lib.hid (optL_nodup2 (.slice sa_g sn_g sc_g) RS)
  clear hB hm
  go_wp2_with fail
  obtain ⟨w_4, hw⟩ : ∃ x, w_3.alloc (.cells #[.slice sa_g sn_g sc_g] 24) = x := ⟨_, rfl⟩
  rw [hw]
  have hB : Below w_3.heap.size w_3 w_4 := by rw [← hw]; exact (Below.refl _ _).alloc (Nat.le_refl _) _
  have q_g0 : w_4.cell? ⟨w_3.heap.size, 0, none⟩ = some (.slice sa_g sn_g sc_g) := by rw [← hw]; simp
  have b_g : w_3.heap.size < w_4.heap.size := World.block_lt_of_cell? _ _ q_g0
  replace q_p0 := (hB.cell (show (⟨w_1.heap.size, 0, none⟩ : Addr).block < _ from World.block_lt_of_cell? _ _ q_p0)).trans q_p0
  replace b_p : w_1.heap.size < w_4.heap.size := World.block_lt_of_cell? _ _ q_p0
  replace Hp := Lib.hid (ownL_later Hp.out hB)
  replace Hg := Lib.hid (ownL_later Hg.out hB)
  have HS4 := Lib.hid hB.size
  replace HB := Lib.hid (HB.out.trans (hB.mono HB.out.size))
  clear hB hw
  have HSb_g := Lib.hid b_g
  go_wp2_with fail
  refine (eqV_Sheet (rwU (.slice sa_g sn_g sc_g) RS) (rwU (.slice sa_p sn_p sc_p) RS) _ _ rfl rfl _ (rwU_is _ _) (rwU_is _ _) (rwU_data _ _ _) (rd_of (ownL_one.1 Hg.out)) (rd_of (ownL_one.1 Hp.out))).mono ?_
  rintro e w_5 ⟨rfl, hg⟩
  have hB := hg.below
  replace q_p0 := (hB.cell (show (⟨w_1.heap.size, 0, none⟩ : Addr).block < _ from World.block_lt_of_cell? _ _ q_p0)).trans q_p0
  replace b_p : w_1.heap.size < w_5.heap.size := World.block_lt_of_cell? _ _ q_p0
  replace q_g0 := (hB.cell (show (⟨w_3.heap.size, 0, none⟩ : Addr).block < _ from World.block_lt_of_cell? _ _ q_g0)).trans q_g0
  replace b_g : w_3.heap.size < w_5.heap.size := World.block_lt_of_cell? _ _ q_g0
  replace Hp := Lib.hid (ownL_later Hp.out hB)
  replace Hg := Lib.hid (ownL_later Hg.out hB)
  have HS5 := Lib.hid hB.size
  replace HB := Lib.hid (HB.out.trans (hB.mono HB.out.size))
  clear hB hg
  have HCT_g := Lib.hid (show 1 + countL [(rwU (.slice sa_g sn_g sc_g) RS)] ≤ 4611686018427387904 by have h1 := HRL.out; rw [countL, countL, rwU_count]; omega)
  have NOB_p_g := Lib.hid (show w_1.heap.size ∉ _ from fun hb => by have hh := ownL_lt Hg.out _ hb; have := HS1.out; have := HS2.out; have := HSb_p.out; have := HS3.out; have := HS4.out; have := HSb_g.out; have := HS5.out; omega)
  have NOB_g_g := Lib.hid (show w_3.heap.size ∉ _ from fun hb => by have hh := ownL_lt Hg.out _ hb; have := HS1.out; have := HS2.out; have := HSb_p.out; have := HS3.out; have := HS4.out; have := HSb_g.out; have := HS5.out; omega)
  go_wp2_with fail
  refine (mkV_Sheet (rwU (.slice sa_g sn_g sc_g) RS) _ rfl (rwU_is _ _) _ _ 1 _ rfl _ Hg.out HN_g.out HCT_g.out).mono ?_
  rintro e w_6 ⟨rfl, hmk, hon⟩
  replace q_p0 := (cell_only (a := ⟨w_1.heap.size, 0, none⟩) hon (show w_1.heap.size ∉ _ from fun hb => NOB_p_g.out hb) (World.block_lt_of_cell? _ _ q_p0)).trans q_p0
  replace b_p : w_1.heap.size < w_6.heap.size := World.block_lt_of_cell? _ _ q_p0
  replace q_g0 := (cell_only (a := ⟨w_3.heap.size, 0, none⟩) hon (show w_3.heap.size ∉ _ from fun hb => NOB_g_g.out hb) (World.block_lt_of_cell? _ _ q_g0)).trans q_g0
  replace b_g : w_3.heap.size < w_6.heap.size := World.block_lt_of_cell? _ _ q_g0
  have hbk := ownL_back (lo := w.heap.size) HB.out (ownL_mono Hg.out (lo' := w.heap.size) (by have := HS1.out; have := HS2.out; have := HSb_p.out; have := HS3.out; have := HS4.out; have := HSb_g.out; have := HS5.out; omega) (Nat.le_refl _)) HB.out.size hon
  replace Hp := Lib.hid (ownL_apart Hp.out Hg.out (by have := HS1.out; have := HS2.out; have := HSb_p.out; have := HS3.out; have := HS4.out; have := HSb_g.out; have := HS5.out; omega) hon)
  replace Hg := Lib.hid hmk
  have HS6 := Lib.hid hon.size
  replace HB := Lib.hid hbk
  clear hbk hmk hon
  obtain ⟨m, hm⟩ : ∃ m, 1 + countL [(rwU (.slice sa_g sn_g sc_g) RS)] = m := ⟨_, rfl⟩
  rw [hm]; have HM := Lib.hid hm
  have hmq : ((m : Int) == (m : Int)) = true := beq_self_eq_true _
  have hm0 : ¬ ((m : Int) < 0) := by omega
  clear hm
  go_wp2_with fail
  refine (hdV_Sheet (rwU (.slice sa_g sn_g sc_g) RS) _ rfl (rwU_is _ _) _ 1 _ rfl _ (ownL_read Hg.out (by have := HS1.out; have := HS2.out; have := HSb_p.out; have := HS3.out; have := HS4.out; have := HSb_g.out; have := HS5.out; have := HS6.out; omega)) (Nat.le_refl _) HCT_g.out).mono ?_
  rintro e w_7 ⟨rfl, hg⟩
  have hB := hg.below
  replace q_p0 := (hB.cell (show (⟨w_1.heap.size, 0, none⟩ : Addr).block < _ from World.block_lt_of_cell? _ _ q_p0)).trans q_p0
  replace b_p : w_1.heap.size < w_7.heap.size := World.block_lt_of_cell? _ _ q_p0
  replace q_g0 := (hB.cell (show (⟨w_3.heap.size, 0, none⟩ : Addr).block < _ from World.block_lt_of_cell? _ _ q_g0)).trans q_g0
  replace b_g : w_3.heap.size < w_7.heap.size := World.block_lt_of_cell? _ _ q_g0
  replace Hp := Lib.hid (ownL_later Hp.out hB)
  replace Hg := Lib.hid (ownL_later Hg.out hB)
  have HS7 := Lib.hid hB.size
  replace HB := Lib.hid (HB.out.trans (hB.mono HB.out.size))
  rw [HM.out]
  clear hB hg
  go_wp2_with fail
  refine (psheet_impl a_s (by omega) _ (laid_on HLD.out HB.out)).mono ?_
  rintro e w_8 ⟨sa_h, sn_h, sc_h, rfl, hm⟩
  rw [HRS.out] at hm
  have hB := hm.below
  replace q_p0 := (hB.cell (show (⟨w_1.heap.size, 0, none⟩ : Addr).block < _ from World.block_lt_of_cell? _ _ q_p0)).trans q_p0
  replace b_p : w_1.heap.size < w_8.heap.size := World.block_lt_of_cell? _ _ q_p0
  replace q_g0 := (hB.cell (show (⟨w_3.heap.size, 0, none⟩ : Addr).block < _ from World.block_lt_of_cell? _ _ q_g0)).trans q_g0
  replace b_g : w_3.heap.size < w_8.heap.size := World.block_lt_of_cell? _ _ q_g0
  replace Hp := Lib.hid (ownL_later Hp.out hB)
  replace Hg := Lib.hid (ownL_later Hg.out hB)
  have Hh := Lib.hid (ownL_one.2 (rwU_own hm.own))
  have HS8 := Lib.hid hB.size
  replace HB := Lib.hid (HB.out.trans (hB.mono HB.out.size))
  have HN_h := Lib.hid (optL_nodup2 (.slice sa_h sn_h sc_h) RS)
  clear hB hm
  go_wp2_with fail
  obtain ⟨w_9, hw⟩ : ∃ x, w_8.alloc (.cells #[.slice sa_h sn_h sc_h] 24) = x := ⟨_, rfl⟩
  rw [hw]
  have hB : Below w_8.heap.size w_8 w_9 := by rw [← hw]; exact (Below.refl _ _).alloc (Nat.le_refl _) _
  have q_h0 : w_9.cell? ⟨w_8.heap.size, 0, none⟩ = some (.slice sa_h sn_h sc_h) := by rw [← hw]; simp
  have b_h : w_8.heap.size < w_9.heap.size := World.block_lt_of_cell? _ _ q_h0
  replace q_p0 := (hB.cell (show (⟨w_1.heap.size, 0, none⟩ : Addr).block < _ from World.block_lt_of_cell? _ _ q_p0)).trans q_p0
  replace b_p : w_1.heap.size < w_9.heap.size := World.block_lt_of_cell? _ _ q_p0
  replace q_g0 := (hB.cell (show (⟨w_3.heap.size, 0, none⟩ : Addr).block < _ from World.block_lt_of_cell? _ _ q_g0)).trans q_g0
  replace b_g : w_3.heap.size < w_9.heap.size := World.block_lt_of_cell? _ _ q_g0
  replace Hp := Lib.hid (ownL_later Hp.out hB)
  replace Hg := Lib.hid (ownL_later Hg.out hB)
  replace Hh := Lib.hid (ownL_later Hh.out hB)
  have HS9 := Lib.hid hB.size
  replace HB := Lib.hid (HB.out.trans (hB.mono HB.out.size))
  clear hB hw
  have HSb_h := Lib.hid b_h
  go_wp2_with fail
  refine (eqV_Sheet (rwU (.slice sa_h sn_h sc_h) RS) (rwU (.slice sa_p sn_p sc_p) RS) _ _ rfl rfl _ (rwU_is _ _) (rwU_is _ _) (rwU_data _ _ _) (rd_of (ownL_one.1 Hh.out)) (rd_of (ownL_one.1 Hp.out))).mono ?_
  rintro e w_10 ⟨rfl, hg⟩
  have hB := hg.below
  replace q_p0 := (hB.cell (show (⟨w_1.heap.size, 0, none⟩ : Addr).block < _ from World.block_lt_of_cell? _ _ q_p0)).trans q_p0
  replace b_p : w_1.heap.size < w_10.heap.size := World.block_lt_of_cell? _ _ q_p0
  replace q_g0 := (hB.cell (show (⟨w_3.heap.size, 0, none⟩ : Addr).block < _ from World.block_lt_of_cell? _ _ q_g0)).trans q_g0
  replace b_g : w_3.heap.size < w_10.heap.size := World.block_lt_of_cell? _ _ q_g0
  replace q_h0 := (hB.cell (show (⟨w_8.heap.size, 0, none⟩ : Addr).block < _ from World.block_lt_of_cell? _ _ q_h0)).trans q_h0
  replace b_h : w_8.heap.size < w_10.heap.size := World.block_lt_of_cell? _ _ q_h0
  replace Hp := Lib.hid (ownL_later Hp.out hB)
  replace Hg := Lib.hid (ownL_later Hg.out hB)
  replace Hh := Lib.hid (ownL_later Hh.out hB)
  have HS10 := Lib.hid hB.size
  replace HB := Lib.hid (HB.out.trans (hB.mono HB.out.size))
  clear hB hg
  go_wp2_with fail
  refine (hdV_Sheet (rwU (.slice sa_g sn_g sc_g) RS) _ rfl (rwU_is _ _) _ 1 _ rfl _ (ownL_read Hg.out (by have := HS1.out; have := HS2.out; have := HSb_p.out; have := HS3.out; have := HS4.out; have := HSb_g.out; have := HS5.out; have := HS6.out; have := HS7.out; have := HS8.out; have := HS9.out; have := HSb_h.out; have := HS10.out; omega)) (Nat.le_refl _) HCT_g.out).mono ?_
  rintro e w_11 ⟨rfl, hg⟩
  have hB := hg.below
  replace q_p0 := (hB.cell (show (⟨w_1.heap.size, 0, none⟩ : Addr).block < _ from World.block_lt_of_cell? _ _ q_p0)).trans q_p0
  replace b_p : w_1.heap.size < w_11.heap.size := World.block_lt_of_cell? _ _ q_p0
  replace q_g0 := (hB.cell (show (⟨w_3.heap.size, 0, none⟩ : Addr).block < _ from World.block_lt_of_cell? _ _ q_g0)).trans q_g0
  replace b_g : w_3.heap.size < w_11.heap.size := World.block_lt_of_cell? _ _ q_g0
  replace q_h0 := (hB.cell (show (⟨w_8.heap.size, 0, none⟩ : Addr).block < _ from World.block_lt_of_cell? _ _ q_h0)).trans q_h0
  replace b_h : w_8.heap.size < w_11.heap.size := World.block_lt_of_cell? _ _ q_h0
  replace Hp := Lib.hid (ownL_later Hp.out hB)
  replace Hg := Lib.hid (ownL_later Hg.out hB)
  replace Hh := Lib.hid (ownL_later Hh.out hB)
  have HS11 := Lib.hid hB.size
  replace HB := Lib.hid (HB.out.trans (hB.mono HB.out.size))
  rw [HM.out]
  clear hB hg
  go_wp2_with fail
  go_ret
  exact ⟨rfl, HB.out⟩
end Go.Proofs.YtmlmiclgledcpaaDoor
