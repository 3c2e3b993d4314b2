/- The walk of the law FnExactPutFile: it returns true, and writes nothing that was there. A row with listed variables whose call also leans on the shape of the world it begins in: both facts handed to the walk. Helper fact, no claim of its own. -/
import Derived.Test.YtpkicliimhflgaaDoorMg10
import Derived.Test.YtpkicliimhflgaaDoorMg6
import Derived.Deep.RegionHeld3
import Derived.Deep.RegionWith
import Derived.Deep.CutRange
import Derived.Test.YtpkicliimhflgaaDoorRows
import Derived.Handed
import Derived.LaidMore
namespace Go.Proofs.YtpkicliimhflgaaDoor

open Go.ChangeShapes Go.WideShapes Go.ChangeAt Go.RowKit

set_option maxRecDepth 100000 in
set_option maxHeartbeats 4000000 in
theorem walkPutFile (va_l : Option Addr) (vn_l vc_l : Nat) (sv_l : List Se) (x_a y_a : ByteArray) (ms_x mk_x : Int) (mb_x : ByteArray) (mg_x : Int) (mh_x : Bool) (mp_x : ByteArray) (w : World) (hmx : Max0 w) (r_l : IsSvs w (.slice va_l vn_l vc_l) sv_l) (r_a : AdOk (x_a, y_a)) (r_x : mb_x.size ≤ 9223372036854775807 ∧ mp_x.size ≤ 9223372036854775807) :
    Calls Tryd.prog 4 #[.slice va_l vn_l vc_l, .agg #[.string x_a, .string y_a], .agg #[.int .i64 ms_x, .int .i64 mk_x, .string mb_x, .int .i64 mg_x, .bool mh_x, .string mp_x]] w fun e w' => e = .returned (.bool true) ∧ Below w.heap.size w w' := by
  have HMX := Lib.hid hmx; clear hmx
  obtain ⟨hrh_l, hoh_l⟩ := r_l
  have HRH_l := Lib.hid hrh_l; have HOH_l := Lib.hid hoh_l; have HSM_l := Lib.hid (rwV_small (v := .slice va_l vn_l vc_l) hoh_l); clear hrh_l hoh_l
  obtain ⟨ra1, ra2⟩ := r_a
  obtain ⟨z1_x, z2_x⟩ := r_x
  go_enter Tryd.func4, Tryd.ntmps4
  go_wp2_with fail
  obtain ⟨w_0, hw_0⟩ : ∃ x, ((w.alloc (.cells #[.string x_a, .string y_a] 35)).alloc (.cells #[.int .i64 ms_x, .int .i64 mk_x, .string mb_x, .int .i64 mg_x, .bool mh_x, .string mp_x] 37)) = x := ⟨_, rfl⟩
  rw [hw_0]
  have HB := Lib.hid (show Below w.heap.size w w_0 by rw [← hw_0]; exact (((Below.refl w.heap.size w).alloc (by first | (simp; done) | (simp; omega)) _).alloc (by first | (simp; done) | (simp; omega)) _))
  have q_a0 : w_0.cell? ⟨w.heap.size, 0, none⟩ = some (.string x_a) := by rw [← hw_0]; simp
  have q_a1 : w_0.cell? ⟨w.heap.size, 1, none⟩ = some (.string y_a) := by rw [← hw_0]; simp
  have b_a : w.heap.size < w_0.heap.size := World.block_lt_of_cell? _ _ q_a0
  have q_x0 : w_0.cell? ⟨w.heap.size + 1, 0, none⟩ = some (.int .i64 ms_x) := by rw [← hw_0]; simp
  have q_x1 : w_0.cell? ⟨w.heap.size + 1, 1, none⟩ = some (.int .i64 mk_x) := by rw [← hw_0]; simp
  have q_x2 : w_0.cell? ⟨w.heap.size + 1, 2, none⟩ = some (.string mb_x) := by rw [← hw_0]; simp
  have q_x3 : w_0.cell? ⟨w.heap.size + 1, 3, none⟩ = some (.int .i64 mg_x) := by rw [← hw_0]; simp
  have q_x4 : w_0.cell? ⟨w.heap.size + 1, 4, none⟩ = some (.bool mh_x) := by rw [← hw_0]; simp
  have q_x5 : w_0.cell? ⟨w.heap.size + 1, 5, none⟩ = some (.string mp_x) := by rw [← hw_0]; simp
  have b_x : w.heap.size + 1 < w_0.heap.size := World.block_lt_of_cell? _ _ q_x0
  have HS0 := Lib.hid (show w.heap.size + 2 ≤ w_0.heap.size by rw [← hw_0]; simp)
  clear hw_0
  go_wp2_with fail
  refine (sz_ServerS (rwV (.slice va_l vn_l vc_l) sv_l) (rwV_is _ _) 1048576 (by omega) (by omega) _ (rwV_reads ((HRH_l.out.below HB.out (Nat.le_refl _)).mono HB.out.size)) HSM_l.out).mono ?_
  rintro e w_1 ⟨r, rfl, lo_r, hi_r, hg⟩
  have hB := hg.below
  replace q_a0 := (hB.cell (show (⟨w.heap.size, 0, none⟩ : Addr).block < _ from World.block_lt_of_cell? _ _ q_a0)).trans q_a0
  replace q_a1 := (hB.cell (show (⟨w.heap.size, 1, none⟩ : Addr).block < _ from World.block_lt_of_cell? _ _ q_a1)).trans q_a1
  replace b_a : w.heap.size < w_1.heap.size := World.block_lt_of_cell? _ _ q_a0
  replace q_x0 := (hB.cell (show (⟨w.heap.size + 1, 0, none⟩ : Addr).block < _ from World.block_lt_of_cell? _ _ q_x0)).trans q_x0
  replace q_x1 := (hB.cell (show (⟨w.heap.size + 1, 1, none⟩ : Addr).block < _ from World.block_lt_of_cell? _ _ q_x1)).trans q_x1
  replace q_x2 := (hB.cell (show (⟨w.heap.size + 1, 2, none⟩ : Addr).block < _ from World.block_lt_of_cell? _ _ q_x2)).trans q_x2
  replace q_x3 := (hB.cell (show (⟨w.heap.size + 1, 3, none⟩ : Addr).block < _ from World.block_lt_of_cell? _ _ q_x3)).trans q_x3
  replace q_x4 := (hB.cell (show (⟨w.heap.size + 1, 4, none⟩ : Addr).block < _ from World.block_lt_of_cell? _ _ q_x4)).trans q_x4
  replace q_x5 := (hB.cell (show (⟨w.heap.size + 1, 5, none⟩ : Addr).block < _ from World.block_lt_of_cell? _ _ q_x5)).trans q_x5
  replace b_x : w.heap.size + 1 < w_1.heap.size := World.block_lt_of_cell? _ _ q_x0
  have HS1 := Lib.hid hB.size
  replace HB := Lib.hid (HB.out.trans (hB.mono HB.out.size))
  clear hB hg
  by_cases neg_r : r < 0
  · go_wp2_with fail
    go_ret
    exact ⟨rfl, HB.out⟩
  replace hi_r := hi_r (by omega)
  have hu_r : r ≤ 1048576 := by omega
  have HWH_l := Lib.hid (show (rwV (.slice va_l vn_l vc_l) sv_l).weight ≤ 1048576 by omega); clear hi_r
  have HSO_l := Lib.hid (ssOk_of HWH_l.out)
  go_wp2_with fail
  refine (szA_any x_a y_a r ra1 ra2 (by omega) (by omega) _).mono ?_
  rintro e w_2 ⟨r2, rfl, lo_r2, hi_r2, hb⟩
  have hB := hb
  replace q_a0 := (hB.cell (show (⟨w.heap.size, 0, none⟩ : Addr).block < _ from World.block_lt_of_cell? _ _ q_a0)).trans q_a0
  replace q_a1 := (hB.cell (show (⟨w.heap.size, 1, none⟩ : Addr).block < _ from World.block_lt_of_cell? _ _ q_a1)).trans q_a1
  replace b_a : w.heap.size < w_2.heap.size := World.block_lt_of_cell? _ _ q_a0
  replace q_x0 := (hB.cell (show (⟨w.heap.size + 1, 0, none⟩ : Addr).block < _ from World.block_lt_of_cell? _ _ q_x0)).trans q_x0
  replace q_x1 := (hB.cell (show (⟨w.heap.size + 1, 1, none⟩ : Addr).block < _ from World.block_lt_of_cell? _ _ q_x1)).trans q_x1
  replace q_x2 := (hB.cell (show (⟨w.heap.size + 1, 2, none⟩ : Addr).block < _ from World.block_lt_of_cell? _ _ q_x2)).trans q_x2
  replace q_x3 := (hB.cell (show (⟨w.heap.size + 1, 3, none⟩ : Addr).block < _ from World.block_lt_of_cell? _ _ q_x3)).trans q_x3
  replace q_x4 := (hB.cell (show (⟨w.heap.size + 1, 4, none⟩ : Addr).block < _ from World.block_lt_of_cell? _ _ q_x4)).trans q_x4
  replace q_x5 := (hB.cell (show (⟨w.heap.size + 1, 5, none⟩ : Addr).block < _ from World.block_lt_of_cell? _ _ q_x5)).trans q_x5
  replace b_x : w.heap.size + 1 < w_2.heap.size := World.block_lt_of_cell? _ _ q_x0
  have HS2 := Lib.hid hB.size
  replace HB := Lib.hid (HB.out.trans (hB.mono HB.out.size))
  clear hB hb
  by_cases neg_r2 : r2 < 0
  · go_wp2_with fail
    go_ret
    exact ⟨rfl, HB.out⟩
  replace hi_r2 := hi_r2 (by omega)
  have ZA := Lib.hid (show x_a.size ≤ 1048576 ∧ y_a.size ≤ 1048576 by omega)
  have up_r2 : r2 ≤ 1048576 := by omega
  clear hi_r2
  go_wp2_with fail
  refine (szR_any ms_x mk_x mb_x mg_x mh_x mp_x r2 z1_x z2_x (by omega) (by omega) _).mono ?_
  rintro e w_3 ⟨r3, rfl, lo_r3, hi_r3, hb⟩
  have hB := hb
  replace q_a0 := (hB.cell (show (⟨w.heap.size, 0, none⟩ : Addr).block < _ from World.block_lt_of_cell? _ _ q_a0)).trans q_a0
  replace q_a1 := (hB.cell (show (⟨w.heap.size, 1, none⟩ : Addr).block < _ from World.block_lt_of_cell? _ _ q_a1)).trans q_a1
  replace b_a : w.heap.size < w_3.heap.size := World.block_lt_of_cell? _ _ q_a0
  replace q_x0 := (hB.cell (show (⟨w.heap.size + 1, 0, none⟩ : Addr).block < _ from World.block_lt_of_cell? _ _ q_x0)).trans q_x0
  replace q_x1 := (hB.cell (show (⟨w.heap.size + 1, 1, none⟩ : Addr).block < _ from World.block_lt_of_cell? _ _ q_x1)).trans q_x1
  replace q_x2 := (hB.cell (show (⟨w.heap.size + 1, 2, none⟩ : Addr).block < _ from World.block_lt_of_cell? _ _ q_x2)).trans q_x2
  replace q_x3 := (hB.cell (show (⟨w.heap.size + 1, 3, none⟩ : Addr).block < _ from World.block_lt_of_cell? _ _ q_x3)).trans q_x3
  replace q_x4 := (hB.cell (show (⟨w.heap.size + 1, 4, none⟩ : Addr).block < _ from World.block_lt_of_cell? _ _ q_x4)).trans q_x4
  replace q_x5 := (hB.cell (show (⟨w.heap.size + 1, 5, none⟩ : Addr).block < _ from World.block_lt_of_cell? _ _ q_x5)).trans q_x5
  replace b_x : w.heap.size + 1 < w_3.heap.size := World.block_lt_of_cell? _ _ q_x0
  have HS3 := Lib.hid hB.size
  replace HB := Lib.hid (HB.out.trans (hB.mono HB.out.size))
  clear hB hb
  by_cases neg_r3 : r3 < 0
  · go_wp2_with fail
    go_ret
    exact ⟨rfl, HB.out⟩
  replace hi_r3 := hi_r3 (by omega)
  have ZR := Lib.hid (show mb_x.size ≤ 1048576 ∧ mp_x.size ≤ 1048576 by omega)
  clear hi_r3
  obtain ⟨PV, hPV⟩ : ∃ x, putV (sv_l.map Prod.fst) x_a y_a ⟨ms_x, mk_x, mb_x, mg_x, mh_x, mp_x⟩ = x := ⟨_, rfl⟩; obtain ⟨PB, hPB⟩ : ∃ x, putB (sv_l.map Prod.fst) x_a y_a ⟨ms_x, mk_x, mb_x, mg_x, mh_x, mp_x⟩ = x := ⟨_, rfl⟩
  have HPV := Lib.hid hPV; have HPB := Lib.hid hPB; clear hPV hPB
  have hBB : (PB == PB) = true := beq_self_eq_true _; have hBN : (PB != PB) = false := bne_self_eq_false _
  have HCspec := Lib.hid (fun (a : Option Addr) (n c : Nat) (us : List Se) (X : World) (e : us.map Prod.fst = sv_l.map Prod.fst) (hr : ReadV X.heap.size X (.slice a n c) us) => show Calls Tryd.prog 14 #[.slice a n c, .agg #[.string x_a, .string y_a], .agg #[.int .i64 ms_x, .int .i64 mk_x, .string mb_x, .int .i64 mg_x, .bool mh_x, .string mp_x]] X (fun e w' => ∃ a n c ts, e = .returned (.tuple #[.slice a n c, .bool PB]) ∧ ts.map Prod.fst = PV ∧ MineV X.heap.size X w' (.slice a n c) ts) from by rw [← HPV.out, ← HPB.out]; exact pfS_any a n c x_a y_a ms_x mk_x mb_x mg_x mh_x mp_x X e hr HSO_l.out ZA.out.1 ZA.out.2 ZR.out.1 ZR.out.2)
  have HCimpl := Lib.hid (fun (a : Option Addr) (n c : Nat) (us : List Se) (X : World) (e : us.map Prod.fst = sv_l.map Prod.fst) (hr : ReadV X.heap.size X (.slice a n c) us) (hm : Max0 X) => show Calls Tryd.prog 18 #[.slice a n c, .agg #[.string x_a, .string y_a], .agg #[.int .i64 ms_x, .int .i64 mk_x, .string mb_x, .int .i64 mg_x, .bool mh_x, .string mp_x]] X (fun e w' => ∃ a n c ts, e = .returned (.tuple #[.slice a n c, .bool PB]) ∧ ts.map Prod.fst = PV ∧ MineV X.heap.size X w' (.slice a n c) ts) from by rw [← HPV.out, ← HPB.out]; exact pfI_any a n c x_a y_a ms_x mk_x mb_x mg_x mh_x mp_x X e hr HSO_l.out ZA.out.1 ZA.out.2 ZR.out.1 ZR.out.2 hm)
  go_upto_region 11 with (fail)
  go_cut [8, 9] from 33 to 42 (fun c d wx => ∃ a2 n2 c2 ts2, c = .slice a2 n2 c2 ∧ d = .bool PB ∧ ts2.map Prod.fst = PV ∧ MineV w_3.heap.size w_3 wx (.slice a2 n2 c2) ts2)
  case first =>
    have KEEP := Lib.hid (fun (w' : World) (h : Below w_3.heap.size w_3 w') => show Below w_3.heap.size w_3 w' ∧ w'.cell? ⟨w.heap.size, 0, none⟩ = some (.string x_a) ∧ w'.cell? ⟨w.heap.size, 1, none⟩ = some (.string y_a) ∧ w'.cell? ⟨w.heap.size + 1, 0, none⟩ = some (.int .i64 ms_x) ∧ w'.cell? ⟨w.heap.size + 1, 1, none⟩ = some (.int .i64 mk_x) ∧ w'.cell? ⟨w.heap.size + 1, 2, none⟩ = some (.string mb_x) ∧ w'.cell? ⟨w.heap.size + 1, 3, none⟩ = some (.int .i64 mg_x) ∧ w'.cell? ⟨w.heap.size + 1, 4, none⟩ = some (.bool mh_x) ∧ w'.cell? ⟨w.heap.size + 1, 5, none⟩ = some (.string mp_x) from ⟨h, (h.cell (show (⟨w.heap.size, 0, none⟩ : Addr).block < _ from World.block_lt_of_cell? _ _ q_a0)).trans q_a0, (h.cell (show (⟨w.heap.size, 1, none⟩ : Addr).block < _ from World.block_lt_of_cell? _ _ q_a1)).trans q_a1, (h.cell (show (⟨w.heap.size + 1, 0, none⟩ : Addr).block < _ from World.block_lt_of_cell? _ _ q_x0)).trans q_x0, (h.cell (show (⟨w.heap.size + 1, 1, none⟩ : Addr).block < _ from World.block_lt_of_cell? _ _ q_x1)).trans q_x1, (h.cell (show (⟨w.heap.size + 1, 2, none⟩ : Addr).block < _ from World.block_lt_of_cell? _ _ q_x2)).trans q_x2, (h.cell (show (⟨w.heap.size + 1, 3, none⟩ : Addr).block < _ from World.block_lt_of_cell? _ _ q_x3)).trans q_x3, (h.cell (show (⟨w.heap.size + 1, 4, none⟩ : Addr).block < _ from World.block_lt_of_cell? _ _ q_x4)).trans q_x4, (h.cell (show (⟨w.heap.size + 1, 5, none⟩ : Addr).block < _ from World.block_lt_of_cell? _ _ q_x5)).trans q_x5⟩)
    go_region_held3 (fun w' => Below w_3.heap.size w_3 w' ∧ w'.cell? ⟨w.heap.size, 0, none⟩ = some (.string x_a) ∧ w'.cell? ⟨w.heap.size, 1, none⟩ = some (.string y_a) ∧ w'.cell? ⟨w.heap.size + 1, 0, none⟩ = some (.int .i64 ms_x) ∧ w'.cell? ⟨w.heap.size + 1, 1, none⟩ = some (.int .i64 mk_x) ∧ w'.cell? ⟨w.heap.size + 1, 2, none⟩ = some (.string mb_x) ∧ w'.cell? ⟨w.heap.size + 1, 3, none⟩ = some (.int .i64 mg_x) ∧ w'.cell? ⟨w.heap.size + 1, 4, none⟩ = some (.bool mh_x) ∧ w'.cell? ⟨w.heap.size + 1, 5, none⟩ = some (.string mp_x)) (exact KEEP.out _ (by repeat' (first | (with_reducible exact Below.refl _ _) | (with_reducible exact hPE) | (with_reducible exact hPQ) | (with_reducible exact hPR) | (with_reducible exact hPB) | (with_reducible refine bl_dw ?_) | (with_reducible refine bl_aw ?_ _)))) (first | (go_at_call 15; (with_reducible refine (tv_any HRH_l.out HWH_l.out (bl_via HB.out HB.out.size (by repeat' (first | (with_reducible exact Below.refl _ _) | (with_reducible exact hPE) | (with_reducible exact hPQ) | (with_reducible exact hPR) | (with_reducible exact hPB) | (with_reducible refine bl_dw ?_) | (with_reducible refine bl_aw ?_ _))))).mono ?_); rintro e wB ⟨aB, nB, cB, usB, rfl, heB, hrB, hbB⟩; have hPB := bl_tr (show Below w_3.heap.size w_3 _ from (by repeat' (first | (with_reducible exact Below.refl _ _) | (with_reducible exact hPE) | (with_reducible exact hPQ) | (with_reducible exact hPR) | (with_reducible exact hPB) | (with_reducible refine bl_dw ?_) | (with_reducible refine bl_aw ?_ _)))) hbB) | (go_at_call 16; (with_reducible refine (toA_any x_a y_a _).mono ?_); rintro e wQ ⟨rfl, hgQ⟩; have hbQ := hgQ.below; have hPQ := bl_tr (show Below w_3.heap.size w_3 _ from (by repeat' (first | (with_reducible exact Below.refl _ _) | (with_reducible exact hPE) | (with_reducible exact hPQ) | (with_reducible exact hPR) | (with_reducible exact hPB) | (with_reducible refine bl_dw ?_) | (with_reducible refine bl_aw ?_ _)))) hbQ; have hBQ := bl_tr (show Below wB.heap.size wB _ from (by repeat' (first | (with_reducible exact Below.refl _ _) | (with_reducible refine bl_dw ?_) | (with_reducible refine bl_aw ?_ _)))) hbQ) | (go_at_call 17; (with_reducible refine (toR_any ms_x mk_x mb_x mg_x mh_x mp_x _).mono ?_); rintro e wR ⟨rfl, hgR⟩; have hbR := hgR.below; have hPR := bl_tr (show Below w_3.heap.size w_3 _ from (by repeat' (first | (with_reducible exact Below.refl _ _) | (with_reducible exact hPE) | (with_reducible exact hPQ) | (with_reducible exact hPR) | (with_reducible exact hPB) | (with_reducible refine bl_dw ?_) | (with_reducible refine bl_aw ?_ _)))) hbR; have hBR := bl_tr (show Below wB.heap.size wB _ from (by repeat' (first | (with_reducible exact Below.refl _ _) | (with_reducible exact hBQ) | (with_reducible refine bl_dw ?_) | (with_reducible refine bl_aw ?_ _)))) hbR) | (go_at_call 14; (with_reducible refine (HCspec.out _ _ _ _ _ heB (hrB.up (by repeat' (first | (with_reducible exact Below.refl _ _) | (with_reducible exact hBR) | (with_reducible exact hBQ) | (with_reducible refine bl_dw ?_) | (with_reducible refine bl_aw ?_ _))))).mono ?_); rintro e wE ⟨aE, nE, cE, tsE, rfl, hmapE, hmE⟩; have hbE := hmE.row.below; have hPE := bl_tr (show Below w_3.heap.size w_3 _ from (by repeat' (first | (with_reducible exact Below.refl _ _) | (with_reducible exact hPE) | (with_reducible exact hPQ) | (with_reducible exact hPR) | (with_reducible exact hPB) | (with_reducible refine bl_dw ?_) | (with_reducible refine bl_aw ?_ _)))) hbE; have hdE := hmE.down hPE (Below.size (show Below w_3.heap.size w_3 _ from (by repeat' (first | (with_reducible exact Below.refl _ _) | (with_reducible exact hPQ) | (with_reducible exact hPR) | (with_reducible exact hPB) | (with_reducible refine bl_dw ?_) | (with_reducible refine bl_aw ?_ _)))))))
    all_goals
      go_wp2_with fail
      go_meet
      exact ⟨aE, nE, cE, tsE, rfl, rfl, hmapE, by repeat' (first | (with_reducible exact hdE) | (refine put_dr ?_))⟩
  obtain ⟨va_p, vn_p, vc_p, ts_p, rfl, rfl, hmap, hmv⟩ := hcut
  rename World => w_4
  have hB := hmv.row.below
  replace q_a0 := (hB.cell (show (⟨w.heap.size, 0, none⟩ : Addr).block < _ from World.block_lt_of_cell? _ _ q_a0)).trans q_a0
  replace q_a1 := (hB.cell (show (⟨w.heap.size, 1, none⟩ : Addr).block < _ from World.block_lt_of_cell? _ _ q_a1)).trans q_a1
  replace b_a : w.heap.size < w_4.heap.size := World.block_lt_of_cell? _ _ q_a0
  replace q_x0 := (hB.cell (show (⟨w.heap.size + 1, 0, none⟩ : Addr).block < _ from World.block_lt_of_cell? _ _ q_x0)).trans q_x0
  replace q_x1 := (hB.cell (show (⟨w.heap.size + 1, 1, none⟩ : Addr).block < _ from World.block_lt_of_cell? _ _ q_x1)).trans q_x1
  replace q_x2 := (hB.cell (show (⟨w.heap.size + 1, 2, none⟩ : Addr).block < _ from World.block_lt_of_cell? _ _ q_x2)).trans q_x2
  replace q_x3 := (hB.cell (show (⟨w.heap.size + 1, 3, none⟩ : Addr).block < _ from World.block_lt_of_cell? _ _ q_x3)).trans q_x3
  replace q_x4 := (hB.cell (show (⟨w.heap.size + 1, 4, none⟩ : Addr).block < _ from World.block_lt_of_cell? _ _ q_x4)).trans q_x4
  replace q_x5 := (hB.cell (show (⟨w.heap.size + 1, 5, none⟩ : Addr).block < _ from World.block_lt_of_cell? _ _ q_x5)).trans q_x5
  replace b_x : w.heap.size + 1 < w_4.heap.size := World.block_lt_of_cell? _ _ q_x0
  have Hp := Lib.hid (ownL_one.2 hmv.own)
  have HS4 := Lib.hid hB.size
  replace HB := Lib.hid (HB.out.trans (hB.mono HB.out.size))
  have HN_p := Lib.hid (show (blocksL [(rwV (.slice va_p vn_p vc_p) ts_p)]).Nodup by rw [blocksL, blocksL, List.append_nil]; exact hmv.nodup)
  have HMP_p := Lib.hid hmap
  clear hB hmap hmv
  go_wp2_with fail
  refine (toV_one _ sv_l _ (rwV_reads ((HRH_l.out.below HB.out (Nat.le_refl _)).mono HB.out.size)) HWH_l.out).mono ?_
  rintro e w_5 ⟨y_z, rfl, i_z, d_z, ho, hn, hb⟩
  have hB := hb
  replace q_a0 := (hB.cell (show (⟨w.heap.size, 0, none⟩ : Addr).block < _ from World.block_lt_of_cell? _ _ q_a0)).trans q_a0
  replace q_a1 := (hB.cell (show (⟨w.heap.size, 1, none⟩ : Addr).block < _ from World.block_lt_of_cell? _ _ q_a1)).trans q_a1
  replace b_a : w.heap.size < w_5.heap.size := World.block_lt_of_cell? _ _ q_a0
  replace q_x0 := (hB.cell (show (⟨w.heap.size + 1, 0, none⟩ : Addr).block < _ from World.block_lt_of_cell? _ _ q_x0)).trans q_x0
  replace q_x1 := (hB.cell (show (⟨w.heap.size + 1, 1, none⟩ : Addr).block < _ from World.block_lt_of_cell? _ _ q_x1)).trans q_x1
  replace q_x2 := (hB.cell (show (⟨w.heap.size + 1, 2, none⟩ : Addr).block < _ from World.block_lt_of_cell? _ _ q_x2)).trans q_x2
  replace q_x3 := (hB.cell (show (⟨w.heap.size + 1, 3, none⟩ : Addr).block < _ from World.block_lt_of_cell? _ _ q_x3)).trans q_x3
  replace q_x4 := (hB.cell (show (⟨w.heap.size + 1, 4, none⟩ : Addr).block < _ from World.block_lt_of_cell? _ _ q_x4)).trans q_x4
  replace q_x5 := (hB.cell (show (⟨w.heap.size + 1, 5, none⟩ : Addr).block < _ from World.block_lt_of_cell? _ _ q_x5)).trans q_x5
  replace b_x : w.heap.size + 1 < w_5.heap.size := World.block_lt_of_cell? _ _ q_x0
  replace Hp := Lib.hid (ownL_later Hp.out hB)
  have Hz := Lib.hid (ho)
  have HS5 := Lib.hid hB.size
  replace HB := Lib.hid (HB.out.trans (hB.mono HB.out.size))
  have HI_z := Lib.hid i_z; have HD_z := Lib.hid d_z; have HN_z := Lib.hid hn
  obtain ⟨c_z, hc_z⟩ : ∃ c, y_z.cell = c := ⟨_, rfl⟩
  rw [hc_z]
  have HC_z := Lib.hid hc_z
  clear hB ho hn hb i_z d_z hc_z
  obtain ⟨sza, szn, szc, hsx⟩ := sl_form (is_sl_ServerS HI_z.out) (rd_of (ownL_one.1 Hz.out))
  have hcs := HC_z.out; rw [hsx] at hcs; rw [← hcs]; have HCS := Lib.hid hsx; clear hcs
  obtain ⟨us_z, hue, hur⟩ := servers_of_data HD_z.out (rd_of (ownL_one.1 Hz.out)); rw [hsx] at hur; have HUE_z := Lib.hid hue; have HUR_z := Lib.hid hur; clear hue hur hsx
  go_upto_region 13 with (fail)
  go_cut [11, 12] from 45 to 53 (fun c d wx => ∃ a2 n2 c2 ts2, c = .slice a2 n2 c2 ∧ d = .bool PB ∧ ts2.map Prod.fst = PV ∧ MineV w_5.heap.size w_5 wx (.slice a2 n2 c2) ts2)
  case first =>
    have KEEP := Lib.hid (fun (w' : World) (h : Below w_5.heap.size w_5 w') => show Below w_5.heap.size w_5 w' ∧ w'.cell? ⟨w.heap.size, 0, none⟩ = some (.string x_a) ∧ w'.cell? ⟨w.heap.size, 1, none⟩ = some (.string y_a) ∧ w'.cell? ⟨w.heap.size + 1, 0, none⟩ = some (.int .i64 ms_x) ∧ w'.cell? ⟨w.heap.size + 1, 1, none⟩ = some (.int .i64 mk_x) ∧ w'.cell? ⟨w.heap.size + 1, 2, none⟩ = some (.string mb_x) ∧ w'.cell? ⟨w.heap.size + 1, 3, none⟩ = some (.int .i64 mg_x) ∧ w'.cell? ⟨w.heap.size + 1, 4, none⟩ = some (.bool mh_x) ∧ w'.cell? ⟨w.heap.size + 1, 5, none⟩ = some (.string mp_x) from ⟨h, (h.cell (show (⟨w.heap.size, 0, none⟩ : Addr).block < _ from World.block_lt_of_cell? _ _ q_a0)).trans q_a0, (h.cell (show (⟨w.heap.size, 1, none⟩ : Addr).block < _ from World.block_lt_of_cell? _ _ q_a1)).trans q_a1, (h.cell (show (⟨w.heap.size + 1, 0, none⟩ : Addr).block < _ from World.block_lt_of_cell? _ _ q_x0)).trans q_x0, (h.cell (show (⟨w.heap.size + 1, 1, none⟩ : Addr).block < _ from World.block_lt_of_cell? _ _ q_x1)).trans q_x1, (h.cell (show (⟨w.heap.size + 1, 2, none⟩ : Addr).block < _ from World.block_lt_of_cell? _ _ q_x2)).trans q_x2, (h.cell (show (⟨w.heap.size + 1, 3, none⟩ : Addr).block < _ from World.block_lt_of_cell? _ _ q_x3)).trans q_x3, (h.cell (show (⟨w.heap.size + 1, 4, none⟩ : Addr).block < _ from World.block_lt_of_cell? _ _ q_x4)).trans q_x4, (h.cell (show (⟨w.heap.size + 1, 5, none⟩ : Addr).block < _ from World.block_lt_of_cell? _ _ q_x5)).trans q_x5⟩)
    go_region_held3 (fun w' => Below w_5.heap.size w_5 w' ∧ w'.cell? ⟨w.heap.size, 0, none⟩ = some (.string x_a) ∧ w'.cell? ⟨w.heap.size, 1, none⟩ = some (.string y_a) ∧ w'.cell? ⟨w.heap.size + 1, 0, none⟩ = some (.int .i64 ms_x) ∧ w'.cell? ⟨w.heap.size + 1, 1, none⟩ = some (.int .i64 mk_x) ∧ w'.cell? ⟨w.heap.size + 1, 2, none⟩ = some (.string mb_x) ∧ w'.cell? ⟨w.heap.size + 1, 3, none⟩ = some (.int .i64 mg_x) ∧ w'.cell? ⟨w.heap.size + 1, 4, none⟩ = some (.bool mh_x) ∧ w'.cell? ⟨w.heap.size + 1, 5, none⟩ = some (.string mp_x)) (exact KEEP.out _ (by repeat' (first | (with_reducible exact Below.refl _ _) | (with_reducible exact hPE) | (with_reducible exact hPQ) | (with_reducible exact hPR) | (with_reducible exact hPB) | (with_reducible refine bl_dw ?_) | (with_reducible refine bl_aw ?_ _)))) (first | (go_at_call 16; (with_reducible refine (toA_any x_a y_a _).mono ?_); rintro e wQ ⟨rfl, hgQ⟩; have hbQ := hgQ.below; have hPQ := bl_tr (show Below w_5.heap.size w_5 _ from (by repeat' (first | (with_reducible exact Below.refl _ _) | (with_reducible exact hPE) | (with_reducible exact hPQ) | (with_reducible exact hPR) | (with_reducible exact hPB) | (with_reducible refine bl_dw ?_) | (with_reducible refine bl_aw ?_ _)))) hbQ) | (go_at_call 17; (with_reducible refine (toR_any ms_x mk_x mb_x mg_x mh_x mp_x _).mono ?_); rintro e wR ⟨rfl, hgR⟩; have hbR := hgR.below; have hPR := bl_tr (show Below w_5.heap.size w_5 _ from (by repeat' (first | (with_reducible exact Below.refl _ _) | (with_reducible exact hPE) | (with_reducible exact hPQ) | (with_reducible exact hPR) | (with_reducible exact hPB) | (with_reducible refine bl_dw ?_) | (with_reducible refine bl_aw ?_ _)))) hbR) | (go_at_call 18; (with_reducible refine (HCimpl.out _ _ _ _ _ HUE_z.out (HUR_z.out.up (by repeat' (first | (with_reducible exact Below.refl _ _) | (with_reducible exact hPE) | (with_reducible exact hPQ) | (with_reducible exact hPR) | (with_reducible exact hPB) | (with_reducible refine bl_dw ?_) | (with_reducible refine bl_aw ?_ _)))) (HMX.out.on (bl_via HB.out HB.out.size (by repeat' (first | (with_reducible exact Below.refl _ _) | (with_reducible exact hPE) | (with_reducible exact hPQ) | (with_reducible exact hPR) | (with_reducible exact hPB) | (with_reducible refine bl_dw ?_) | (with_reducible refine bl_aw ?_ _)))))).mono ?_); rintro e wE ⟨aE, nE, cE, tsE, rfl, hmapE, hmE⟩; have hbE := hmE.row.below; have hPE := bl_tr (show Below w_5.heap.size w_5 _ from (by repeat' (first | (with_reducible exact Below.refl _ _) | (with_reducible exact hPE) | (with_reducible exact hPQ) | (with_reducible exact hPR) | (with_reducible exact hPB) | (with_reducible refine bl_dw ?_) | (with_reducible refine bl_aw ?_ _)))) hbE; have hdE := hmE.down hPE (Below.size (show Below w_5.heap.size w_5 _ from (by repeat' (first | (with_reducible exact Below.refl _ _) | (with_reducible exact hPQ) | (with_reducible exact hPR) | (with_reducible exact hPB) | (with_reducible refine bl_dw ?_) | (with_reducible refine bl_aw ?_ _)))))))
    all_goals
      go_wp2_with fail
      go_meet
      exact ⟨aE, nE, cE, tsE, rfl, rfl, hmapE, by repeat' (first | (with_reducible exact hdE) | (refine put_dr ?_))⟩
  obtain ⟨va_g, vn_g, vc_g, ts_g, rfl, rfl, hmap, hmv⟩ := hcut
  rename World => w_6
  have hB := hmv.row.below
  replace q_a0 := (hB.cell (show (⟨w.heap.size, 0, none⟩ : Addr).block < _ from World.block_lt_of_cell? _ _ q_a0)).trans q_a0
  replace q_a1 := (hB.cell (show (⟨w.heap.size, 1, none⟩ : Addr).block < _ from World.block_lt_of_cell? _ _ q_a1)).trans q_a1
  replace b_a : w.heap.size < w_6.heap.size := World.block_lt_of_cell? _ _ q_a0
  replace q_x0 := (hB.cell (show (⟨w.heap.size + 1, 0, none⟩ : Addr).block < _ from World.block_lt_of_cell? _ _ q_x0)).trans q_x0
  replace q_x1 := (hB.cell (show (⟨w.heap.size + 1, 1, none⟩ : Addr).block < _ from World.block_lt_of_cell? _ _ q_x1)).trans q_x1
  replace q_x2 := (hB.cell (show (⟨w.heap.size + 1, 2, none⟩ : Addr).block < _ from World.block_lt_of_cell? _ _ q_x2)).trans q_x2
  replace q_x3 := (hB.cell (show (⟨w.heap.size + 1, 3, none⟩ : Addr).block < _ from World.block_lt_of_cell? _ _ q_x3)).trans q_x3
  replace q_x4 := (hB.cell (show (⟨w.heap.size + 1, 4, none⟩ : Addr).block < _ from World.block_lt_of_cell? _ _ q_x4)).trans q_x4
  replace q_x5 := (hB.cell (show (⟨w.heap.size + 1, 5, none⟩ : Addr).block < _ from World.block_lt_of_cell? _ _ q_x5)).trans q_x5
  replace b_x : w.heap.size + 1 < w_6.heap.size := World.block_lt_of_cell? _ _ q_x0
  replace Hp := Lib.hid (ownL_later Hp.out hB)
  replace Hz := Lib.hid (ownL_later Hz.out hB)
  have Hg := Lib.hid (ownL_one.2 hmv.own)
  have HS6 := Lib.hid hB.size
  replace HB := Lib.hid (HB.out.trans (hB.mono HB.out.size))
  have HN_g := Lib.hid (show (blocksL [(rwV (.slice va_g vn_g vc_g) ts_g)]).Nodup by rw [blocksL, blocksL, List.append_nil]; exact hmv.nodup)
  have HMP_g := Lib.hid hmap
  clear hB hmap hmv
  go_wp2_with fail
  refine ((eq_ServerS (rwV (.slice va_g vn_g vc_g) ts_g) (rwV (.slice va_p vn_p vc_p) ts_p) (rwV_is _ _) (rwV_is _ _) (rwV_data _ _ (HMP_g.out.trans HMP_p.out.symm)) _ (rd_of (ownL_one.1 Hg.out)) (rd_of (ownL_one.1 Hp.out)))).mono ?_
  rintro e w_7 ⟨rfl, hg⟩
  have hB := hg.below
  replace q_a0 := (hB.cell (show (⟨w.heap.size, 0, none⟩ : Addr).block < _ from World.block_lt_of_cell? _ _ q_a0)).trans q_a0
  replace q_a1 := (hB.cell (show (⟨w.heap.size, 1, none⟩ : Addr).block < _ from World.block_lt_of_cell? _ _ q_a1)).trans q_a1
  replace b_a : w.heap.size < w_7.heap.size := World.block_lt_of_cell? _ _ q_a0
  replace q_x0 := (hB.cell (show (⟨w.heap.size + 1, 0, none⟩ : Addr).block < _ from World.block_lt_of_cell? _ _ q_x0)).trans q_x0
  replace q_x1 := (hB.cell (show (⟨w.heap.size + 1, 1, none⟩ : Addr).block < _ from World.block_lt_of_cell? _ _ q_x1)).trans q_x1
  replace q_x2 := (hB.cell (show (⟨w.heap.size + 1, 2, none⟩ : Addr).block < _ from World.block_lt_of_cell? _ _ q_x2)).trans q_x2
  replace q_x3 := (hB.cell (show (⟨w.heap.size + 1, 3, none⟩ : Addr).block < _ from World.block_lt_of_cell? _ _ q_x3)).trans q_x3
  replace q_x4 := (hB.cell (show (⟨w.heap.size + 1, 4, none⟩ : Addr).block < _ from World.block_lt_of_cell? _ _ q_x4)).trans q_x4
  replace q_x5 := (hB.cell (show (⟨w.heap.size + 1, 5, none⟩ : Addr).block < _ from World.block_lt_of_cell? _ _ q_x5)).trans q_x5
  replace b_x : w.heap.size + 1 < w_7.heap.size := World.block_lt_of_cell? _ _ q_x0
  replace Hp := Lib.hid (ownL_later Hp.out hB)
  replace Hz := Lib.hid (ownL_later Hz.out hB)
  replace Hg := Lib.hid (ownL_later Hg.out hB)
  have HS7 := Lib.hid hB.size
  replace HB := Lib.hid (HB.out.trans (hB.mono HB.out.size))
  clear hB hg
  go_wp2_with fail
  refine (toV_one _ sv_l _ (rwV_reads ((HRH_l.out.below HB.out (Nat.le_refl _)).mono HB.out.size)) HWH_l.out).mono ?_
  rintro e w_8 ⟨y_v, rfl, i_v, d_v, ho, hn, hb⟩
  have hB := hb
  replace q_a0 := (hB.cell (show (⟨w.heap.size, 0, none⟩ : Addr).block < _ from World.block_lt_of_cell? _ _ q_a0)).trans q_a0
  replace q_a1 := (hB.cell (show (⟨w.heap.size, 1, none⟩ : Addr).block < _ from World.block_lt_of_cell? _ _ q_a1)).trans q_a1
  replace b_a : w.heap.size < w_8.heap.size := World.block_lt_of_cell? _ _ q_a0
  replace q_x0 := (hB.cell (show (⟨w.heap.size + 1, 0, none⟩ : Addr).block < _ from World.block_lt_of_cell? _ _ q_x0)).trans q_x0
  replace q_x1 := (hB.cell (show (⟨w.heap.size + 1, 1, none⟩ : Addr).block < _ from World.block_lt_of_cell? _ _ q_x1)).trans q_x1
  replace q_x2 := (hB.cell (show (⟨w.heap.size + 1, 2, none⟩ : Addr).block < _ from World.block_lt_of_cell? _ _ q_x2)).trans q_x2
  replace q_x3 := (hB.cell (show (⟨w.heap.size + 1, 3, none⟩ : Addr).block < _ from World.block_lt_of_cell? _ _ q_x3)).trans q_x3
  replace q_x4 := (hB.cell (show (⟨w.heap.size + 1, 4, none⟩ : Addr).block < _ from World.block_lt_of_cell? _ _ q_x4)).trans q_x4
  replace q_x5 := (hB.cell (show (⟨w.heap.size + 1, 5, none⟩ : Addr).block < _ from World.block_lt_of_cell? _ _ q_x5)).trans q_x5
  replace b_x : w.heap.size + 1 < w_8.heap.size := World.block_lt_of_cell? _ _ q_x0
  replace Hp := Lib.hid (ownL_later Hp.out hB)
  replace Hz := Lib.hid (ownL_later Hz.out hB)
  replace Hg := Lib.hid (ownL_later Hg.out hB)
  have Hv := Lib.hid (ho)
  have HS8 := Lib.hid hB.size
  replace HB := Lib.hid (HB.out.trans (hB.mono HB.out.size))
  have HI_v := Lib.hid i_v; have HD_v := Lib.hid d_v; have HN_v := Lib.hid hn
  obtain ⟨c_v, hc_v⟩ : ∃ c, y_v.cell = c := ⟨_, rfl⟩
  rw [hc_v]
  have HC_v := Lib.hid hc_v
  clear hB ho hn hb i_v d_v hc_v
  go_wp2_with fail
  refine ((HCS.out ▸ HC_v.out ▸ eq_ServerS y_z y_v HI_z.out HI_v.out (HD_z.out.trans HD_v.out.symm) _ (rd_of (ownL_one.1 Hz.out)) (rd_of (ownL_one.1 Hv.out)))).mono ?_
  rintro e w_9 ⟨rfl, hg⟩
  have hB := hg.below
  replace q_a0 := (hB.cell (show (⟨w.heap.size, 0, none⟩ : Addr).block < _ from World.block_lt_of_cell? _ _ q_a0)).trans q_a0
  replace q_a1 := (hB.cell (show (⟨w.heap.size, 1, none⟩ : Addr).block < _ from World.block_lt_of_cell? _ _ q_a1)).trans q_a1
  replace b_a : w.heap.size < w_9.heap.size := World.block_lt_of_cell? _ _ q_a0
  replace q_x0 := (hB.cell (show (⟨w.heap.size + 1, 0, none⟩ : Addr).block < _ from World.block_lt_of_cell? _ _ q_x0)).trans q_x0
  replace q_x1 := (hB.cell (show (⟨w.heap.size + 1, 1, none⟩ : Addr).block < _ from World.block_lt_of_cell? _ _ q_x1)).trans q_x1
  replace q_x2 := (hB.cell (show (⟨w.heap.size + 1, 2, none⟩ : Addr).block < _ from World.block_lt_of_cell? _ _ q_x2)).trans q_x2
  replace q_x3 := (hB.cell (show (⟨w.heap.size + 1, 3, none⟩ : Addr).block < _ from World.block_lt_of_cell? _ _ q_x3)).trans q_x3
  replace q_x4 := (hB.cell (show (⟨w.heap.size + 1, 4, none⟩ : Addr).block < _ from World.block_lt_of_cell? _ _ q_x4)).trans q_x4
  replace q_x5 := (hB.cell (show (⟨w.heap.size + 1, 5, none⟩ : Addr).block < _ from World.block_lt_of_cell? _ _ q_x5)).trans q_x5
  replace b_x : w.heap.size + 1 < w_9.heap.size := World.block_lt_of_cell? _ _ q_x0
  replace Hp := Lib.hid (ownL_later Hp.out hB)
  replace Hz := Lib.hid (ownL_later Hz.out hB)
  replace Hg := Lib.hid (ownL_later Hg.out hB)
  replace Hv := Lib.hid (ownL_later Hv.out hB)
  have HS9 := Lib.hid hB.size
  replace HB := Lib.hid (HB.out.trans (hB.mono HB.out.size))
  clear hB hg
  have HLF := Lib.hid (show ∀ q ∈ sv_l.map Prod.fst, q.2.length ≤ 1048576 from fun q hq => by obtain ⟨p, hp, rfl⟩ := List.mem_map.1 hq; exact HSO_l.out.few p hp)
  have HLL := Lib.hid (show (sv_l.map Prod.fst).length ≤ 1048576 by rw [List.length_map]; exact HSO_l.out.len)
  have HCT_z := Lib.hid (show 1 + countL [y_z] ≤ 4611686018427387904 by have h1 := count_dataV _ _ HD_z.out; have h2 := srv_count (v := .slice va_l vn_l vc_l) HLF.out HLL.out; rw [← h1] at h2; rw [countL, countL]; omega)
  have NOB_a_z := Lib.hid (show w.heap.size ∉ _ from fun hb => by have hh := ownL_lt Hz.out _ hb; have := HS0.out; have := HS1.out; have := HS2.out; have := HS3.out; have := HS4.out; have := HS5.out; have := HS6.out; have := HS7.out; have := HS8.out; have := HS9.out; omega)
  have NOB_x_z := Lib.hid (show w.heap.size + 1 ∉ _ from fun hb => by have hh := ownL_lt Hz.out _ hb; have := HS0.out; have := HS1.out; have := HS2.out; have := HS3.out; have := HS4.out; have := HS5.out; have := HS6.out; have := HS7.out; have := HS8.out; have := HS9.out; omega)
  go_wp2_with fail
  refine ((HCS.out ▸ mkSv_one y_z HI_z.out _ _ 1 _ rfl _ Hz.out HN_z.out HCT_z.out)).mono ?_
  rintro e w_10 ⟨rfl, hmk, hon⟩
  replace q_a0 := (cell_only (a := ⟨w.heap.size, 0, none⟩) hon (show w.heap.size ∉ _ from fun hb => NOB_a_z.out hb) (World.block_lt_of_cell? _ _ q_a0)).trans q_a0
  replace q_a1 := (cell_only (a := ⟨w.heap.size, 1, none⟩) hon (show w.heap.size ∉ _ from fun hb => NOB_a_z.out hb) (World.block_lt_of_cell? _ _ q_a1)).trans q_a1
  replace b_a : w.heap.size < w_10.heap.size := World.block_lt_of_cell? _ _ q_a0
  replace q_x0 := (cell_only (a := ⟨w.heap.size + 1, 0, none⟩) hon (show w.heap.size + 1 ∉ _ from fun hb => NOB_x_z.out hb) (World.block_lt_of_cell? _ _ q_x0)).trans q_x0
  replace q_x1 := (cell_only (a := ⟨w.heap.size + 1, 1, none⟩) hon (show w.heap.size + 1 ∉ _ from fun hb => NOB_x_z.out hb) (World.block_lt_of_cell? _ _ q_x1)).trans q_x1
  replace q_x2 := (cell_only (a := ⟨w.heap.size + 1, 2, none⟩) hon (show w.heap.size + 1 ∉ _ from fun hb => NOB_x_z.out hb) (World.block_lt_of_cell? _ _ q_x2)).trans q_x2
  replace q_x3 := (cell_only (a := ⟨w.heap.size + 1, 3, none⟩) hon (show w.heap.size + 1 ∉ _ from fun hb => NOB_x_z.out hb) (World.block_lt_of_cell? _ _ q_x3)).trans q_x3
  replace q_x4 := (cell_only (a := ⟨w.heap.size + 1, 4, none⟩) hon (show w.heap.size + 1 ∉ _ from fun hb => NOB_x_z.out hb) (World.block_lt_of_cell? _ _ q_x4)).trans q_x4
  replace q_x5 := (cell_only (a := ⟨w.heap.size + 1, 5, none⟩) hon (show w.heap.size + 1 ∉ _ from fun hb => NOB_x_z.out hb) (World.block_lt_of_cell? _ _ q_x5)).trans q_x5
  replace b_x : w.heap.size + 1 < w_10.heap.size := World.block_lt_of_cell? _ _ q_x0
  have hbk := ownL_back (lo := w.heap.size) HB.out (ownL_mono Hz.out (lo' := w.heap.size) (by have := HS0.out; have := HS1.out; have := HS2.out; have := HS3.out; have := HS4.out; have := HS5.out; have := HS6.out; have := HS7.out; have := HS8.out; have := HS9.out; omega) (Nat.le_refl _)) HB.out.size hon
  replace Hp := Lib.hid (ownL_apart Hp.out Hz.out (by have := HS0.out; have := HS1.out; have := HS2.out; have := HS3.out; have := HS4.out; have := HS5.out; have := HS6.out; have := HS7.out; have := HS8.out; have := HS9.out; omega) hon)
  replace Hg := Lib.hid (ownL_apart Hg.out Hz.out (by have := HS0.out; have := HS1.out; have := HS2.out; have := HS3.out; have := HS4.out; have := HS5.out; have := HS6.out; have := HS7.out; have := HS8.out; have := HS9.out; omega) hon)
  replace Hv := Lib.hid (ownL_apart Hv.out Hz.out (by have := HS0.out; have := HS1.out; have := HS2.out; have := HS3.out; have := HS4.out; have := HS5.out; have := HS6.out; have := HS7.out; have := HS8.out; have := HS9.out; omega) hon)
  replace Hz := Lib.hid hmk
  have HS10 := Lib.hid hon.size
  replace HB := Lib.hid hbk
  clear hbk hmk hon
  obtain ⟨m2, hm2⟩ : ∃ m, 1 + countL [y_z] = m := ⟨_, rfl⟩
  rw [hm2]; have hm20 : ¬ ((m2 : Int) < 0) := by omega
  clear hm2
  have hm2d : decide ((m2 : Int) < 0) = false := decide_eq_false hm20
  go_wp2_with fail
  refine ((eq_ServerS (rwV (.slice va_g vn_g vc_g) ts_g) (rwV (.slice va_p vn_p vc_p) ts_p) (rwV_is _ _) (rwV_is _ _) (rwV_data _ _ (HMP_g.out.trans HMP_p.out.symm)) _ (rd_of (ownL_one.1 Hg.out)) (rd_of (ownL_one.1 Hp.out)))).mono ?_
  rintro e w_11 ⟨rfl, hg⟩
  have hB := hg.below
  replace q_a0 := (hB.cell (show (⟨w.heap.size, 0, none⟩ : Addr).block < _ from World.block_lt_of_cell? _ _ q_a0)).trans q_a0
  replace q_a1 := (hB.cell (show (⟨w.heap.size, 1, none⟩ : Addr).block < _ from World.block_lt_of_cell? _ _ q_a1)).trans q_a1
  replace b_a : w.heap.size < w_11.heap.size := World.block_lt_of_cell? _ _ q_a0
  replace q_x0 := (hB.cell (show (⟨w.heap.size + 1, 0, none⟩ : Addr).block < _ from World.block_lt_of_cell? _ _ q_x0)).trans q_x0
  replace q_x1 := (hB.cell (show (⟨w.heap.size + 1, 1, none⟩ : Addr).block < _ from World.block_lt_of_cell? _ _ q_x1)).trans q_x1
  replace q_x2 := (hB.cell (show (⟨w.heap.size + 1, 2, none⟩ : Addr).block < _ from World.block_lt_of_cell? _ _ q_x2)).trans q_x2
  replace q_x3 := (hB.cell (show (⟨w.heap.size + 1, 3, none⟩ : Addr).block < _ from World.block_lt_of_cell? _ _ q_x3)).trans q_x3
  replace q_x4 := (hB.cell (show (⟨w.heap.size + 1, 4, none⟩ : Addr).block < _ from World.block_lt_of_cell? _ _ q_x4)).trans q_x4
  replace q_x5 := (hB.cell (show (⟨w.heap.size + 1, 5, none⟩ : Addr).block < _ from World.block_lt_of_cell? _ _ q_x5)).trans q_x5
  replace b_x : w.heap.size + 1 < w_11.heap.size := World.block_lt_of_cell? _ _ q_x0
  replace Hp := Lib.hid (ownL_later Hp.out hB)
  replace Hz := Lib.hid (ownL_later Hz.out hB)
  replace Hg := Lib.hid (ownL_later Hg.out hB)
  replace Hv := Lib.hid (ownL_later Hv.out hB)
  have HS11 := Lib.hid hB.size
  replace HB := Lib.hid (HB.out.trans (hB.mono HB.out.size))
  clear hB hg
  have HCT_g := Lib.hid (show 1 + countL [(rwV (.slice va_g vn_g vc_g) ts_g)] ≤ 4611686018427387904 by have h1 := put_count (v := .slice va_g vn_g vc_g) HMP_g.out HPV.out HLF.out HLL.out; rw [countL, countL]; omega)
  have NOB_a_g := Lib.hid (show w.heap.size ∉ _ from fun hb => by have hh := ownL_lt Hg.out _ hb; have := HS0.out; have := HS1.out; have := HS2.out; have := HS3.out; have := HS4.out; have := HS5.out; have := HS6.out; have := HS7.out; have := HS8.out; have := HS9.out; have := HS10.out; have := HS11.out; omega)
  have NOB_x_g := Lib.hid (show w.heap.size + 1 ∉ _ from fun hb => by have hh := ownL_lt Hg.out _ hb; have := HS0.out; have := HS1.out; have := HS2.out; have := HS3.out; have := HS4.out; have := HS5.out; have := HS6.out; have := HS7.out; have := HS8.out; have := HS9.out; have := HS10.out; have := HS11.out; omega)
  go_wp2_with fail
  refine (mkSv_one (rwV (.slice va_g vn_g vc_g) ts_g) (rwV_is _ _) _ _ 1 _ rfl _ Hg.out HN_g.out HCT_g.out).mono ?_
  rintro e w_12 ⟨rfl, hmk, hon⟩
  replace q_a0 := (cell_only (a := ⟨w.heap.size, 0, none⟩) hon (show w.heap.size ∉ _ from fun hb => NOB_a_g.out hb) (World.block_lt_of_cell? _ _ q_a0)).trans q_a0
  replace q_a1 := (cell_only (a := ⟨w.heap.size, 1, none⟩) hon (show w.heap.size ∉ _ from fun hb => NOB_a_g.out hb) (World.block_lt_of_cell? _ _ q_a1)).trans q_a1
  replace b_a : w.heap.size < w_12.heap.size := World.block_lt_of_cell? _ _ q_a0
  replace q_x0 := (cell_only (a := ⟨w.heap.size + 1, 0, none⟩) hon (show w.heap.size + 1 ∉ _ from fun hb => NOB_x_g.out hb) (World.block_lt_of_cell? _ _ q_x0)).trans q_x0
  replace q_x1 := (cell_only (a := ⟨w.heap.size + 1, 1, none⟩) hon (show w.heap.size + 1 ∉ _ from fun hb => NOB_x_g.out hb) (World.block_lt_of_cell? _ _ q_x1)).trans q_x1
  replace q_x2 := (cell_only (a := ⟨w.heap.size + 1, 2, none⟩) hon (show w.heap.size + 1 ∉ _ from fun hb => NOB_x_g.out hb) (World.block_lt_of_cell? _ _ q_x2)).trans q_x2
  replace q_x3 := (cell_only (a := ⟨w.heap.size + 1, 3, none⟩) hon (show w.heap.size + 1 ∉ _ from fun hb => NOB_x_g.out hb) (World.block_lt_of_cell? _ _ q_x3)).trans q_x3
  replace q_x4 := (cell_only (a := ⟨w.heap.size + 1, 4, none⟩) hon (show w.heap.size + 1 ∉ _ from fun hb => NOB_x_g.out hb) (World.block_lt_of_cell? _ _ q_x4)).trans q_x4
  replace q_x5 := (cell_only (a := ⟨w.heap.size + 1, 5, none⟩) hon (show w.heap.size + 1 ∉ _ from fun hb => NOB_x_g.out hb) (World.block_lt_of_cell? _ _ q_x5)).trans q_x5
  replace b_x : w.heap.size + 1 < w_12.heap.size := World.block_lt_of_cell? _ _ q_x0
  have hbk := ownL_back (lo := w.heap.size) HB.out (ownL_mono Hg.out (lo' := w.heap.size) (by have := HS0.out; have := HS1.out; have := HS2.out; have := HS3.out; have := HS4.out; have := HS5.out; have := HS6.out; have := HS7.out; have := HS8.out; have := HS9.out; have := HS10.out; have := HS11.out; omega) (Nat.le_refl _)) HB.out.size hon
  replace Hp := Lib.hid (ownL_apart Hp.out Hg.out (by have := HS0.out; have := HS1.out; have := HS2.out; have := HS3.out; have := HS4.out; have := HS5.out; have := HS6.out; have := HS7.out; have := HS8.out; have := HS9.out; have := HS10.out; have := HS11.out; omega) hon)
  replace Hz := Lib.hid (ownL_apart Hz.out Hg.out (by have := HS0.out; have := HS1.out; have := HS2.out; have := HS3.out; have := HS4.out; have := HS5.out; have := HS6.out; have := HS7.out; have := HS8.out; have := HS9.out; have := HS10.out; have := HS11.out; omega) hon)
  replace Hv := Lib.hid (ownL_apart Hv.out Hg.out (by have := HS0.out; have := HS1.out; have := HS2.out; have := HS3.out; have := HS4.out; have := HS5.out; have := HS6.out; have := HS7.out; have := HS8.out; have := HS9.out; have := HS10.out; have := HS11.out; omega) hon)
  replace Hg := Lib.hid hmk
  have HS12 := Lib.hid hon.size
  replace HB := Lib.hid hbk
  clear hbk hmk hon
  obtain ⟨m, hm⟩ : ∃ m, 1 + countL [(rwV (.slice va_g vn_g vc_g) ts_g)] = m := ⟨_, rfl⟩
  rw [hm]; have HM := Lib.hid hm
  have hmq : ((m : Int) == (m : Int)) = true := beq_self_eq_true _
  have hm0 : ¬ ((m : Int) < 0) := by omega
  clear hm
  go_wp2_with fail
  refine (hdSv_one (rwV (.slice va_g vn_g vc_g) ts_g) (rwV_is _ _) _ 1 _ rfl _ (ownL_read Hg.out (by have := HS0.out; have := HS1.out; have := HS2.out; have := HS3.out; have := HS4.out; have := HS5.out; have := HS6.out; have := HS7.out; have := HS8.out; have := HS9.out; have := HS10.out; have := HS11.out; have := HS12.out; omega)) (Nat.le_refl _) HCT_g.out).mono ?_
  rintro e w_13 ⟨rfl, hg⟩
  have hB := hg.below
  replace q_a0 := (hB.cell (show (⟨w.heap.size, 0, none⟩ : Addr).block < _ from World.block_lt_of_cell? _ _ q_a0)).trans q_a0
  replace q_a1 := (hB.cell (show (⟨w.heap.size, 1, none⟩ : Addr).block < _ from World.block_lt_of_cell? _ _ q_a1)).trans q_a1
  replace b_a : w.heap.size < w_13.heap.size := World.block_lt_of_cell? _ _ q_a0
  replace q_x0 := (hB.cell (show (⟨w.heap.size + 1, 0, none⟩ : Addr).block < _ from World.block_lt_of_cell? _ _ q_x0)).trans q_x0
  replace q_x1 := (hB.cell (show (⟨w.heap.size + 1, 1, none⟩ : Addr).block < _ from World.block_lt_of_cell? _ _ q_x1)).trans q_x1
  replace q_x2 := (hB.cell (show (⟨w.heap.size + 1, 2, none⟩ : Addr).block < _ from World.block_lt_of_cell? _ _ q_x2)).trans q_x2
  replace q_x3 := (hB.cell (show (⟨w.heap.size + 1, 3, none⟩ : Addr).block < _ from World.block_lt_of_cell? _ _ q_x3)).trans q_x3
  replace q_x4 := (hB.cell (show (⟨w.heap.size + 1, 4, none⟩ : Addr).block < _ from World.block_lt_of_cell? _ _ q_x4)).trans q_x4
  replace q_x5 := (hB.cell (show (⟨w.heap.size + 1, 5, none⟩ : Addr).block < _ from World.block_lt_of_cell? _ _ q_x5)).trans q_x5
  replace b_x : w.heap.size + 1 < w_13.heap.size := World.block_lt_of_cell? _ _ q_x0
  replace Hp := Lib.hid (ownL_later Hp.out hB)
  replace Hz := Lib.hid (ownL_later Hz.out hB)
  replace Hg := Lib.hid (ownL_later Hg.out hB)
  replace Hv := Lib.hid (ownL_later Hv.out hB)
  have HS13 := Lib.hid hB.size
  replace HB := Lib.hid (HB.out.trans (hB.mono HB.out.size))
  rw [HM.out]
  clear hB hg
  go_upto_region 30 with (fail)
  go_cut [16, 17] from 95 to 104 (fun c d wx => ∃ a2 n2 c2 ts2, c = .slice a2 n2 c2 ∧ d = .bool PB ∧ ts2.map Prod.fst = PV ∧ MineV w_13.heap.size w_13 wx (.slice a2 n2 c2) ts2)
  case first =>
    have KEEP := Lib.hid (fun (w' : World) (h : Below w_13.heap.size w_13 w') => show Below w_13.heap.size w_13 w' ∧ w'.cell? ⟨w.heap.size, 0, none⟩ = some (.string x_a) ∧ w'.cell? ⟨w.heap.size, 1, none⟩ = some (.string y_a) ∧ w'.cell? ⟨w.heap.size + 1, 0, none⟩ = some (.int .i64 ms_x) ∧ w'.cell? ⟨w.heap.size + 1, 1, none⟩ = some (.int .i64 mk_x) ∧ w'.cell? ⟨w.heap.size + 1, 2, none⟩ = some (.string mb_x) ∧ w'.cell? ⟨w.heap.size + 1, 3, none⟩ = some (.int .i64 mg_x) ∧ w'.cell? ⟨w.heap.size + 1, 4, none⟩ = some (.bool mh_x) ∧ w'.cell? ⟨w.heap.size + 1, 5, none⟩ = some (.string mp_x) from ⟨h, (h.cell (show (⟨w.heap.size, 0, none⟩ : Addr).block < _ from World.block_lt_of_cell? _ _ q_a0)).trans q_a0, (h.cell (show (⟨w.heap.size, 1, none⟩ : Addr).block < _ from World.block_lt_of_cell? _ _ q_a1)).trans q_a1, (h.cell (show (⟨w.heap.size + 1, 0, none⟩ : Addr).block < _ from World.block_lt_of_cell? _ _ q_x0)).trans q_x0, (h.cell (show (⟨w.heap.size + 1, 1, none⟩ : Addr).block < _ from World.block_lt_of_cell? _ _ q_x1)).trans q_x1, (h.cell (show (⟨w.heap.size + 1, 2, none⟩ : Addr).block < _ from World.block_lt_of_cell? _ _ q_x2)).trans q_x2, (h.cell (show (⟨w.heap.size + 1, 3, none⟩ : Addr).block < _ from World.block_lt_of_cell? _ _ q_x3)).trans q_x3, (h.cell (show (⟨w.heap.size + 1, 4, none⟩ : Addr).block < _ from World.block_lt_of_cell? _ _ q_x4)).trans q_x4, (h.cell (show (⟨w.heap.size + 1, 5, none⟩ : Addr).block < _ from World.block_lt_of_cell? _ _ q_x5)).trans q_x5⟩)
    go_region_held3 (fun w' => Below w_13.heap.size w_13 w' ∧ w'.cell? ⟨w.heap.size, 0, none⟩ = some (.string x_a) ∧ w'.cell? ⟨w.heap.size, 1, none⟩ = some (.string y_a) ∧ w'.cell? ⟨w.heap.size + 1, 0, none⟩ = some (.int .i64 ms_x) ∧ w'.cell? ⟨w.heap.size + 1, 1, none⟩ = some (.int .i64 mk_x) ∧ w'.cell? ⟨w.heap.size + 1, 2, none⟩ = some (.string mb_x) ∧ w'.cell? ⟨w.heap.size + 1, 3, none⟩ = some (.int .i64 mg_x) ∧ w'.cell? ⟨w.heap.size + 1, 4, none⟩ = some (.bool mh_x) ∧ w'.cell? ⟨w.heap.size + 1, 5, none⟩ = some (.string mp_x)) (exact KEEP.out _ (by repeat' (first | (with_reducible exact Below.refl _ _) | (with_reducible exact hPE) | (with_reducible exact hPQ) | (with_reducible exact hPR) | (with_reducible exact hPB) | (with_reducible refine bl_dw ?_) | (with_reducible refine bl_aw ?_ _)))) (first | (go_at_call 15; (with_reducible refine (tv_any HRH_l.out HWH_l.out (bl_via HB.out HB.out.size (by repeat' (first | (with_reducible exact Below.refl _ _) | (with_reducible exact hPE) | (with_reducible exact hPQ) | (with_reducible exact hPR) | (with_reducible exact hPB) | (with_reducible refine bl_dw ?_) | (with_reducible refine bl_aw ?_ _))))).mono ?_); rintro e wB ⟨aB, nB, cB, usB, rfl, heB, hrB, hbB⟩; have hPB := bl_tr (show Below w_13.heap.size w_13 _ from (by repeat' (first | (with_reducible exact Below.refl _ _) | (with_reducible exact hPE) | (with_reducible exact hPQ) | (with_reducible exact hPR) | (with_reducible exact hPB) | (with_reducible refine bl_dw ?_) | (with_reducible refine bl_aw ?_ _)))) hbB) | (go_at_call 16; (with_reducible refine (toA_any x_a y_a _).mono ?_); rintro e wQ ⟨rfl, hgQ⟩; have hbQ := hgQ.below; have hPQ := bl_tr (show Below w_13.heap.size w_13 _ from (by repeat' (first | (with_reducible exact Below.refl _ _) | (with_reducible exact hPE) | (with_reducible exact hPQ) | (with_reducible exact hPR) | (with_reducible exact hPB) | (with_reducible refine bl_dw ?_) | (with_reducible refine bl_aw ?_ _)))) hbQ; have hBQ := bl_tr (show Below wB.heap.size wB _ from (by repeat' (first | (with_reducible exact Below.refl _ _) | (with_reducible refine bl_dw ?_) | (with_reducible refine bl_aw ?_ _)))) hbQ) | (go_at_call 17; (with_reducible refine (toR_any ms_x mk_x mb_x mg_x mh_x mp_x _).mono ?_); rintro e wR ⟨rfl, hgR⟩; have hbR := hgR.below; have hPR := bl_tr (show Below w_13.heap.size w_13 _ from (by repeat' (first | (with_reducible exact Below.refl _ _) | (with_reducible exact hPE) | (with_reducible exact hPQ) | (with_reducible exact hPR) | (with_reducible exact hPB) | (with_reducible refine bl_dw ?_) | (with_reducible refine bl_aw ?_ _)))) hbR; have hBR := bl_tr (show Below wB.heap.size wB _ from (by repeat' (first | (with_reducible exact Below.refl _ _) | (with_reducible exact hBQ) | (with_reducible refine bl_dw ?_) | (with_reducible refine bl_aw ?_ _)))) hbR) | (go_at_call 18; (with_reducible refine (HCimpl.out _ _ _ _ _ heB (hrB.up (by repeat' (first | (with_reducible exact Below.refl _ _) | (with_reducible exact hBR) | (with_reducible exact hBQ) | (with_reducible refine bl_dw ?_) | (with_reducible refine bl_aw ?_ _)))) (HMX.out.on (bl_via HB.out HB.out.size (by repeat' (first | (with_reducible exact Below.refl _ _) | (with_reducible exact hPE) | (with_reducible exact hPQ) | (with_reducible exact hPR) | (with_reducible exact hPB) | (with_reducible refine bl_dw ?_) | (with_reducible refine bl_aw ?_ _)))))).mono ?_); rintro e wE ⟨aE, nE, cE, tsE, rfl, hmapE, hmE⟩; have hbE := hmE.row.below; have hPE := bl_tr (show Below w_13.heap.size w_13 _ from (by repeat' (first | (with_reducible exact Below.refl _ _) | (with_reducible exact hPE) | (with_reducible exact hPQ) | (with_reducible exact hPR) | (with_reducible exact hPB) | (with_reducible refine bl_dw ?_) | (with_reducible refine bl_aw ?_ _)))) hbE; have hdE := hmE.down hPE (Below.size (show Below w_13.heap.size w_13 _ from (by repeat' (first | (with_reducible exact Below.refl _ _) | (with_reducible exact hPQ) | (with_reducible exact hPR) | (with_reducible exact hPB) | (with_reducible refine bl_dw ?_) | (with_reducible refine bl_aw ?_ _)))))))
    all_goals
      go_wp2_with fail
      go_meet
      exact ⟨aE, nE, cE, tsE, rfl, rfl, hmapE, by repeat' (first | (with_reducible exact hdE) | (refine put_dr ?_))⟩
  obtain ⟨va_h, vn_h, vc_h, ts_h, rfl, rfl, hmap, hmv⟩ := hcut
  rename World => w_14
  have hB := hmv.row.below
  replace q_a0 := (hB.cell (show (⟨w.heap.size, 0, none⟩ : Addr).block < _ from World.block_lt_of_cell? _ _ q_a0)).trans q_a0
  replace q_a1 := (hB.cell (show (⟨w.heap.size, 1, none⟩ : Addr).block < _ from World.block_lt_of_cell? _ _ q_a1)).trans q_a1
  replace b_a : w.heap.size < w_14.heap.size := World.block_lt_of_cell? _ _ q_a0
  replace q_x0 := (hB.cell (show (⟨w.heap.size + 1, 0, none⟩ : Addr).block < _ from World.block_lt_of_cell? _ _ q_x0)).trans q_x0
  replace q_x1 := (hB.cell (show (⟨w.heap.size + 1, 1, none⟩ : Addr).block < _ from World.block_lt_of_cell? _ _ q_x1)).trans q_x1
  replace q_x2 := (hB.cell (show (⟨w.heap.size + 1, 2, none⟩ : Addr).block < _ from World.block_lt_of_cell? _ _ q_x2)).trans q_x2
  replace q_x3 := (hB.cell (show (⟨w.heap.size + 1, 3, none⟩ : Addr).block < _ from World.block_lt_of_cell? _ _ q_x3)).trans q_x3
  replace q_x4 := (hB.cell (show (⟨w.heap.size + 1, 4, none⟩ : Addr).block < _ from World.block_lt_of_cell? _ _ q_x4)).trans q_x4
  replace q_x5 := (hB.cell (show (⟨w.heap.size + 1, 5, none⟩ : Addr).block < _ from World.block_lt_of_cell? _ _ q_x5)).trans q_x5
  replace b_x : w.heap.size + 1 < w_14.heap.size := World.block_lt_of_cell? _ _ q_x0
  replace Hp := Lib.hid (ownL_later Hp.out hB)
  replace Hz := Lib.hid (ownL_later Hz.out hB)
  replace Hg := Lib.hid (ownL_later Hg.out hB)
  replace Hv := Lib.hid (ownL_later Hv.out hB)
  have Hh := Lib.hid (ownL_one.2 hmv.own)
  have HS14 := Lib.hid hB.size
  replace HB := Lib.hid (HB.out.trans (hB.mono HB.out.size))
  have HN_h := Lib.hid (show (blocksL [(rwV (.slice va_h vn_h vc_h) ts_h)]).Nodup by rw [blocksL, blocksL, List.append_nil]; exact hmv.nodup)
  have HMP_h := Lib.hid hmap
  clear hB hmap hmv
  go_wp2_with fail
  refine ((eq_ServerS (rwV (.slice va_h vn_h vc_h) ts_h) (rwV (.slice va_p vn_p vc_p) ts_p) (rwV_is _ _) (rwV_is _ _) (rwV_data _ _ (HMP_h.out.trans HMP_p.out.symm)) _ (rd_of (ownL_one.1 Hh.out)) (rd_of (ownL_one.1 Hp.out)))).mono ?_
  rintro e w_15 ⟨rfl, hg⟩
  have hB := hg.below
  replace q_a0 := (hB.cell (show (⟨w.heap.size, 0, none⟩ : Addr).block < _ from World.block_lt_of_cell? _ _ q_a0)).trans q_a0
  replace q_a1 := (hB.cell (show (⟨w.heap.size, 1, none⟩ : Addr).block < _ from World.block_lt_of_cell? _ _ q_a1)).trans q_a1
  replace b_a : w.heap.size < w_15.heap.size := World.block_lt_of_cell? _ _ q_a0
  replace q_x0 := (hB.cell (show (⟨w.heap.size + 1, 0, none⟩ : Addr).block < _ from World.block_lt_of_cell? _ _ q_x0)).trans q_x0
  replace q_x1 := (hB.cell (show (⟨w.heap.size + 1, 1, none⟩ : Addr).block < _ from World.block_lt_of_cell? _ _ q_x1)).trans q_x1
  replace q_x2 := (hB.cell (show (⟨w.heap.size + 1, 2, none⟩ : Addr).block < _ from World.block_lt_of_cell? _ _ q_x2)).trans q_x2
  replace q_x3 := (hB.cell (show (⟨w.heap.size + 1, 3, none⟩ : Addr).block < _ from World.block_lt_of_cell? _ _ q_x3)).trans q_x3
  replace q_x4 := (hB.cell (show (⟨w.heap.size + 1, 4, none⟩ : Addr).block < _ from World.block_lt_of_cell? _ _ q_x4)).trans q_x4
  replace q_x5 := (hB.cell (show (⟨w.heap.size + 1, 5, none⟩ : Addr).block < _ from World.block_lt_of_cell? _ _ q_x5)).trans q_x5
  replace b_x : w.heap.size + 1 < w_15.heap.size := World.block_lt_of_cell? _ _ q_x0
  replace Hp := Lib.hid (ownL_later Hp.out hB)
  replace Hz := Lib.hid (ownL_later Hz.out hB)
  replace Hg := Lib.hid (ownL_later Hg.out hB)
  replace Hv := Lib.hid (ownL_later Hv.out hB)
  replace Hh := Lib.hid (ownL_later Hh.out hB)
  have HS15 := Lib.hid hB.size
  replace HB := Lib.hid (HB.out.trans (hB.mono HB.out.size))
  clear hB hg
  go_wp2_with fail
  refine (hdSv_one (rwV (.slice va_g vn_g vc_g) ts_g) (rwV_is _ _) _ 1 _ rfl _ (ownL_read Hg.out (by have := HS0.out; have := HS1.out; have := HS2.out; have := HS3.out; have := HS4.out; have := HS5.out; have := HS6.out; have := HS7.out; have := HS8.out; have := HS9.out; have := HS10.out; have := HS11.out; have := HS12.out; have := HS13.out; have := HS14.out; have := HS15.out; omega)) (Nat.le_refl _) HCT_g.out).mono ?_
  rintro e w_16 ⟨rfl, hg⟩
  have hB := hg.below
  replace q_a0 := (hB.cell (show (⟨w.heap.size, 0, none⟩ : Addr).block < _ from World.block_lt_of_cell? _ _ q_a0)).trans q_a0
  replace q_a1 := (hB.cell (show (⟨w.heap.size, 1, none⟩ : Addr).block < _ from World.block_lt_of_cell? _ _ q_a1)).trans q_a1
  replace b_a : w.heap.size < w_16.heap.size := World.block_lt_of_cell? _ _ q_a0
  replace q_x0 := (hB.cell (show (⟨w.heap.size + 1, 0, none⟩ : Addr).block < _ from World.block_lt_of_cell? _ _ q_x0)).trans q_x0
  replace q_x1 := (hB.cell (show (⟨w.heap.size + 1, 1, none⟩ : Addr).block < _ from World.block_lt_of_cell? _ _ q_x1)).trans q_x1
  replace q_x2 := (hB.cell (show (⟨w.heap.size + 1, 2, none⟩ : Addr).block < _ from World.block_lt_of_cell? _ _ q_x2)).trans q_x2
  replace q_x3 := (hB.cell (show (⟨w.heap.size + 1, 3, none⟩ : Addr).block < _ from World.block_lt_of_cell? _ _ q_x3)).trans q_x3
  replace q_x4 := (hB.cell (show (⟨w.heap.size + 1, 4, none⟩ : Addr).block < _ from World.block_lt_of_cell? _ _ q_x4)).trans q_x4
  replace q_x5 := (hB.cell (show (⟨w.heap.size + 1, 5, none⟩ : Addr).block < _ from World.block_lt_of_cell? _ _ q_x5)).trans q_x5
  replace b_x : w.heap.size + 1 < w_16.heap.size := World.block_lt_of_cell? _ _ q_x0
  replace Hp := Lib.hid (ownL_later Hp.out hB)
  replace Hz := Lib.hid (ownL_later Hz.out hB)
  replace Hg := Lib.hid (ownL_later Hg.out hB)
  replace Hv := Lib.hid (ownL_later Hv.out hB)
  replace Hh := Lib.hid (ownL_later Hh.out hB)
  have HS16 := Lib.hid hB.size
  replace HB := Lib.hid (HB.out.trans (hB.mono HB.out.size))
  rw [HM.out]
  clear hB hg
  go_wp2_with fail
  go_ret
  exact ⟨rfl, HB.out⟩

end Go.Proofs.YtpkicliimhflgaaDoor
namespace Go.Proofs.YtpkicliimhflgaaDoor
theorem handed_both {H : Type} {enc : TypeId × Value → H} {a : Assume} {C : Checked} {os : Os} {f : FuncId} {fn : Func} {s : ChangeSpec} {conds : List PathCond} {apart fresh handsOn again : Bool} {X : World → Array Value → Prop}
    (keepX : ∀ (u v : World) (xs : Array Value), u.heap = v.heap → X u xs → X v xs) (hown : ownKnob C.prog.godebug = none) (hst : os.Started) (hni : C.prog.inits.idxOf? f = none) (hf : C.prog.funcs[f]? = some fn)
    (some_fits : ∃ (w : World) (tape : Tape) (i : Input), w.os = os ∧ (w.forCall tape i).Shaped C.prog ∧ i.vars = [] ∧ Input.okWide C.prog (w.forCall tape i) .any w.heap.size f i ∧
      ((s.pre enc C.prog fn conds apart (w.forCall tape i).memory i.args ∧ X (w.forCall tape i).memory i.args) ∧ sizedMet enc C.prog fn (OpenSpec.ofChange s) apart (w.forCall tape i).memory i.args) ∧ a.holds C.prog (lone (Frame.enter C.prog f i.args .normal) [] (w.forCall tape i)))
    (walk : ∀ (W : World) (base : Nat) (args : Array Value) (ds gs : List (DataW H)) (before : List MemPlace),
      (∀ (j : Nat) t v, fn.params[j]? = some t → args[j]? = some v → Value.okWide C.prog W .any base t v) →
      DataW.Whole enc C.prog fn.params.toList s.vars apart W args.toList ds gs before → X W args → W.ShapedOpen C.prog →
      Calls C.prog f args W fun e W' => ∃ v, e = .returned v ∧ s.post enc C.prog fn apart fresh handsOn again W args v W') :
    ReturnsInHanded a C os f .any (fun w args => (s.pre enc C.prog fn conds apart w args ∧ X w args) ∧ sizedMet enc C.prog fn (OpenSpec.ofChange s) apart w args) (s.post enc C.prog fn apart fresh handsOn again) := by
  refine returnsInHanded_of_calls hown hst hni some_fits fun w tape i _ shape _ fits met _ => ?_
  obtain ⟨_, _, _, g, hg, _, _, _, _, each⟩ := fits
  obtain rfl : g = fn := Option.some.inj (hg.symm.trans hf)
  obtain ⟨⟨⟨ds, gs, before, whole, _⟩, x0⟩, _⟩ := met
  refine (walk (w.forCall tape i) w.heap.size i.args ds gs before each (DataW.Whole.of_heap (w' := w.forCall tape i) (by rfl) whole) (keepX _ _ _ (by rfl) x0) shape).mono ?_
  rintro e W' ⟨v, rfl, hp⟩
  exact ChangeSpec.post_blind hp

end Go.Proofs.YtpkicliimhflgaaDoor
