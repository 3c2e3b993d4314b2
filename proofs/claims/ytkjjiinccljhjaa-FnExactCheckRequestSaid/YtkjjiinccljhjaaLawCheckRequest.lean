/- The walk of the law FnExactCheckRequest: it returns true, and writes nothing that was there. -/
import Derived.Test.YtkjjiinccljhjaaLawPo
import Derived.Test.YtkjjiinccljhjaaRq
import Derived.Test.YtkjjiinccljhjaaRqA
import Derived.Test.YtkjjiinccljhjaaBl
import Derived.Deep.RegionHeld3
import Derived.Deep.RegionWith
import Derived.Deep.CutRange
namespace Go.Proofs.Ytkjjiinccljhjaa
open Go.ChangeShapes Go.WideShapes Go.ChangeAt Go.RowKit

set_option maxRecDepth 100000 in
set_option maxHeartbeats 4000000 in
theorem walkCheckRequest (bo_p : Bool) (xa_p : Option Addr) (xn_p xc_p : Nat) (ya_p : Option Addr) (yn_p yc_p : Nat) (za_p : Option Addr) (zn_p zc_p : Nat) (xs_p ys_p zs_p : List ByteArray) (t_p : ByteArray) (mk_q : Int) (mh_q mp_q mf_q mg_q : ByteArray) (w : World) (r_p : IsPo w (.slice xa_p xn_p xc_p) (.slice ya_p yn_p yc_p) (.slice za_p zn_p zc_p) ⟨bo_p, xs_p, ys_p, zs_p, t_p⟩) (r_q : RqOk mh_q mp_q mf_q mg_q) :
    Calls Try.prog 4 #[.agg #[.bool bo_p, .slice xa_p xn_p xc_p, .slice ya_p yn_p yc_p, .slice za_p zn_p zc_p, .string t_p], .agg #[.int .i64 mk_q, .string mh_q, .string mp_q, .string mf_q, .string mg_q]] w fun e w' => e = .returned (.bool true) ∧ Below w.heap.size w w' := by
  obtain ⟨⟨h1_p, o1_p⟩, ⟨h2_p, o2_p⟩, ⟨h3_p, o3_p⟩, ht_p⟩ := r_p
  have HR1_p := Lib.hid h1_p; have HS1_p := Lib.hid (rwSs_small (v := .slice xa_p xn_p xc_p) o1_p); clear h1_p o1_p
  have HR2_p := Lib.hid h2_p; have HS2_p := Lib.hid (rwSs_small (v := .slice ya_p yn_p yc_p) o2_p); clear h2_p o2_p
  have HR3_p := Lib.hid h3_p; have HS3_p := Lib.hid (rwSs_small (v := .slice za_p zn_p zc_p) o3_p); clear h3_p o3_p
  go_enter Try.func4, Try.ntmps4
  go_wp2_with fail
  obtain ⟨w_0, hw_0⟩ : ∃ x, ((w.alloc (.cells #[.bool bo_p, .slice xa_p xn_p xc_p, .slice ya_p yn_p yc_p, .slice za_p zn_p zc_p, .string t_p] 35)).alloc (.cells #[.int .i64 mk_q, .string mh_q, .string mp_q, .string mf_q, .string mg_q] 25)) = x := ⟨_, rfl⟩
  rw [hw_0]
  have HB := Lib.hid (show Below w.heap.size w w_0 by rw [← hw_0]; exact (((Below.refl w.heap.size w).alloc (by first | (simp; done) | (simp; omega)) _).alloc (by first | (simp; done) | (simp; omega)) _))
  have q_p0 : w_0.cell? ⟨w.heap.size, 0, none⟩ = some (.bool bo_p) := by rw [← hw_0]; simp
  have q_p1 : w_0.cell? ⟨w.heap.size, 1, none⟩ = some (.slice xa_p xn_p xc_p) := by rw [← hw_0]; simp
  have q_p2 : w_0.cell? ⟨w.heap.size, 2, none⟩ = some (.slice ya_p yn_p yc_p) := by rw [← hw_0]; simp
  have q_p3 : w_0.cell? ⟨w.heap.size, 3, none⟩ = some (.slice za_p zn_p zc_p) := by rw [← hw_0]; simp
  have q_p4 : w_0.cell? ⟨w.heap.size, 4, none⟩ = some (.string t_p) := by rw [← hw_0]; simp
  have b_p : w.heap.size < w_0.heap.size := World.block_lt_of_cell? _ _ q_p0
  have q_q0 : w_0.cell? ⟨w.heap.size + 1, 0, none⟩ = some (.int .i64 mk_q) := by rw [← hw_0]; simp
  have q_q1 : w_0.cell? ⟨w.heap.size + 1, 1, none⟩ = some (.string mh_q) := by rw [← hw_0]; simp
  have q_q2 : w_0.cell? ⟨w.heap.size + 1, 2, none⟩ = some (.string mp_q) := by rw [← hw_0]; simp
  have q_q3 : w_0.cell? ⟨w.heap.size + 1, 3, none⟩ = some (.string mf_q) := by rw [← hw_0]; simp
  have q_q4 : w_0.cell? ⟨w.heap.size + 1, 4, none⟩ = some (.string mg_q) := by rw [← hw_0]; simp
  have b_q : w.heap.size + 1 < w_0.heap.size := World.block_lt_of_cell? _ _ q_q0
  have HS0 := Lib.hid (show w.heap.size + 2 ≤ w_0.heap.size by rw [← hw_0]; simp)
  clear hw_0
  go_wp2_with fail
  refine (sz_Policy bo_p (rwSs (.slice xa_p xn_p xc_p) xs_p) (rwSs (.slice ya_p yn_p yc_p) ys_p) (rwSs (.slice za_p zn_p zc_p) zs_p) t_p 1048576 (by omega) (by omega) _ (rwSs_is _ _) (rwSs_reads ((HR1_p.out.below HB.out (Nat.le_refl _)).mono HB.out.size)) HS1_p.out (rwSs_is _ _) (rwSs_reads ((HR2_p.out.below HB.out (Nat.le_refl _)).mono HB.out.size)) HS2_p.out (rwSs_is _ _) (rwSs_reads ((HR3_p.out.below HB.out (Nat.le_refl _)).mono HB.out.size)) HS3_p.out ht_p).mono ?_
  rintro e w_1 ⟨r, rfl, lo_r, hi_r, hg⟩
  have hB := hg.below
  replace q_p0 := (hB.cell (show (⟨w.heap.size, 0, none⟩ : Addr).block < _ from World.block_lt_of_cell? _ _ q_p0)).trans q_p0
  replace q_p1 := (hB.cell (show (⟨w.heap.size, 1, none⟩ : Addr).block < _ from World.block_lt_of_cell? _ _ q_p1)).trans q_p1
  replace q_p2 := (hB.cell (show (⟨w.heap.size, 2, none⟩ : Addr).block < _ from World.block_lt_of_cell? _ _ q_p2)).trans q_p2
  replace q_p3 := (hB.cell (show (⟨w.heap.size, 3, none⟩ : Addr).block < _ from World.block_lt_of_cell? _ _ q_p3)).trans q_p3
  replace q_p4 := (hB.cell (show (⟨w.heap.size, 4, none⟩ : Addr).block < _ from World.block_lt_of_cell? _ _ q_p4)).trans q_p4
  replace b_p : w.heap.size < w_1.heap.size := World.block_lt_of_cell? _ _ q_p0
  replace q_q0 := (hB.cell (show (⟨w.heap.size + 1, 0, none⟩ : Addr).block < _ from World.block_lt_of_cell? _ _ q_q0)).trans q_q0
  replace q_q1 := (hB.cell (show (⟨w.heap.size + 1, 1, none⟩ : Addr).block < _ from World.block_lt_of_cell? _ _ q_q1)).trans q_q1
  replace q_q2 := (hB.cell (show (⟨w.heap.size + 1, 2, none⟩ : Addr).block < _ from World.block_lt_of_cell? _ _ q_q2)).trans q_q2
  replace q_q3 := (hB.cell (show (⟨w.heap.size + 1, 3, none⟩ : Addr).block < _ from World.block_lt_of_cell? _ _ q_q3)).trans q_q3
  replace q_q4 := (hB.cell (show (⟨w.heap.size + 1, 4, none⟩ : Addr).block < _ from World.block_lt_of_cell? _ _ q_q4)).trans q_q4
  replace b_q : w.heap.size + 1 < w_1.heap.size := World.block_lt_of_cell? _ _ q_q0
  have HS1 := Lib.hid hB.size
  replace HB := Lib.hid (HB.out.trans (hB.mono HB.out.size))
  clear hB hg
  by_cases neg_r : r < 0
  · go_wp2_with fail
    go_ret
    exact ⟨rfl, HB.out⟩
  replace hi_r := hi_r (by omega)
  have hu_r : r ≤ 1048576 := by omega
  have HW1_p := Lib.hid (show (rwSs (.slice xa_p xn_p xc_p) xs_p).weight ≤ 1048576 by omega)
  have HW2_p := Lib.hid (show (rwSs (.slice ya_p yn_p yc_p) ys_p).weight ≤ 1048576 by omega)
  have HW3_p := Lib.hid (show (rwSs (.slice za_p zn_p zc_p) zs_p).weight ≤ 1048576 by omega)
  have HTS_p := Lib.hid (show t_p.size ≤ 1048576 by omega)
  clear hi_r
  go_wp2_with fail
  refine (szQ_any mk_q mh_q mp_q mf_q mg_q r r_q (by omega) (by omega) _).mono ?_
  rintro e w_2 ⟨t, rfl, lo_t, hi_t, hb⟩
  have hB := hb
  replace q_p0 := (hB.cell (show (⟨w.heap.size, 0, none⟩ : Addr).block < _ from World.block_lt_of_cell? _ _ q_p0)).trans q_p0
  replace q_p1 := (hB.cell (show (⟨w.heap.size, 1, none⟩ : Addr).block < _ from World.block_lt_of_cell? _ _ q_p1)).trans q_p1
  replace q_p2 := (hB.cell (show (⟨w.heap.size, 2, none⟩ : Addr).block < _ from World.block_lt_of_cell? _ _ q_p2)).trans q_p2
  replace q_p3 := (hB.cell (show (⟨w.heap.size, 3, none⟩ : Addr).block < _ from World.block_lt_of_cell? _ _ q_p3)).trans q_p3
  replace q_p4 := (hB.cell (show (⟨w.heap.size, 4, none⟩ : Addr).block < _ from World.block_lt_of_cell? _ _ q_p4)).trans q_p4
  replace b_p : w.heap.size < w_2.heap.size := World.block_lt_of_cell? _ _ q_p0
  replace q_q0 := (hB.cell (show (⟨w.heap.size + 1, 0, none⟩ : Addr).block < _ from World.block_lt_of_cell? _ _ q_q0)).trans q_q0
  replace q_q1 := (hB.cell (show (⟨w.heap.size + 1, 1, none⟩ : Addr).block < _ from World.block_lt_of_cell? _ _ q_q1)).trans q_q1
  replace q_q2 := (hB.cell (show (⟨w.heap.size + 1, 2, none⟩ : Addr).block < _ from World.block_lt_of_cell? _ _ q_q2)).trans q_q2
  replace q_q3 := (hB.cell (show (⟨w.heap.size + 1, 3, none⟩ : Addr).block < _ from World.block_lt_of_cell? _ _ q_q3)).trans q_q3
  replace q_q4 := (hB.cell (show (⟨w.heap.size + 1, 4, none⟩ : Addr).block < _ from World.block_lt_of_cell? _ _ q_q4)).trans q_q4
  replace b_q : w.heap.size + 1 < w_2.heap.size := World.block_lt_of_cell? _ _ q_q0
  have HS2 := Lib.hid hB.size
  replace HB := Lib.hid (HB.out.trans (hB.mono HB.out.size))
  clear hB hb
  by_cases neg_t : t < 0
  · go_wp2_with fail
    go_ret
    exact ⟨rfl, HB.out⟩
  replace hi_t := hi_t (by omega)
  have HI_t := Lib.hid hi_t
  have up_t : t ≤ 1048576 := by omega
  clear hi_t
  obtain ⟨M, hM⟩ : ∃ M, rqV (⟨bo_p, xs_p, ys_p, zs_p, t_p⟩ : Pol) mk_q mh_q mp_q mf_q mg_q = M := ⟨_, rfl⟩
  have HM := Lib.hid hM; clear hM
  have hMM : (M == M) = true := beq_self_eq_true _; have hMN : (M != M) = false := bne_self_eq_false _
  go_upto_region 8 with (fail)
  go_cut [6] from 19 to 23 (fun c0 wx => c0 = .int .i64 M ∧ Below w_2.heap.size w_2 wx)
  case first =>
    have KEEP := Lib.hid (fun (w' : World) (h : Below w_2.heap.size w_2 w') => show Below w_2.heap.size w_2 w' ∧ w'.cell? ⟨w.heap.size, 0, none⟩ = some (.bool bo_p) ∧ w'.cell? ⟨w.heap.size, 1, none⟩ = some (.slice xa_p xn_p xc_p) ∧ w'.cell? ⟨w.heap.size, 2, none⟩ = some (.slice ya_p yn_p yc_p) ∧ w'.cell? ⟨w.heap.size, 3, none⟩ = some (.slice za_p zn_p zc_p) ∧ w'.cell? ⟨w.heap.size, 4, none⟩ = some (.string t_p) ∧ w'.cell? ⟨w.heap.size + 1, 0, none⟩ = some (.int .i64 mk_q) ∧ w'.cell? ⟨w.heap.size + 1, 1, none⟩ = some (.string mh_q) ∧ w'.cell? ⟨w.heap.size + 1, 2, none⟩ = some (.string mp_q) ∧ w'.cell? ⟨w.heap.size + 1, 3, none⟩ = some (.string mf_q) ∧ w'.cell? ⟨w.heap.size + 1, 4, none⟩ = some (.string mg_q) from ⟨h, (h.cell (show (⟨w.heap.size, 0, none⟩ : Addr).block < _ from World.block_lt_of_cell? _ _ q_p0)).trans q_p0, (h.cell (show (⟨w.heap.size, 1, none⟩ : Addr).block < _ from World.block_lt_of_cell? _ _ q_p1)).trans q_p1, (h.cell (show (⟨w.heap.size, 2, none⟩ : Addr).block < _ from World.block_lt_of_cell? _ _ q_p2)).trans q_p2, (h.cell (show (⟨w.heap.size, 3, none⟩ : Addr).block < _ from World.block_lt_of_cell? _ _ q_p3)).trans q_p3, (h.cell (show (⟨w.heap.size, 4, none⟩ : Addr).block < _ from World.block_lt_of_cell? _ _ q_p4)).trans q_p4, (h.cell (show (⟨w.heap.size + 1, 0, none⟩ : Addr).block < _ from World.block_lt_of_cell? _ _ q_q0)).trans q_q0, (h.cell (show (⟨w.heap.size + 1, 1, none⟩ : Addr).block < _ from World.block_lt_of_cell? _ _ q_q1)).trans q_q1, (h.cell (show (⟨w.heap.size + 1, 2, none⟩ : Addr).block < _ from World.block_lt_of_cell? _ _ q_q2)).trans q_q2, (h.cell (show (⟨w.heap.size + 1, 3, none⟩ : Addr).block < _ from World.block_lt_of_cell? _ _ q_q3)).trans q_q3, (h.cell (show (⟨w.heap.size + 1, 4, none⟩ : Addr).block < _ from World.block_lt_of_cell? _ _ q_q4)).trans q_q4⟩)
    have HC := Lib.hid (fun (u1 : Option Addr) (m1 k1 : Nat) (u2 : Option Addr) (m2 k2 : Nat) (u3 : Option Addr) (m3 k3 : Nat) (X : World) (h : ReadP X.heap.size X (.slice u1 m1 k1) (.slice u2 m2 k2) (.slice u3 m3 k3) (⟨bo_p, xs_p, ys_p, zs_p, t_p⟩ : Pol)) => show Calls Try.prog 13 #[.agg #[.bool bo_p, .slice u1 m1 k1, .slice u2 m2 k2, .slice u3 m3 k3, .string t_p], .agg #[.int .i64 mk_q, .string mh_q, .string mp_q, .string mf_q, .string mg_q]] X fun e w' => e = .returned (.int .i64 M) ∧ Below X.heap.size X w' from HM.out ▸ chQ_spec bo_p xs_p ys_p zs_p t_p u1 m1 k1 u2 m2 k2 u3 m3 k3 mk_q mh_q mp_q mf_q mg_q r_q X h)
    go_region_held3 (fun w' => Below w_2.heap.size w_2 w' ∧ w'.cell? ⟨w.heap.size, 0, none⟩ = some (.bool bo_p) ∧ w'.cell? ⟨w.heap.size, 1, none⟩ = some (.slice xa_p xn_p xc_p) ∧ w'.cell? ⟨w.heap.size, 2, none⟩ = some (.slice ya_p yn_p yc_p) ∧ w'.cell? ⟨w.heap.size, 3, none⟩ = some (.slice za_p zn_p zc_p) ∧ w'.cell? ⟨w.heap.size, 4, none⟩ = some (.string t_p) ∧ w'.cell? ⟨w.heap.size + 1, 0, none⟩ = some (.int .i64 mk_q) ∧ w'.cell? ⟨w.heap.size + 1, 1, none⟩ = some (.string mh_q) ∧ w'.cell? ⟨w.heap.size + 1, 2, none⟩ = some (.string mp_q) ∧ w'.cell? ⟨w.heap.size + 1, 3, none⟩ = some (.string mf_q) ∧ w'.cell? ⟨w.heap.size + 1, 4, none⟩ = some (.string mg_q)) (exact KEEP.out _ (by repeat' (first | (with_reducible exact Below.refl _ _) | (with_reducible exact hPE) | (with_reducible exact hPB) | (with_reducible exact hPQ) | (with_reducible exact hPR) | (with_reducible refine bl_dw ?_) | (with_reducible refine bl_aw ?_ _)))) (first | (go_at_call 14; with_reducible refine (toPr_any bo_p t_p HR1_p.out HR2_p.out HR3_p.out HW1_p.out HW2_p.out HW3_p.out (bl_via HB.out HB.out.size (by repeat' (first | (with_reducible exact Below.refl _ _) | (with_reducible exact hPE) | (with_reducible exact hPC) | (with_reducible exact hPB) | (with_reducible refine bl_dw ?_) | (with_reducible refine bl_aw ?_ _))))).mono ?_; rintro e wB ⟨xaB, xnB, xcB, yaB, ynB, ycB, zaB, znB, zcB, rfl, hiB, hbB⟩; have hPB := bl_tr (show Below w_2.heap.size w_2 _ from (by repeat' (first | (with_reducible exact Below.refl _ _) | (with_reducible exact hPE) | (with_reducible exact hPC) | (with_reducible exact hPB) | (with_reducible refine bl_dw ?_) | (with_reducible refine bl_aw ?_ _)))) hbB; skip) | (go_at_call 10; with_reducible refine (toQ_any mk_q mh_q mp_q mf_q mg_q _).mono ?_; rintro e wQ ⟨rfl, hgQ⟩; have hPQ := bl_tr (show Below w_2.heap.size w_2 _ from (by repeat' (first | (with_reducible exact Below.refl _ _) | (with_reducible exact hPE) | (with_reducible exact hPB) | (with_reducible exact hPQ) | (with_reducible exact hPR) | (with_reducible refine bl_dw ?_) | (with_reducible refine bl_aw ?_ _)))) hgQ.below; have hBQ := bl_tr (show Below wB.heap.size wB _ from (by repeat' (first | (with_reducible exact Below.refl _ _) | (with_reducible exact hBQ) | (with_reducible exact hBR) | (with_reducible refine bl_dw ?_) | (with_reducible refine bl_aw ?_ _)))) hgQ.below) | (go_at_call 13; refine (HC.out _ _ _ _ _ _ _ _ _ _ (hiB.up (by repeat' (first | (with_reducible exact Below.refl _ _) | (with_reducible exact hBQ) | (with_reducible exact hBR) | (with_reducible refine bl_dw ?_) | (with_reducible refine bl_aw ?_ _))))).mono ?_; rintro e wE ⟨rfl, hgE⟩; have hPE := bl_tr (show Below w_2.heap.size w_2 _ from (by repeat' (first | (with_reducible exact Below.refl _ _) | (with_reducible exact hPE) | (with_reducible exact hPB) | (with_reducible exact hPQ) | (with_reducible exact hPR) | (with_reducible refine bl_dw ?_) | (with_reducible refine bl_aw ?_ _)))) hgE))
    all_goals
      go_wp2_with fail
      go_meet
      exact ⟨rfl, by repeat' (first | (with_reducible exact Below.refl _ _) | (with_reducible exact hPE) | (with_reducible exact hPB) | (with_reducible exact hPQ) | (with_reducible exact hPR) | (with_reducible refine bl_dw ?_) | (with_reducible refine bl_aw ?_ _))⟩
  obtain ⟨rfl, hB⟩ := hcut
  rename World => w_3
  replace q_p0 := (hB.cell (show (⟨w.heap.size, 0, none⟩ : Addr).block < _ from World.block_lt_of_cell? _ _ q_p0)).trans q_p0
  replace q_p1 := (hB.cell (show (⟨w.heap.size, 1, none⟩ : Addr).block < _ from World.block_lt_of_cell? _ _ q_p1)).trans q_p1
  replace q_p2 := (hB.cell (show (⟨w.heap.size, 2, none⟩ : Addr).block < _ from World.block_lt_of_cell? _ _ q_p2)).trans q_p2
  replace q_p3 := (hB.cell (show (⟨w.heap.size, 3, none⟩ : Addr).block < _ from World.block_lt_of_cell? _ _ q_p3)).trans q_p3
  replace q_p4 := (hB.cell (show (⟨w.heap.size, 4, none⟩ : Addr).block < _ from World.block_lt_of_cell? _ _ q_p4)).trans q_p4
  replace b_p : w.heap.size < w_3.heap.size := World.block_lt_of_cell? _ _ q_p0
  replace q_q0 := (hB.cell (show (⟨w.heap.size + 1, 0, none⟩ : Addr).block < _ from World.block_lt_of_cell? _ _ q_q0)).trans q_q0
  replace q_q1 := (hB.cell (show (⟨w.heap.size + 1, 1, none⟩ : Addr).block < _ from World.block_lt_of_cell? _ _ q_q1)).trans q_q1
  replace q_q2 := (hB.cell (show (⟨w.heap.size + 1, 2, none⟩ : Addr).block < _ from World.block_lt_of_cell? _ _ q_q2)).trans q_q2
  replace q_q3 := (hB.cell (show (⟨w.heap.size + 1, 3, none⟩ : Addr).block < _ from World.block_lt_of_cell? _ _ q_q3)).trans q_q3
  replace q_q4 := (hB.cell (show (⟨w.heap.size + 1, 4, none⟩ : Addr).block < _ from World.block_lt_of_cell? _ _ q_q4)).trans q_q4
  replace b_q : w.heap.size + 1 < w_3.heap.size := World.block_lt_of_cell? _ _ q_q0
  have HS3 := Lib.hid hB.size
  replace HB := Lib.hid (HB.out.trans (hB.mono HB.out.size))
  clear hB
  go_wp2_with fail
  refine (toP_any bo_p t_p ((HR1_p.out.below HB.out (Nat.le_refl _)).mono HB.out.size) ((HR2_p.out.below HB.out (Nat.le_refl _)).mono HB.out.size) ((HR3_p.out.below HB.out (Nat.le_refl _)).mono HB.out.size) HW1_p.out HW2_p.out HW3_p.out).mono ?_
  rintro e w_4 ⟨y1_y, y2_y, y3_y, xa_y, xn_y, xc_y, ya_y, yn_y, yc_y, za_y, zn_y, zc_y, rfl, hf, ho, hn, hb⟩
  have hB := hb
  replace q_p0 := (hB.cell (show (⟨w.heap.size, 0, none⟩ : Addr).block < _ from World.block_lt_of_cell? _ _ q_p0)).trans q_p0
  replace q_p1 := (hB.cell (show (⟨w.heap.size, 1, none⟩ : Addr).block < _ from World.block_lt_of_cell? _ _ q_p1)).trans q_p1
  replace q_p2 := (hB.cell (show (⟨w.heap.size, 2, none⟩ : Addr).block < _ from World.block_lt_of_cell? _ _ q_p2)).trans q_p2
  replace q_p3 := (hB.cell (show (⟨w.heap.size, 3, none⟩ : Addr).block < _ from World.block_lt_of_cell? _ _ q_p3)).trans q_p3
  replace q_p4 := (hB.cell (show (⟨w.heap.size, 4, none⟩ : Addr).block < _ from World.block_lt_of_cell? _ _ q_p4)).trans q_p4
  replace b_p : w.heap.size < w_4.heap.size := World.block_lt_of_cell? _ _ q_p0
  replace q_q0 := (hB.cell (show (⟨w.heap.size + 1, 0, none⟩ : Addr).block < _ from World.block_lt_of_cell? _ _ q_q0)).trans q_q0
  replace q_q1 := (hB.cell (show (⟨w.heap.size + 1, 1, none⟩ : Addr).block < _ from World.block_lt_of_cell? _ _ q_q1)).trans q_q1
  replace q_q2 := (hB.cell (show (⟨w.heap.size + 1, 2, none⟩ : Addr).block < _ from World.block_lt_of_cell? _ _ q_q2)).trans q_q2
  replace q_q3 := (hB.cell (show (⟨w.heap.size + 1, 3, none⟩ : Addr).block < _ from World.block_lt_of_cell? _ _ q_q3)).trans q_q3
  replace q_q4 := (hB.cell (show (⟨w.heap.size + 1, 4, none⟩ : Addr).block < _ from World.block_lt_of_cell? _ _ q_q4)).trans q_q4
  replace b_q : w.heap.size + 1 < w_4.heap.size := World.block_lt_of_cell? _ _ q_q0
  have Hy := Lib.hid (ho)
  have HS4 := Lib.hid hB.size
  replace HB := Lib.hid (HB.out.trans (hB.mono HB.out.size))
  have HF_y := Lib.hid hf; have HN_y := Lib.hid hn
  clear hB ho hn hb hf
  go_wp2_with fail
  obtain ⟨w_5, hw⟩ : ∃ x, w_4.alloc (.cells #[.bool bo_p, .slice xa_y xn_y xc_y, .slice ya_y yn_y yc_y, .slice za_y zn_y zc_y, .string t_p] 38) = x := ⟨_, rfl⟩
  rw [hw]
  have hB : Below w_4.heap.size w_4 w_5 := by rw [← hw]; exact (Below.refl _ _).alloc (Nat.le_refl _) _
  have q_y0 : w_5.cell? ⟨w_4.heap.size, 0, none⟩ = some (.bool bo_p) := by rw [← hw]; simp
  have q_y1 : w_5.cell? ⟨w_4.heap.size, 1, none⟩ = some (.slice xa_y xn_y xc_y) := by rw [← hw]; simp
  have q_y2 : w_5.cell? ⟨w_4.heap.size, 2, none⟩ = some (.slice ya_y yn_y yc_y) := by rw [← hw]; simp
  have q_y3 : w_5.cell? ⟨w_4.heap.size, 3, none⟩ = some (.slice za_y zn_y zc_y) := by rw [← hw]; simp
  have q_y4 : w_5.cell? ⟨w_4.heap.size, 4, none⟩ = some (.string t_p) := by rw [← hw]; simp
  have b_y : w_4.heap.size < w_5.heap.size := World.block_lt_of_cell? _ _ q_y0
  replace q_p0 := (hB.cell (show (⟨w.heap.size, 0, none⟩ : Addr).block < _ from World.block_lt_of_cell? _ _ q_p0)).trans q_p0
  replace q_p1 := (hB.cell (show (⟨w.heap.size, 1, none⟩ : Addr).block < _ from World.block_lt_of_cell? _ _ q_p1)).trans q_p1
  replace q_p2 := (hB.cell (show (⟨w.heap.size, 2, none⟩ : Addr).block < _ from World.block_lt_of_cell? _ _ q_p2)).trans q_p2
  replace q_p3 := (hB.cell (show (⟨w.heap.size, 3, none⟩ : Addr).block < _ from World.block_lt_of_cell? _ _ q_p3)).trans q_p3
  replace q_p4 := (hB.cell (show (⟨w.heap.size, 4, none⟩ : Addr).block < _ from World.block_lt_of_cell? _ _ q_p4)).trans q_p4
  replace b_p : w.heap.size < w_5.heap.size := World.block_lt_of_cell? _ _ q_p0
  replace q_q0 := (hB.cell (show (⟨w.heap.size + 1, 0, none⟩ : Addr).block < _ from World.block_lt_of_cell? _ _ q_q0)).trans q_q0
  replace q_q1 := (hB.cell (show (⟨w.heap.size + 1, 1, none⟩ : Addr).block < _ from World.block_lt_of_cell? _ _ q_q1)).trans q_q1
  replace q_q2 := (hB.cell (show (⟨w.heap.size + 1, 2, none⟩ : Addr).block < _ from World.block_lt_of_cell? _ _ q_q2)).trans q_q2
  replace q_q3 := (hB.cell (show (⟨w.heap.size + 1, 3, none⟩ : Addr).block < _ from World.block_lt_of_cell? _ _ q_q3)).trans q_q3
  replace q_q4 := (hB.cell (show (⟨w.heap.size + 1, 4, none⟩ : Addr).block < _ from World.block_lt_of_cell? _ _ q_q4)).trans q_q4
  replace b_q : w.heap.size + 1 < w_5.heap.size := World.block_lt_of_cell? _ _ q_q0
  replace Hy := Lib.hid (ownL_later Hy.out hB)
  have HS5 := Lib.hid hB.size
  replace HB := Lib.hid (HB.out.trans (hB.mono HB.out.size))
  clear hB hw
  have HSb_y := Lib.hid b_y
  go_upto_region 10 with (fail)
  go_cut [8] from 26 to 29 (fun c0 wx => c0 = .int .i64 M ∧ Below w_5.heap.size w_5 wx)
  case first =>
    have KEEP := Lib.hid (fun (w' : World) (h : Below w_5.heap.size w_5 w') => show Below w_5.heap.size w_5 w' ∧ w'.cell? ⟨w.heap.size, 0, none⟩ = some (.bool bo_p) ∧ w'.cell? ⟨w.heap.size, 1, none⟩ = some (.slice xa_p xn_p xc_p) ∧ w'.cell? ⟨w.heap.size, 2, none⟩ = some (.slice ya_p yn_p yc_p) ∧ w'.cell? ⟨w.heap.size, 3, none⟩ = some (.slice za_p zn_p zc_p) ∧ w'.cell? ⟨w.heap.size, 4, none⟩ = some (.string t_p) ∧ w'.cell? ⟨w.heap.size + 1, 0, none⟩ = some (.int .i64 mk_q) ∧ w'.cell? ⟨w.heap.size + 1, 1, none⟩ = some (.string mh_q) ∧ w'.cell? ⟨w.heap.size + 1, 2, none⟩ = some (.string mp_q) ∧ w'.cell? ⟨w.heap.size + 1, 3, none⟩ = some (.string mf_q) ∧ w'.cell? ⟨w.heap.size + 1, 4, none⟩ = some (.string mg_q) ∧ w'.cell? ⟨w_4.heap.size, 0, none⟩ = some (.bool bo_p) ∧ w'.cell? ⟨w_4.heap.size, 1, none⟩ = some (.slice xa_y xn_y xc_y) ∧ w'.cell? ⟨w_4.heap.size, 2, none⟩ = some (.slice ya_y yn_y yc_y) ∧ w'.cell? ⟨w_4.heap.size, 3, none⟩ = some (.slice za_y zn_y zc_y) ∧ w'.cell? ⟨w_4.heap.size, 4, none⟩ = some (.string t_p) from ⟨h, (h.cell (show (⟨w.heap.size, 0, none⟩ : Addr).block < _ from World.block_lt_of_cell? _ _ q_p0)).trans q_p0, (h.cell (show (⟨w.heap.size, 1, none⟩ : Addr).block < _ from World.block_lt_of_cell? _ _ q_p1)).trans q_p1, (h.cell (show (⟨w.heap.size, 2, none⟩ : Addr).block < _ from World.block_lt_of_cell? _ _ q_p2)).trans q_p2, (h.cell (show (⟨w.heap.size, 3, none⟩ : Addr).block < _ from World.block_lt_of_cell? _ _ q_p3)).trans q_p3, (h.cell (show (⟨w.heap.size, 4, none⟩ : Addr).block < _ from World.block_lt_of_cell? _ _ q_p4)).trans q_p4, (h.cell (show (⟨w.heap.size + 1, 0, none⟩ : Addr).block < _ from World.block_lt_of_cell? _ _ q_q0)).trans q_q0, (h.cell (show (⟨w.heap.size + 1, 1, none⟩ : Addr).block < _ from World.block_lt_of_cell? _ _ q_q1)).trans q_q1, (h.cell (show (⟨w.heap.size + 1, 2, none⟩ : Addr).block < _ from World.block_lt_of_cell? _ _ q_q2)).trans q_q2, (h.cell (show (⟨w.heap.size + 1, 3, none⟩ : Addr).block < _ from World.block_lt_of_cell? _ _ q_q3)).trans q_q3, (h.cell (show (⟨w.heap.size + 1, 4, none⟩ : Addr).block < _ from World.block_lt_of_cell? _ _ q_q4)).trans q_q4, (h.cell (show (⟨w_4.heap.size, 0, none⟩ : Addr).block < _ from World.block_lt_of_cell? _ _ q_y0)).trans q_y0, (h.cell (show (⟨w_4.heap.size, 1, none⟩ : Addr).block < _ from World.block_lt_of_cell? _ _ q_y1)).trans q_y1, (h.cell (show (⟨w_4.heap.size, 2, none⟩ : Addr).block < _ from World.block_lt_of_cell? _ _ q_y2)).trans q_y2, (h.cell (show (⟨w_4.heap.size, 3, none⟩ : Addr).block < _ from World.block_lt_of_cell? _ _ q_y3)).trans q_y3, (h.cell (show (⟨w_4.heap.size, 4, none⟩ : Addr).block < _ from World.block_lt_of_cell? _ _ q_y4)).trans q_y4⟩)
    have HC := Lib.hid (fun (u1 : Option Addr) (m1 k1 : Nat) (u2 : Option Addr) (m2 k2 : Nat) (u3 : Option Addr) (m3 k3 : Nat) (X : World) (h : ReadP X.heap.size X (.slice u1 m1 k1) (.slice u2 m2 k2) (.slice u3 m3 k3) (⟨bo_p, xs_p, ys_p, zs_p, t_p⟩ : Pol)) => show Calls Try.prog 15 #[.agg #[.bool bo_p, .slice u1 m1 k1, .slice u2 m2 k2, .slice u3 m3 k3, .string t_p], .agg #[.int .i64 mk_q, .string mh_q, .string mp_q, .string mf_q, .string mg_q]] X fun e w' => e = .returned (.int .i64 M) ∧ Below X.heap.size X w' from HM.out ▸ chQ_impl bo_p xs_p ys_p zs_p t_p u1 m1 k1 u2 m2 k2 u3 m3 k3 mk_q mh_q mp_q mf_q mg_q r_q X h)
    go_region_held3 (fun w' => Below w_5.heap.size w_5 w' ∧ w'.cell? ⟨w.heap.size, 0, none⟩ = some (.bool bo_p) ∧ w'.cell? ⟨w.heap.size, 1, none⟩ = some (.slice xa_p xn_p xc_p) ∧ w'.cell? ⟨w.heap.size, 2, none⟩ = some (.slice ya_p yn_p yc_p) ∧ w'.cell? ⟨w.heap.size, 3, none⟩ = some (.slice za_p zn_p zc_p) ∧ w'.cell? ⟨w.heap.size, 4, none⟩ = some (.string t_p) ∧ w'.cell? ⟨w.heap.size + 1, 0, none⟩ = some (.int .i64 mk_q) ∧ w'.cell? ⟨w.heap.size + 1, 1, none⟩ = some (.string mh_q) ∧ w'.cell? ⟨w.heap.size + 1, 2, none⟩ = some (.string mp_q) ∧ w'.cell? ⟨w.heap.size + 1, 3, none⟩ = some (.string mf_q) ∧ w'.cell? ⟨w.heap.size + 1, 4, none⟩ = some (.string mg_q) ∧ w'.cell? ⟨w_4.heap.size, 0, none⟩ = some (.bool bo_p) ∧ w'.cell? ⟨w_4.heap.size, 1, none⟩ = some (.slice xa_y xn_y xc_y) ∧ w'.cell? ⟨w_4.heap.size, 2, none⟩ = some (.slice ya_y yn_y yc_y) ∧ w'.cell? ⟨w_4.heap.size, 3, none⟩ = some (.slice za_y zn_y zc_y) ∧ w'.cell? ⟨w_4.heap.size, 4, none⟩ = some (.string t_p)) (exact KEEP.out _ (by repeat' (first | (with_reducible exact Below.refl _ _) | (with_reducible exact hPE) | (with_reducible exact hPB) | (with_reducible exact hPQ) | (with_reducible exact hPR) | (with_reducible refine bl_dw ?_) | (with_reducible refine bl_aw ?_ _)))) (first | (go_at_call 10; with_reducible refine (toQ_any mk_q mh_q mp_q mf_q mg_q _).mono ?_; rintro e wQ ⟨rfl, hgQ⟩; have hPQ := bl_tr (show Below w_5.heap.size w_5 _ from (by repeat' (first | (with_reducible exact Below.refl _ _) | (with_reducible exact hPE) | (with_reducible exact hPB) | (with_reducible exact hPQ) | (with_reducible exact hPR) | (with_reducible refine bl_dw ?_) | (with_reducible refine bl_aw ?_ _)))) hgQ.below) | (go_at_call 15; refine (HC.out _ _ _ _ _ _ _ _ _ _ ((HF_y.out.reads Hy.out bo_p t_p).up (by repeat' (first | (with_reducible exact Below.refl _ _) | (with_reducible exact hPE) | (with_reducible exact hPB) | (with_reducible exact hPQ) | (with_reducible exact hPR) | (with_reducible refine bl_dw ?_) | (with_reducible refine bl_aw ?_ _))))).mono ?_; rintro e wE ⟨rfl, hgE⟩; have hPE := bl_tr (show Below w_5.heap.size w_5 _ from (by repeat' (first | (with_reducible exact Below.refl _ _) | (with_reducible exact hPE) | (with_reducible exact hPB) | (with_reducible exact hPQ) | (with_reducible exact hPR) | (with_reducible refine bl_dw ?_) | (with_reducible refine bl_aw ?_ _)))) hgE))
    all_goals
      go_wp2_with fail
      go_meet
      exact ⟨rfl, by repeat' (first | (with_reducible exact Below.refl _ _) | (with_reducible exact hPE) | (with_reducible exact hPB) | (with_reducible exact hPQ) | (with_reducible exact hPR) | (with_reducible refine bl_dw ?_) | (with_reducible refine bl_aw ?_ _))⟩
  obtain ⟨rfl, hB⟩ := hcut
  rename World => w_6
  replace q_p0 := (hB.cell (show (⟨w.heap.size, 0, none⟩ : Addr).block < _ from World.block_lt_of_cell? _ _ q_p0)).trans q_p0
  replace q_p1 := (hB.cell (show (⟨w.heap.size, 1, none⟩ : Addr).block < _ from World.block_lt_of_cell? _ _ q_p1)).trans q_p1
  replace q_p2 := (hB.cell (show (⟨w.heap.size, 2, none⟩ : Addr).block < _ from World.block_lt_of_cell? _ _ q_p2)).trans q_p2
  replace q_p3 := (hB.cell (show (⟨w.heap.size, 3, none⟩ : Addr).block < _ from World.block_lt_of_cell? _ _ q_p3)).trans q_p3
  replace q_p4 := (hB.cell (show (⟨w.heap.size, 4, none⟩ : Addr).block < _ from World.block_lt_of_cell? _ _ q_p4)).trans q_p4
  replace b_p : w.heap.size < w_6.heap.size := World.block_lt_of_cell? _ _ q_p0
  replace q_q0 := (hB.cell (show (⟨w.heap.size + 1, 0, none⟩ : Addr).block < _ from World.block_lt_of_cell? _ _ q_q0)).trans q_q0
  replace q_q1 := (hB.cell (show (⟨w.heap.size + 1, 1, none⟩ : Addr).block < _ from World.block_lt_of_cell? _ _ q_q1)).trans q_q1
  replace q_q2 := (hB.cell (show (⟨w.heap.size + 1, 2, none⟩ : Addr).block < _ from World.block_lt_of_cell? _ _ q_q2)).trans q_q2
  replace q_q3 := (hB.cell (show (⟨w.heap.size + 1, 3, none⟩ : Addr).block < _ from World.block_lt_of_cell? _ _ q_q3)).trans q_q3
  replace q_q4 := (hB.cell (show (⟨w.heap.size + 1, 4, none⟩ : Addr).block < _ from World.block_lt_of_cell? _ _ q_q4)).trans q_q4
  replace b_q : w.heap.size + 1 < w_6.heap.size := World.block_lt_of_cell? _ _ q_q0
  replace q_y0 := (hB.cell (show (⟨w_4.heap.size, 0, none⟩ : Addr).block < _ from World.block_lt_of_cell? _ _ q_y0)).trans q_y0
  replace q_y1 := (hB.cell (show (⟨w_4.heap.size, 1, none⟩ : Addr).block < _ from World.block_lt_of_cell? _ _ q_y1)).trans q_y1
  replace q_y2 := (hB.cell (show (⟨w_4.heap.size, 2, none⟩ : Addr).block < _ from World.block_lt_of_cell? _ _ q_y2)).trans q_y2
  replace q_y3 := (hB.cell (show (⟨w_4.heap.size, 3, none⟩ : Addr).block < _ from World.block_lt_of_cell? _ _ q_y3)).trans q_y3
  replace q_y4 := (hB.cell (show (⟨w_4.heap.size, 4, none⟩ : Addr).block < _ from World.block_lt_of_cell? _ _ q_y4)).trans q_y4
  replace b_y : w_4.heap.size < w_6.heap.size := World.block_lt_of_cell? _ _ q_y0
  replace Hy := Lib.hid (ownL_later Hy.out hB)
  have HS6 := Lib.hid hB.size
  replace HB := Lib.hid (HB.out.trans (hB.mono HB.out.size))
  clear hB
  go_upto_region 13 with (fail)
  go_cut [37] from 33 to 37 (fun c wx => c = .bool false ∧ Below w_6.heap.size w_6 wx)
  case first =>
    have hread1 := (((HR1_p.out.below HB.out (Nat.le_refl _)).mono HB.out.size)).grw (Nat.le_refl _) (Grw.refl _).drew
    have hread2 := (((HR2_p.out.below HB.out (Nat.le_refl _)).mono HB.out.size)).grw (Nat.le_refl _) (Grw.refl _).drew
    have hread3 := (((HR3_p.out.below HB.out (Nat.le_refl _)).mono HB.out.size)).grw (Nat.le_refl _) (Grw.refl _).drew
    go_region_with (first | (go_at_call 14; refine (toP_any bo_p t_p ?_ ?_ ?_ HW1_p.out HW2_p.out HW3_p.out).mono ?_; (exact hread1); (exact hread2); (exact hread3); rintro e w_A ⟨y1_w, y2_w, y3_w, xa_w, xn_w, xc_w, ya_w, yn_w, yc_w, za_w, zn_w, zc_w, rfl, hf_w, ho_w, hn_w, hb_w⟩; have hO := ownL_later Hy.out (below_undrew hb_w); have hsA := (below_undrew hb_w).size; (first | have qA_p0 := (hb_w.cell (p := ⟨w.heap.size, 0, none⟩) b_p).trans q_p0 | skip); (first | have qA_p1 := (hb_w.cell (p := ⟨w.heap.size, 1, none⟩) b_p).trans q_p1 | skip); (first | have qA_p2 := (hb_w.cell (p := ⟨w.heap.size, 2, none⟩) b_p).trans q_p2 | skip); (first | have qA_p3 := (hb_w.cell (p := ⟨w.heap.size, 3, none⟩) b_p).trans q_p3 | skip); (first | have qA_p4 := (hb_w.cell (p := ⟨w.heap.size, 4, none⟩) b_p).trans q_p4 | skip); (first | have qA_q0 := (hb_w.cell (p := ⟨w.heap.size + 1, 0, none⟩) b_q).trans q_q0 | skip); (first | have qA_q1 := (hb_w.cell (p := ⟨w.heap.size + 1, 1, none⟩) b_q).trans q_q1 | skip); (first | have qA_q2 := (hb_w.cell (p := ⟨w.heap.size + 1, 2, none⟩) b_q).trans q_q2 | skip); (first | have qA_q3 := (hb_w.cell (p := ⟨w.heap.size + 1, 3, none⟩) b_q).trans q_q3 | skip); (first | have qA_q4 := (hb_w.cell (p := ⟨w.heap.size + 1, 4, none⟩) b_q).trans q_q4 | skip); (first | have qA_y0 := (hb_w.cell (p := ⟨w_4.heap.size, 0, none⟩) b_y).trans q_y0 | skip); (first | have qA_y1 := (hb_w.cell (p := ⟨w_4.heap.size, 1, none⟩) b_y).trans q_y1 | skip); (first | have qA_y2 := (hb_w.cell (p := ⟨w_4.heap.size, 2, none⟩) b_y).trans q_y2 | skip); (first | have qA_y3 := (hb_w.cell (p := ⟨w_4.heap.size, 3, none⟩) b_y).trans q_y3 | skip); (first | have qA_y4 := (hb_w.cell (p := ⟨w_4.heap.size, 4, none⟩) b_y).trans q_y4 | skip)) | (go_at_call 16; refine (eqPo bo_p t_p HF_y.out hf_w hO ho_w).mono ?_; rintro e w_C ⟨rfl, hgC⟩))
    all_goals
      have hB := (below_undrew hb_w).trans (hgC.below.mono hsA)
      go_wp2_with fail
      go_meet
      exact ⟨rfl, hB⟩
  obtain ⟨rfl, hB⟩ := hcut
  rename World => w_7
  replace q_p0 := (hB.cell (show (⟨w.heap.size, 0, none⟩ : Addr).block < _ from World.block_lt_of_cell? _ _ q_p0)).trans q_p0
  replace q_p1 := (hB.cell (show (⟨w.heap.size, 1, none⟩ : Addr).block < _ from World.block_lt_of_cell? _ _ q_p1)).trans q_p1
  replace q_p2 := (hB.cell (show (⟨w.heap.size, 2, none⟩ : Addr).block < _ from World.block_lt_of_cell? _ _ q_p2)).trans q_p2
  replace q_p3 := (hB.cell (show (⟨w.heap.size, 3, none⟩ : Addr).block < _ from World.block_lt_of_cell? _ _ q_p3)).trans q_p3
  replace q_p4 := (hB.cell (show (⟨w.heap.size, 4, none⟩ : Addr).block < _ from World.block_lt_of_cell? _ _ q_p4)).trans q_p4
  replace b_p : w.heap.size < w_7.heap.size := World.block_lt_of_cell? _ _ q_p0
  replace q_q0 := (hB.cell (show (⟨w.heap.size + 1, 0, none⟩ : Addr).block < _ from World.block_lt_of_cell? _ _ q_q0)).trans q_q0
  replace q_q1 := (hB.cell (show (⟨w.heap.size + 1, 1, none⟩ : Addr).block < _ from World.block_lt_of_cell? _ _ q_q1)).trans q_q1
  replace q_q2 := (hB.cell (show (⟨w.heap.size + 1, 2, none⟩ : Addr).block < _ from World.block_lt_of_cell? _ _ q_q2)).trans q_q2
  replace q_q3 := (hB.cell (show (⟨w.heap.size + 1, 3, none⟩ : Addr).block < _ from World.block_lt_of_cell? _ _ q_q3)).trans q_q3
  replace q_q4 := (hB.cell (show (⟨w.heap.size + 1, 4, none⟩ : Addr).block < _ from World.block_lt_of_cell? _ _ q_q4)).trans q_q4
  replace b_q : w.heap.size + 1 < w_7.heap.size := World.block_lt_of_cell? _ _ q_q0
  replace q_y0 := (hB.cell (show (⟨w_4.heap.size, 0, none⟩ : Addr).block < _ from World.block_lt_of_cell? _ _ q_y0)).trans q_y0
  replace q_y1 := (hB.cell (show (⟨w_4.heap.size, 1, none⟩ : Addr).block < _ from World.block_lt_of_cell? _ _ q_y1)).trans q_y1
  replace q_y2 := (hB.cell (show (⟨w_4.heap.size, 2, none⟩ : Addr).block < _ from World.block_lt_of_cell? _ _ q_y2)).trans q_y2
  replace q_y3 := (hB.cell (show (⟨w_4.heap.size, 3, none⟩ : Addr).block < _ from World.block_lt_of_cell? _ _ q_y3)).trans q_y3
  replace q_y4 := (hB.cell (show (⟨w_4.heap.size, 4, none⟩ : Addr).block < _ from World.block_lt_of_cell? _ _ q_y4)).trans q_y4
  replace b_y : w_4.heap.size < w_7.heap.size := World.block_lt_of_cell? _ _ q_y0
  replace Hy := Lib.hid (ownL_later Hy.out hB)
  have HS7 := Lib.hid hB.size
  replace HB := Lib.hid (HB.out.trans (hB.mono HB.out.size))
  clear hB
  go_wp2_with fail
  go_ret
  exact ⟨rfl, HB.out⟩
end Go.Proofs.Ytkjjiinccljhjaa
