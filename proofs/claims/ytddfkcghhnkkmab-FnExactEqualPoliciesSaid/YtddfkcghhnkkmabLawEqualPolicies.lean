/- The walk of the law FnExactEqualPolicies: it returns true, and writes nothing that was there. -/
import Derived.Test.YtddfkcghhnkkmabLawPo
import Derived.Test.YtddfkcghhnkkmabPolE
import Derived.Test.YtddfkcghhnkkmabBl
import Derived.Deep.RegionHeld3
import Derived.Deep.RegionWith
import Derived.Deep.CutRange
namespace Go.Proofs.Ytddfkcghhnkkmab
open Go.ChangeShapes Go.WideShapes Go.ChangeAt Go.RowKit

set_option maxRecDepth 100000 in
set_option maxHeartbeats 4000000 in
theorem walkEqualPolicies (bo_a : Bool) (xa_a : Option Addr) (xn_a xc_a : Nat) (ya_a : Option Addr) (yn_a yc_a : Nat) (za_a : Option Addr) (zn_a zc_a : Nat) (xs_a ys_a zs_a : List ByteArray) (t_a : ByteArray) (bo_b : Bool) (xa_b : Option Addr) (xn_b xc_b : Nat) (ya_b : Option Addr) (yn_b yc_b : Nat) (za_b : Option Addr) (zn_b zc_b : Nat) (xs_b ys_b zs_b : List ByteArray) (t_b : ByteArray) (w : World) (r_a : IsPo w (.slice xa_a xn_a xc_a) (.slice ya_a yn_a yc_a) (.slice za_a zn_a zc_a) ⟨bo_a, xs_a, ys_a, zs_a, t_a⟩) (r_b : IsPo w (.slice xa_b xn_b xc_b) (.slice ya_b yn_b yc_b) (.slice za_b zn_b zc_b) ⟨bo_b, xs_b, ys_b, zs_b, t_b⟩) :
    Calls Try.prog 3 #[.agg #[.bool bo_a, .slice xa_a xn_a xc_a, .slice ya_a yn_a yc_a, .slice za_a zn_a zc_a, .string t_a], .agg #[.bool bo_b, .slice xa_b xn_b xc_b, .slice ya_b yn_b yc_b, .slice za_b zn_b zc_b, .string t_b]] w fun e w' => e = .returned (.bool true) ∧ Below w.heap.size w w' := by
  obtain ⟨⟨h1_a, o1_a⟩, ⟨h2_a, o2_a⟩, ⟨h3_a, o3_a⟩, ht_a⟩ := r_a
  have HR1_a := Lib.hid h1_a; have HS1_a := Lib.hid (rwSs_small (v := .slice xa_a xn_a xc_a) o1_a); clear h1_a o1_a
  have HR2_a := Lib.hid h2_a; have HS2_a := Lib.hid (rwSs_small (v := .slice ya_a yn_a yc_a) o2_a); clear h2_a o2_a
  have HR3_a := Lib.hid h3_a; have HS3_a := Lib.hid (rwSs_small (v := .slice za_a zn_a zc_a) o3_a); clear h3_a o3_a
  obtain ⟨⟨h1_b, o1_b⟩, ⟨h2_b, o2_b⟩, ⟨h3_b, o3_b⟩, ht_b⟩ := r_b
  have HR1_b := Lib.hid h1_b; have HS1_b := Lib.hid (rwSs_small (v := .slice xa_b xn_b xc_b) o1_b); clear h1_b o1_b
  have HR2_b := Lib.hid h2_b; have HS2_b := Lib.hid (rwSs_small (v := .slice ya_b yn_b yc_b) o2_b); clear h2_b o2_b
  have HR3_b := Lib.hid h3_b; have HS3_b := Lib.hid (rwSs_small (v := .slice za_b zn_b zc_b) o3_b); clear h3_b o3_b
  go_enter Try.func3, Try.ntmps3
  go_wp2_with fail
  obtain ⟨w_0, hw_0⟩ : ∃ x, ((w.alloc (.cells #[.bool bo_a, .slice xa_a xn_a xc_a, .slice ya_a yn_a yc_a, .slice za_a zn_a zc_a, .string t_a] 24)).alloc (.cells #[.bool bo_b, .slice xa_b xn_b xc_b, .slice ya_b yn_b yc_b, .slice za_b zn_b zc_b, .string t_b] 24)) = x := ⟨_, rfl⟩
  rw [hw_0]
  have HB := Lib.hid (show Below w.heap.size w w_0 by rw [← hw_0]; exact (((Below.refl w.heap.size w).alloc (by first | (simp; done) | (simp; omega)) _).alloc (by first | (simp; done) | (simp; omega)) _))
  have q_a0 : w_0.cell? ⟨w.heap.size, 0, none⟩ = some (.bool bo_a) := by rw [← hw_0]; simp
  have q_a1 : w_0.cell? ⟨w.heap.size, 1, none⟩ = some (.slice xa_a xn_a xc_a) := by rw [← hw_0]; simp
  have q_a2 : w_0.cell? ⟨w.heap.size, 2, none⟩ = some (.slice ya_a yn_a yc_a) := by rw [← hw_0]; simp
  have q_a3 : w_0.cell? ⟨w.heap.size, 3, none⟩ = some (.slice za_a zn_a zc_a) := by rw [← hw_0]; simp
  have q_a4 : w_0.cell? ⟨w.heap.size, 4, none⟩ = some (.string t_a) := by rw [← hw_0]; simp
  have b_a : w.heap.size < w_0.heap.size := World.block_lt_of_cell? _ _ q_a0
  have q_b0 : w_0.cell? ⟨w.heap.size + 1, 0, none⟩ = some (.bool bo_b) := by rw [← hw_0]; simp
  have q_b1 : w_0.cell? ⟨w.heap.size + 1, 1, none⟩ = some (.slice xa_b xn_b xc_b) := by rw [← hw_0]; simp
  have q_b2 : w_0.cell? ⟨w.heap.size + 1, 2, none⟩ = some (.slice ya_b yn_b yc_b) := by rw [← hw_0]; simp
  have q_b3 : w_0.cell? ⟨w.heap.size + 1, 3, none⟩ = some (.slice za_b zn_b zc_b) := by rw [← hw_0]; simp
  have q_b4 : w_0.cell? ⟨w.heap.size + 1, 4, none⟩ = some (.string t_b) := by rw [← hw_0]; simp
  have b_b : w.heap.size + 1 < w_0.heap.size := World.block_lt_of_cell? _ _ q_b0
  have HS0 := Lib.hid (show w.heap.size + 2 ≤ w_0.heap.size by rw [← hw_0]; simp)
  clear hw_0
  go_wp2_with fail
  refine (sz_Policy bo_a (rwSs (.slice xa_a xn_a xc_a) xs_a) (rwSs (.slice ya_a yn_a yc_a) ys_a) (rwSs (.slice za_a zn_a zc_a) zs_a) t_a 1048576 (by omega) (by omega) _ (rwSs_is _ _) (rwSs_reads ((HR1_a.out.below HB.out (Nat.le_refl _)).mono HB.out.size)) HS1_a.out (rwSs_is _ _) (rwSs_reads ((HR2_a.out.below HB.out (Nat.le_refl _)).mono HB.out.size)) HS2_a.out (rwSs_is _ _) (rwSs_reads ((HR3_a.out.below HB.out (Nat.le_refl _)).mono HB.out.size)) HS3_a.out ht_a).mono ?_
  rintro e w_1 ⟨r, rfl, lo_r, hi_r, hg⟩
  have hB := hg.below
  replace q_a0 := (hB.cell (show (⟨w.heap.size, 0, none⟩ : Addr).block < _ from World.block_lt_of_cell? _ _ q_a0)).trans q_a0
  replace q_a1 := (hB.cell (show (⟨w.heap.size, 1, none⟩ : Addr).block < _ from World.block_lt_of_cell? _ _ q_a1)).trans q_a1
  replace q_a2 := (hB.cell (show (⟨w.heap.size, 2, none⟩ : Addr).block < _ from World.block_lt_of_cell? _ _ q_a2)).trans q_a2
  replace q_a3 := (hB.cell (show (⟨w.heap.size, 3, none⟩ : Addr).block < _ from World.block_lt_of_cell? _ _ q_a3)).trans q_a3
  replace q_a4 := (hB.cell (show (⟨w.heap.size, 4, none⟩ : Addr).block < _ from World.block_lt_of_cell? _ _ q_a4)).trans q_a4
  replace b_a : w.heap.size < w_1.heap.size := World.block_lt_of_cell? _ _ q_a0
  replace q_b0 := (hB.cell (show (⟨w.heap.size + 1, 0, none⟩ : Addr).block < _ from World.block_lt_of_cell? _ _ q_b0)).trans q_b0
  replace q_b1 := (hB.cell (show (⟨w.heap.size + 1, 1, none⟩ : Addr).block < _ from World.block_lt_of_cell? _ _ q_b1)).trans q_b1
  replace q_b2 := (hB.cell (show (⟨w.heap.size + 1, 2, none⟩ : Addr).block < _ from World.block_lt_of_cell? _ _ q_b2)).trans q_b2
  replace q_b3 := (hB.cell (show (⟨w.heap.size + 1, 3, none⟩ : Addr).block < _ from World.block_lt_of_cell? _ _ q_b3)).trans q_b3
  replace q_b4 := (hB.cell (show (⟨w.heap.size + 1, 4, none⟩ : Addr).block < _ from World.block_lt_of_cell? _ _ q_b4)).trans q_b4
  replace b_b : w.heap.size + 1 < w_1.heap.size := World.block_lt_of_cell? _ _ q_b0
  have HS1 := Lib.hid hB.size
  replace HB := Lib.hid (HB.out.trans (hB.mono HB.out.size))
  clear hB hg
  by_cases neg_r : r < 0
  · go_wp2_with fail
    go_ret
    exact ⟨rfl, HB.out⟩
  replace hi_r := hi_r (by omega)
  have hu_r : r ≤ 1048576 := by omega
  have HW1_a := Lib.hid (show (rwSs (.slice xa_a xn_a xc_a) xs_a).weight ≤ 1048576 by omega)
  have HW2_a := Lib.hid (show (rwSs (.slice ya_a yn_a yc_a) ys_a).weight ≤ 1048576 by omega)
  have HW3_a := Lib.hid (show (rwSs (.slice za_a zn_a zc_a) zs_a).weight ≤ 1048576 by omega)
  have HTS_a := Lib.hid (show t_a.size ≤ 1048576 by omega)
  clear hi_r
  go_wp2_with fail
  refine (sz_Policy bo_b (rwSs (.slice xa_b xn_b xc_b) xs_b) (rwSs (.slice ya_b yn_b yc_b) ys_b) (rwSs (.slice za_b zn_b zc_b) zs_b) t_b r (by omega) (by omega) _ (rwSs_is _ _) (rwSs_reads ((HR1_b.out.below HB.out (Nat.le_refl _)).mono HB.out.size)) HS1_b.out (rwSs_is _ _) (rwSs_reads ((HR2_b.out.below HB.out (Nat.le_refl _)).mono HB.out.size)) HS2_b.out (rwSs_is _ _) (rwSs_reads ((HR3_b.out.below HB.out (Nat.le_refl _)).mono HB.out.size)) HS3_b.out ht_b).mono ?_
  rintro e w_2 ⟨r2, rfl, lo_r2, hi_r2, hg⟩
  have hB := hg.below
  replace q_a0 := (hB.cell (show (⟨w.heap.size, 0, none⟩ : Addr).block < _ from World.block_lt_of_cell? _ _ q_a0)).trans q_a0
  replace q_a1 := (hB.cell (show (⟨w.heap.size, 1, none⟩ : Addr).block < _ from World.block_lt_of_cell? _ _ q_a1)).trans q_a1
  replace q_a2 := (hB.cell (show (⟨w.heap.size, 2, none⟩ : Addr).block < _ from World.block_lt_of_cell? _ _ q_a2)).trans q_a2
  replace q_a3 := (hB.cell (show (⟨w.heap.size, 3, none⟩ : Addr).block < _ from World.block_lt_of_cell? _ _ q_a3)).trans q_a3
  replace q_a4 := (hB.cell (show (⟨w.heap.size, 4, none⟩ : Addr).block < _ from World.block_lt_of_cell? _ _ q_a4)).trans q_a4
  replace b_a : w.heap.size < w_2.heap.size := World.block_lt_of_cell? _ _ q_a0
  replace q_b0 := (hB.cell (show (⟨w.heap.size + 1, 0, none⟩ : Addr).block < _ from World.block_lt_of_cell? _ _ q_b0)).trans q_b0
  replace q_b1 := (hB.cell (show (⟨w.heap.size + 1, 1, none⟩ : Addr).block < _ from World.block_lt_of_cell? _ _ q_b1)).trans q_b1
  replace q_b2 := (hB.cell (show (⟨w.heap.size + 1, 2, none⟩ : Addr).block < _ from World.block_lt_of_cell? _ _ q_b2)).trans q_b2
  replace q_b3 := (hB.cell (show (⟨w.heap.size + 1, 3, none⟩ : Addr).block < _ from World.block_lt_of_cell? _ _ q_b3)).trans q_b3
  replace q_b4 := (hB.cell (show (⟨w.heap.size + 1, 4, none⟩ : Addr).block < _ from World.block_lt_of_cell? _ _ q_b4)).trans q_b4
  replace b_b : w.heap.size + 1 < w_2.heap.size := World.block_lt_of_cell? _ _ q_b0
  have HS2 := Lib.hid hB.size
  replace HB := Lib.hid (HB.out.trans (hB.mono HB.out.size))
  clear hB hg
  by_cases neg_r2 : r2 < 0
  · go_wp2_with fail
    go_ret
    exact ⟨rfl, HB.out⟩
  replace hi_r2 := hi_r2 (by omega)
  have hu_r2 : r2 ≤ 1048576 := by omega
  have HW1_b := Lib.hid (show (rwSs (.slice xa_b xn_b xc_b) xs_b).weight ≤ 1048576 by omega)
  have HW2_b := Lib.hid (show (rwSs (.slice ya_b yn_b yc_b) ys_b).weight ≤ 1048576 by omega)
  have HW3_b := Lib.hid (show (rwSs (.slice za_b zn_b zc_b) zs_b).weight ≤ 1048576 by omega)
  have HTS_b := Lib.hid (show t_b.size ≤ 1048576 by omega)
  clear hi_r2
  obtain ⟨D, hD⟩ : ∃ D, eqP (⟨bo_a, xs_a, ys_a, zs_a, t_a⟩ : Pol) (⟨bo_b, xs_b, ys_b, zs_b, t_b⟩ : Pol) = D := ⟨_, rfl⟩
  have HD := Lib.hid hD; clear hD
  have hDD : (D == D) = true := beq_self_eq_true _; have hDN : (D != D) = false := by rw [bne, hDD]; rfl
  go_upto_region 8 with (fail)
  go_cut [6] from 20 to 24 (fun c wx => c = .bool D ∧ Below w_2.heap.size w_2 wx)
  case first =>
    have KEEP := Lib.hid (fun (w' : World) (h : Below w_2.heap.size w_2 w') => show Below w_2.heap.size w_2 w' ∧ w'.cell? ⟨w.heap.size, 0, none⟩ = some (.bool bo_a) ∧ w'.cell? ⟨w.heap.size, 1, none⟩ = some (.slice xa_a xn_a xc_a) ∧ w'.cell? ⟨w.heap.size, 2, none⟩ = some (.slice ya_a yn_a yc_a) ∧ w'.cell? ⟨w.heap.size, 3, none⟩ = some (.slice za_a zn_a zc_a) ∧ w'.cell? ⟨w.heap.size, 4, none⟩ = some (.string t_a) ∧ w'.cell? ⟨w.heap.size + 1, 0, none⟩ = some (.bool bo_b) ∧ w'.cell? ⟨w.heap.size + 1, 1, none⟩ = some (.slice xa_b xn_b xc_b) ∧ w'.cell? ⟨w.heap.size + 1, 2, none⟩ = some (.slice ya_b yn_b yc_b) ∧ w'.cell? ⟨w.heap.size + 1, 3, none⟩ = some (.slice za_b zn_b zc_b) ∧ w'.cell? ⟨w.heap.size + 1, 4, none⟩ = some (.string t_b) from ⟨h, (h.cell (show (⟨w.heap.size, 0, none⟩ : Addr).block < _ from World.block_lt_of_cell? _ _ q_a0)).trans q_a0, (h.cell (show (⟨w.heap.size, 1, none⟩ : Addr).block < _ from World.block_lt_of_cell? _ _ q_a1)).trans q_a1, (h.cell (show (⟨w.heap.size, 2, none⟩ : Addr).block < _ from World.block_lt_of_cell? _ _ q_a2)).trans q_a2, (h.cell (show (⟨w.heap.size, 3, none⟩ : Addr).block < _ from World.block_lt_of_cell? _ _ q_a3)).trans q_a3, (h.cell (show (⟨w.heap.size, 4, none⟩ : Addr).block < _ from World.block_lt_of_cell? _ _ q_a4)).trans q_a4, (h.cell (show (⟨w.heap.size + 1, 0, none⟩ : Addr).block < _ from World.block_lt_of_cell? _ _ q_b0)).trans q_b0, (h.cell (show (⟨w.heap.size + 1, 1, none⟩ : Addr).block < _ from World.block_lt_of_cell? _ _ q_b1)).trans q_b1, (h.cell (show (⟨w.heap.size + 1, 2, none⟩ : Addr).block < _ from World.block_lt_of_cell? _ _ q_b2)).trans q_b2, (h.cell (show (⟨w.heap.size + 1, 3, none⟩ : Addr).block < _ from World.block_lt_of_cell? _ _ q_b3)).trans q_b3, (h.cell (show (⟨w.heap.size + 1, 4, none⟩ : Addr).block < _ from World.block_lt_of_cell? _ _ q_b4)).trans q_b4⟩)
    have HEQ := Lib.hid (fun (u1 : Option Addr) (m1 k1 : Nat) (u2 : Option Addr) (m2 k2 : Nat) (u3 : Option Addr) (m3 k3 : Nat) (v1 : Option Addr) (l1 j1 : Nat) (v2 : Option Addr) (l2 j2 : Nat) (v3 : Option Addr) (l3 j3 : Nat) (X : World) (h : ReadP X.heap.size X (.slice u1 m1 k1) (.slice u2 m2 k2) (.slice u3 m3 k3) (⟨bo_a, xs_a, ys_a, zs_a, t_a⟩ : Pol)) (h' : ReadP X.heap.size X (.slice v1 l1 j1) (.slice v2 l2 j2) (.slice v3 l3 j3) (⟨bo_b, xs_b, ys_b, zs_b, t_b⟩ : Pol)) => show Calls Try.prog 5 #[.agg #[.bool bo_a, .slice u1 m1 k1, .slice u2 m2 k2, .slice u3 m3 k3, .string t_a], .agg #[.bool bo_b, .slice v1 l1 j1, .slice v2 l2 j2, .slice v3 l3 j3, .string t_b]] X fun e w' => e = .returned (.bool D) ∧ Grw X w' from HD.out ▸ eqPol_spec bo_a xs_a ys_a zs_a t_a _ _ _ _ _ _ _ _ _ bo_b xs_b ys_b zs_b t_b _ _ _ _ _ _ _ _ _ X h h')
    go_region_held3 (fun w' => Below w_2.heap.size w_2 w' ∧ w'.cell? ⟨w.heap.size, 0, none⟩ = some (.bool bo_a) ∧ w'.cell? ⟨w.heap.size, 1, none⟩ = some (.slice xa_a xn_a xc_a) ∧ w'.cell? ⟨w.heap.size, 2, none⟩ = some (.slice ya_a yn_a yc_a) ∧ w'.cell? ⟨w.heap.size, 3, none⟩ = some (.slice za_a zn_a zc_a) ∧ w'.cell? ⟨w.heap.size, 4, none⟩ = some (.string t_a) ∧ w'.cell? ⟨w.heap.size + 1, 0, none⟩ = some (.bool bo_b) ∧ w'.cell? ⟨w.heap.size + 1, 1, none⟩ = some (.slice xa_b xn_b xc_b) ∧ w'.cell? ⟨w.heap.size + 1, 2, none⟩ = some (.slice ya_b yn_b yc_b) ∧ w'.cell? ⟨w.heap.size + 1, 3, none⟩ = some (.slice za_b zn_b zc_b) ∧ w'.cell? ⟨w.heap.size + 1, 4, none⟩ = some (.string t_b)) (exact KEEP.out _ (by repeat' (first | (with_reducible exact Below.refl _ _) | (with_reducible exact hPE) | (with_reducible exact hPC) | (with_reducible exact hPB) | (with_reducible refine bl_dw ?_) | (with_reducible refine bl_aw ?_ _)))) (first | (go_at_call 6; with_reducible refine (toPr_any bo_a t_a HR1_a.out HR2_a.out HR3_a.out HW1_a.out HW2_a.out HW3_a.out (bl_via HB.out HB.out.size (by repeat' (first | (with_reducible exact Below.refl _ _) | (with_reducible exact hPE) | (with_reducible exact hPC) | (with_reducible exact hPB) | (with_reducible refine bl_dw ?_) | (with_reducible refine bl_aw ?_ _))))).mono ?_; rintro e wB ⟨xaB, xnB, xcB, yaB, ynB, ycB, zaB, znB, zcB, rfl, hiB, hbB⟩; have hPB := bl_tr (show Below w_2.heap.size w_2 _ from (by repeat' (first | (with_reducible exact Below.refl _ _) | (with_reducible exact hPE) | (with_reducible exact hPC) | (with_reducible exact hPB) | (with_reducible refine bl_dw ?_) | (with_reducible refine bl_aw ?_ _)))) hbB; skip) | (go_at_call 6; with_reducible refine (toPr_any bo_b t_b HR1_b.out HR2_b.out HR3_b.out HW1_b.out HW2_b.out HW3_b.out (bl_via HB.out HB.out.size (by repeat' (first | (with_reducible exact Below.refl _ _) | (with_reducible exact hPE) | (with_reducible exact hPC) | (with_reducible exact hPB) | (with_reducible refine bl_dw ?_) | (with_reducible refine bl_aw ?_ _))))).mono ?_; rintro e wC ⟨xaC, xnC, xcC, yaC, ynC, ycC, zaC, znC, zcC, rfl, hiC, hbC⟩; have hPC := bl_tr (show Below w_2.heap.size w_2 _ from (by repeat' (first | (with_reducible exact Below.refl _ _) | (with_reducible exact hPE) | (with_reducible exact hPC) | (with_reducible exact hPB) | (with_reducible refine bl_dw ?_) | (with_reducible refine bl_aw ?_ _)))) hbC; have hBC := bl_tr (show Below wB.heap.size wB _ from (by repeat' (first | (with_reducible exact Below.refl _ _) | (with_reducible refine bl_dw ?_) | (with_reducible refine bl_aw ?_ _)))) hbC) | (go_at_call 5; refine (HEQ.out _ _ _ _ _ _ _ _ _ _ _ _ _ _ _ _ _ _ _ (hiB.up (by repeat' (first | (with_reducible exact Below.refl _ _) | (with_reducible exact hBC) | (with_reducible refine bl_dw ?_) | (with_reducible refine bl_aw ?_ _)))) (hiC.up (by repeat' (first | (with_reducible exact Below.refl _ _) | (with_reducible refine bl_dw ?_) | (with_reducible refine bl_aw ?_ _))))).mono ?_; rintro e wE ⟨rfl, hgE⟩; have hPE := bl_tr (show Below w_2.heap.size w_2 _ from (by repeat' (first | (with_reducible exact Below.refl _ _) | (with_reducible exact hPE) | (with_reducible exact hPC) | (with_reducible exact hPB) | (with_reducible refine bl_dw ?_) | (with_reducible refine bl_aw ?_ _)))) hgE.below))
    all_goals
      go_wp2_with fail
      go_meet
      exact ⟨rfl, by repeat' (first | (with_reducible exact Below.refl _ _) | (with_reducible exact hPE) | (with_reducible exact hPC) | (with_reducible exact hPB) | (with_reducible refine bl_dw ?_) | (with_reducible refine bl_aw ?_ _))⟩
  obtain ⟨rfl, hB⟩ := hcut
  rename World => w_3
  replace q_a0 := (hB.cell (show (⟨w.heap.size, 0, none⟩ : Addr).block < _ from World.block_lt_of_cell? _ _ q_a0)).trans q_a0
  replace q_a1 := (hB.cell (show (⟨w.heap.size, 1, none⟩ : Addr).block < _ from World.block_lt_of_cell? _ _ q_a1)).trans q_a1
  replace q_a2 := (hB.cell (show (⟨w.heap.size, 2, none⟩ : Addr).block < _ from World.block_lt_of_cell? _ _ q_a2)).trans q_a2
  replace q_a3 := (hB.cell (show (⟨w.heap.size, 3, none⟩ : Addr).block < _ from World.block_lt_of_cell? _ _ q_a3)).trans q_a3
  replace q_a4 := (hB.cell (show (⟨w.heap.size, 4, none⟩ : Addr).block < _ from World.block_lt_of_cell? _ _ q_a4)).trans q_a4
  replace b_a : w.heap.size < w_3.heap.size := World.block_lt_of_cell? _ _ q_a0
  replace q_b0 := (hB.cell (show (⟨w.heap.size + 1, 0, none⟩ : Addr).block < _ from World.block_lt_of_cell? _ _ q_b0)).trans q_b0
  replace q_b1 := (hB.cell (show (⟨w.heap.size + 1, 1, none⟩ : Addr).block < _ from World.block_lt_of_cell? _ _ q_b1)).trans q_b1
  replace q_b2 := (hB.cell (show (⟨w.heap.size + 1, 2, none⟩ : Addr).block < _ from World.block_lt_of_cell? _ _ q_b2)).trans q_b2
  replace q_b3 := (hB.cell (show (⟨w.heap.size + 1, 3, none⟩ : Addr).block < _ from World.block_lt_of_cell? _ _ q_b3)).trans q_b3
  replace q_b4 := (hB.cell (show (⟨w.heap.size + 1, 4, none⟩ : Addr).block < _ from World.block_lt_of_cell? _ _ q_b4)).trans q_b4
  replace b_b : w.heap.size + 1 < w_3.heap.size := World.block_lt_of_cell? _ _ q_b0
  have HS3 := Lib.hid hB.size
  replace HB := Lib.hid (HB.out.trans (hB.mono HB.out.size))
  clear hB
  go_wp2_with fail
  refine (toP_any bo_a t_a ((HR1_a.out.below HB.out (Nat.le_refl _)).mono HB.out.size) ((HR2_a.out.below HB.out (Nat.le_refl _)).mono HB.out.size) ((HR3_a.out.below HB.out (Nat.le_refl _)).mono HB.out.size) HW1_a.out HW2_a.out HW3_a.out).mono ?_
  rintro e w_4 ⟨y1_u, y2_u, y3_u, xa_u, xn_u, xc_u, ya_u, yn_u, yc_u, za_u, zn_u, zc_u, rfl, hf, ho, hn, hb⟩
  have hB := hb
  replace q_a0 := (hB.cell (show (⟨w.heap.size, 0, none⟩ : Addr).block < _ from World.block_lt_of_cell? _ _ q_a0)).trans q_a0
  replace q_a1 := (hB.cell (show (⟨w.heap.size, 1, none⟩ : Addr).block < _ from World.block_lt_of_cell? _ _ q_a1)).trans q_a1
  replace q_a2 := (hB.cell (show (⟨w.heap.size, 2, none⟩ : Addr).block < _ from World.block_lt_of_cell? _ _ q_a2)).trans q_a2
  replace q_a3 := (hB.cell (show (⟨w.heap.size, 3, none⟩ : Addr).block < _ from World.block_lt_of_cell? _ _ q_a3)).trans q_a3
  replace q_a4 := (hB.cell (show (⟨w.heap.size, 4, none⟩ : Addr).block < _ from World.block_lt_of_cell? _ _ q_a4)).trans q_a4
  replace b_a : w.heap.size < w_4.heap.size := World.block_lt_of_cell? _ _ q_a0
  replace q_b0 := (hB.cell (show (⟨w.heap.size + 1, 0, none⟩ : Addr).block < _ from World.block_lt_of_cell? _ _ q_b0)).trans q_b0
  replace q_b1 := (hB.cell (show (⟨w.heap.size + 1, 1, none⟩ : Addr).block < _ from World.block_lt_of_cell? _ _ q_b1)).trans q_b1
  replace q_b2 := (hB.cell (show (⟨w.heap.size + 1, 2, none⟩ : Addr).block < _ from World.block_lt_of_cell? _ _ q_b2)).trans q_b2
  replace q_b3 := (hB.cell (show (⟨w.heap.size + 1, 3, none⟩ : Addr).block < _ from World.block_lt_of_cell? _ _ q_b3)).trans q_b3
  replace q_b4 := (hB.cell (show (⟨w.heap.size + 1, 4, none⟩ : Addr).block < _ from World.block_lt_of_cell? _ _ q_b4)).trans q_b4
  replace b_b : w.heap.size + 1 < w_4.heap.size := World.block_lt_of_cell? _ _ q_b0
  have Hu := Lib.hid (ho)
  have HS4 := Lib.hid hB.size
  replace HB := Lib.hid (HB.out.trans (hB.mono HB.out.size))
  have HF_u := Lib.hid hf; have HN_u := Lib.hid hn
  clear hB ho hn hb hf
  go_wp2_with fail
  obtain ⟨w_5, hw⟩ : ∃ x, w_4.alloc (.cells #[.bool bo_a, .slice xa_u xn_u xc_u, .slice ya_u yn_u yc_u, .slice za_u zn_u zc_u, .string t_a] 27) = x := ⟨_, rfl⟩
  rw [hw]
  have hB : Below w_4.heap.size w_4 w_5 := by rw [← hw]; exact (Below.refl _ _).alloc (Nat.le_refl _) _
  have q_u0 : w_5.cell? ⟨w_4.heap.size, 0, none⟩ = some (.bool bo_a) := by rw [← hw]; simp
  have q_u1 : w_5.cell? ⟨w_4.heap.size, 1, none⟩ = some (.slice xa_u xn_u xc_u) := by rw [← hw]; simp
  have q_u2 : w_5.cell? ⟨w_4.heap.size, 2, none⟩ = some (.slice ya_u yn_u yc_u) := by rw [← hw]; simp
  have q_u3 : w_5.cell? ⟨w_4.heap.size, 3, none⟩ = some (.slice za_u zn_u zc_u) := by rw [← hw]; simp
  have q_u4 : w_5.cell? ⟨w_4.heap.size, 4, none⟩ = some (.string t_a) := by rw [← hw]; simp
  have b_u : w_4.heap.size < w_5.heap.size := World.block_lt_of_cell? _ _ q_u0
  replace q_a0 := (hB.cell (show (⟨w.heap.size, 0, none⟩ : Addr).block < _ from World.block_lt_of_cell? _ _ q_a0)).trans q_a0
  replace q_a1 := (hB.cell (show (⟨w.heap.size, 1, none⟩ : Addr).block < _ from World.block_lt_of_cell? _ _ q_a1)).trans q_a1
  replace q_a2 := (hB.cell (show (⟨w.heap.size, 2, none⟩ : Addr).block < _ from World.block_lt_of_cell? _ _ q_a2)).trans q_a2
  replace q_a3 := (hB.cell (show (⟨w.heap.size, 3, none⟩ : Addr).block < _ from World.block_lt_of_cell? _ _ q_a3)).trans q_a3
  replace q_a4 := (hB.cell (show (⟨w.heap.size, 4, none⟩ : Addr).block < _ from World.block_lt_of_cell? _ _ q_a4)).trans q_a4
  replace b_a : w.heap.size < w_5.heap.size := World.block_lt_of_cell? _ _ q_a0
  replace q_b0 := (hB.cell (show (⟨w.heap.size + 1, 0, none⟩ : Addr).block < _ from World.block_lt_of_cell? _ _ q_b0)).trans q_b0
  replace q_b1 := (hB.cell (show (⟨w.heap.size + 1, 1, none⟩ : Addr).block < _ from World.block_lt_of_cell? _ _ q_b1)).trans q_b1
  replace q_b2 := (hB.cell (show (⟨w.heap.size + 1, 2, none⟩ : Addr).block < _ from World.block_lt_of_cell? _ _ q_b2)).trans q_b2
  replace q_b3 := (hB.cell (show (⟨w.heap.size + 1, 3, none⟩ : Addr).block < _ from World.block_lt_of_cell? _ _ q_b3)).trans q_b3
  replace q_b4 := (hB.cell (show (⟨w.heap.size + 1, 4, none⟩ : Addr).block < _ from World.block_lt_of_cell? _ _ q_b4)).trans q_b4
  replace b_b : w.heap.size + 1 < w_5.heap.size := World.block_lt_of_cell? _ _ q_b0
  replace Hu := Lib.hid (ownL_later Hu.out hB)
  have HS5 := Lib.hid hB.size
  replace HB := Lib.hid (HB.out.trans (hB.mono HB.out.size))
  clear hB hw
  have HSb_u := Lib.hid b_u
  go_wp2_with fail
  refine (toP_any bo_b t_b ((HR1_b.out.below HB.out (Nat.le_refl _)).mono HB.out.size) ((HR2_b.out.below HB.out (Nat.le_refl _)).mono HB.out.size) ((HR3_b.out.below HB.out (Nat.le_refl _)).mono HB.out.size) HW1_b.out HW2_b.out HW3_b.out).mono ?_
  rintro e w_6 ⟨y1_v, y2_v, y3_v, xa_v, xn_v, xc_v, ya_v, yn_v, yc_v, za_v, zn_v, zc_v, rfl, hf, ho, hn, hb⟩
  have hB := hb
  replace q_a0 := (hB.cell (show (⟨w.heap.size, 0, none⟩ : Addr).block < _ from World.block_lt_of_cell? _ _ q_a0)).trans q_a0
  replace q_a1 := (hB.cell (show (⟨w.heap.size, 1, none⟩ : Addr).block < _ from World.block_lt_of_cell? _ _ q_a1)).trans q_a1
  replace q_a2 := (hB.cell (show (⟨w.heap.size, 2, none⟩ : Addr).block < _ from World.block_lt_of_cell? _ _ q_a2)).trans q_a2
  replace q_a3 := (hB.cell (show (⟨w.heap.size, 3, none⟩ : Addr).block < _ from World.block_lt_of_cell? _ _ q_a3)).trans q_a3
  replace q_a4 := (hB.cell (show (⟨w.heap.size, 4, none⟩ : Addr).block < _ from World.block_lt_of_cell? _ _ q_a4)).trans q_a4
  replace b_a : w.heap.size < w_6.heap.size := World.block_lt_of_cell? _ _ q_a0
  replace q_b0 := (hB.cell (show (⟨w.heap.size + 1, 0, none⟩ : Addr).block < _ from World.block_lt_of_cell? _ _ q_b0)).trans q_b0
  replace q_b1 := (hB.cell (show (⟨w.heap.size + 1, 1, none⟩ : Addr).block < _ from World.block_lt_of_cell? _ _ q_b1)).trans q_b1
  replace q_b2 := (hB.cell (show (⟨w.heap.size + 1, 2, none⟩ : Addr).block < _ from World.block_lt_of_cell? _ _ q_b2)).trans q_b2
  replace q_b3 := (hB.cell (show (⟨w.heap.size + 1, 3, none⟩ : Addr).block < _ from World.block_lt_of_cell? _ _ q_b3)).trans q_b3
  replace q_b4 := (hB.cell (show (⟨w.heap.size + 1, 4, none⟩ : Addr).block < _ from World.block_lt_of_cell? _ _ q_b4)).trans q_b4
  replace b_b : w.heap.size + 1 < w_6.heap.size := World.block_lt_of_cell? _ _ q_b0
  replace q_u0 := (hB.cell (show (⟨w_4.heap.size, 0, none⟩ : Addr).block < _ from World.block_lt_of_cell? _ _ q_u0)).trans q_u0
  replace q_u1 := (hB.cell (show (⟨w_4.heap.size, 1, none⟩ : Addr).block < _ from World.block_lt_of_cell? _ _ q_u1)).trans q_u1
  replace q_u2 := (hB.cell (show (⟨w_4.heap.size, 2, none⟩ : Addr).block < _ from World.block_lt_of_cell? _ _ q_u2)).trans q_u2
  replace q_u3 := (hB.cell (show (⟨w_4.heap.size, 3, none⟩ : Addr).block < _ from World.block_lt_of_cell? _ _ q_u3)).trans q_u3
  replace q_u4 := (hB.cell (show (⟨w_4.heap.size, 4, none⟩ : Addr).block < _ from World.block_lt_of_cell? _ _ q_u4)).trans q_u4
  replace b_u : w_4.heap.size < w_6.heap.size := World.block_lt_of_cell? _ _ q_u0
  replace Hu := Lib.hid (ownL_later Hu.out hB)
  have Hv := Lib.hid (ho)
  have HS6 := Lib.hid hB.size
  replace HB := Lib.hid (HB.out.trans (hB.mono HB.out.size))
  have HF_v := Lib.hid hf; have HN_v := Lib.hid hn
  clear hB ho hn hb hf
  go_wp2_with fail
  obtain ⟨w_7, hw⟩ : ∃ x, w_6.alloc (.cells #[.bool bo_b, .slice xa_v xn_v xc_v, .slice ya_v yn_v yc_v, .slice za_v zn_v zc_v, .string t_b] 27) = x := ⟨_, rfl⟩
  rw [hw]
  have hB : Below w_6.heap.size w_6 w_7 := by rw [← hw]; exact (Below.refl _ _).alloc (Nat.le_refl _) _
  have q_v0 : w_7.cell? ⟨w_6.heap.size, 0, none⟩ = some (.bool bo_b) := by rw [← hw]; simp
  have q_v1 : w_7.cell? ⟨w_6.heap.size, 1, none⟩ = some (.slice xa_v xn_v xc_v) := by rw [← hw]; simp
  have q_v2 : w_7.cell? ⟨w_6.heap.size, 2, none⟩ = some (.slice ya_v yn_v yc_v) := by rw [← hw]; simp
  have q_v3 : w_7.cell? ⟨w_6.heap.size, 3, none⟩ = some (.slice za_v zn_v zc_v) := by rw [← hw]; simp
  have q_v4 : w_7.cell? ⟨w_6.heap.size, 4, none⟩ = some (.string t_b) := by rw [← hw]; simp
  have b_v : w_6.heap.size < w_7.heap.size := World.block_lt_of_cell? _ _ q_v0
  replace q_a0 := (hB.cell (show (⟨w.heap.size, 0, none⟩ : Addr).block < _ from World.block_lt_of_cell? _ _ q_a0)).trans q_a0
  replace q_a1 := (hB.cell (show (⟨w.heap.size, 1, none⟩ : Addr).block < _ from World.block_lt_of_cell? _ _ q_a1)).trans q_a1
  replace q_a2 := (hB.cell (show (⟨w.heap.size, 2, none⟩ : Addr).block < _ from World.block_lt_of_cell? _ _ q_a2)).trans q_a2
  replace q_a3 := (hB.cell (show (⟨w.heap.size, 3, none⟩ : Addr).block < _ from World.block_lt_of_cell? _ _ q_a3)).trans q_a3
  replace q_a4 := (hB.cell (show (⟨w.heap.size, 4, none⟩ : Addr).block < _ from World.block_lt_of_cell? _ _ q_a4)).trans q_a4
  replace b_a : w.heap.size < w_7.heap.size := World.block_lt_of_cell? _ _ q_a0
  replace q_b0 := (hB.cell (show (⟨w.heap.size + 1, 0, none⟩ : Addr).block < _ from World.block_lt_of_cell? _ _ q_b0)).trans q_b0
  replace q_b1 := (hB.cell (show (⟨w.heap.size + 1, 1, none⟩ : Addr).block < _ from World.block_lt_of_cell? _ _ q_b1)).trans q_b1
  replace q_b2 := (hB.cell (show (⟨w.heap.size + 1, 2, none⟩ : Addr).block < _ from World.block_lt_of_cell? _ _ q_b2)).trans q_b2
  replace q_b3 := (hB.cell (show (⟨w.heap.size + 1, 3, none⟩ : Addr).block < _ from World.block_lt_of_cell? _ _ q_b3)).trans q_b3
  replace q_b4 := (hB.cell (show (⟨w.heap.size + 1, 4, none⟩ : Addr).block < _ from World.block_lt_of_cell? _ _ q_b4)).trans q_b4
  replace b_b : w.heap.size + 1 < w_7.heap.size := World.block_lt_of_cell? _ _ q_b0
  replace q_u0 := (hB.cell (show (⟨w_4.heap.size, 0, none⟩ : Addr).block < _ from World.block_lt_of_cell? _ _ q_u0)).trans q_u0
  replace q_u1 := (hB.cell (show (⟨w_4.heap.size, 1, none⟩ : Addr).block < _ from World.block_lt_of_cell? _ _ q_u1)).trans q_u1
  replace q_u2 := (hB.cell (show (⟨w_4.heap.size, 2, none⟩ : Addr).block < _ from World.block_lt_of_cell? _ _ q_u2)).trans q_u2
  replace q_u3 := (hB.cell (show (⟨w_4.heap.size, 3, none⟩ : Addr).block < _ from World.block_lt_of_cell? _ _ q_u3)).trans q_u3
  replace q_u4 := (hB.cell (show (⟨w_4.heap.size, 4, none⟩ : Addr).block < _ from World.block_lt_of_cell? _ _ q_u4)).trans q_u4
  replace b_u : w_4.heap.size < w_7.heap.size := World.block_lt_of_cell? _ _ q_u0
  replace Hu := Lib.hid (ownL_later Hu.out hB)
  replace Hv := Lib.hid (ownL_later Hv.out hB)
  have HS7 := Lib.hid hB.size
  replace HB := Lib.hid (HB.out.trans (hB.mono HB.out.size))
  clear hB hw
  have HSb_v := Lib.hid b_v
  go_wp2_with fail
  refine ((HD.out ▸ eqPol_impl bo_a xs_a ys_a zs_a t_a _ _ _ _ _ _ _ _ _ bo_b xs_b ys_b zs_b t_b _ _ _ _ _ _ _ _ _ _ (HF_u.out.reads Hu.out bo_a t_a) (HF_v.out.reads Hv.out bo_b t_b))).mono ?_
  rintro e w_8 ⟨rfl, hg⟩
  have hB := hg.below
  replace q_a0 := (hB.cell (show (⟨w.heap.size, 0, none⟩ : Addr).block < _ from World.block_lt_of_cell? _ _ q_a0)).trans q_a0
  replace q_a1 := (hB.cell (show (⟨w.heap.size, 1, none⟩ : Addr).block < _ from World.block_lt_of_cell? _ _ q_a1)).trans q_a1
  replace q_a2 := (hB.cell (show (⟨w.heap.size, 2, none⟩ : Addr).block < _ from World.block_lt_of_cell? _ _ q_a2)).trans q_a2
  replace q_a3 := (hB.cell (show (⟨w.heap.size, 3, none⟩ : Addr).block < _ from World.block_lt_of_cell? _ _ q_a3)).trans q_a3
  replace q_a4 := (hB.cell (show (⟨w.heap.size, 4, none⟩ : Addr).block < _ from World.block_lt_of_cell? _ _ q_a4)).trans q_a4
  replace b_a : w.heap.size < w_8.heap.size := World.block_lt_of_cell? _ _ q_a0
  replace q_b0 := (hB.cell (show (⟨w.heap.size + 1, 0, none⟩ : Addr).block < _ from World.block_lt_of_cell? _ _ q_b0)).trans q_b0
  replace q_b1 := (hB.cell (show (⟨w.heap.size + 1, 1, none⟩ : Addr).block < _ from World.block_lt_of_cell? _ _ q_b1)).trans q_b1
  replace q_b2 := (hB.cell (show (⟨w.heap.size + 1, 2, none⟩ : Addr).block < _ from World.block_lt_of_cell? _ _ q_b2)).trans q_b2
  replace q_b3 := (hB.cell (show (⟨w.heap.size + 1, 3, none⟩ : Addr).block < _ from World.block_lt_of_cell? _ _ q_b3)).trans q_b3
  replace q_b4 := (hB.cell (show (⟨w.heap.size + 1, 4, none⟩ : Addr).block < _ from World.block_lt_of_cell? _ _ q_b4)).trans q_b4
  replace b_b : w.heap.size + 1 < w_8.heap.size := World.block_lt_of_cell? _ _ q_b0
  replace q_u0 := (hB.cell (show (⟨w_4.heap.size, 0, none⟩ : Addr).block < _ from World.block_lt_of_cell? _ _ q_u0)).trans q_u0
  replace q_u1 := (hB.cell (show (⟨w_4.heap.size, 1, none⟩ : Addr).block < _ from World.block_lt_of_cell? _ _ q_u1)).trans q_u1
  replace q_u2 := (hB.cell (show (⟨w_4.heap.size, 2, none⟩ : Addr).block < _ from World.block_lt_of_cell? _ _ q_u2)).trans q_u2
  replace q_u3 := (hB.cell (show (⟨w_4.heap.size, 3, none⟩ : Addr).block < _ from World.block_lt_of_cell? _ _ q_u3)).trans q_u3
  replace q_u4 := (hB.cell (show (⟨w_4.heap.size, 4, none⟩ : Addr).block < _ from World.block_lt_of_cell? _ _ q_u4)).trans q_u4
  replace b_u : w_4.heap.size < w_8.heap.size := World.block_lt_of_cell? _ _ q_u0
  replace q_v0 := (hB.cell (show (⟨w_6.heap.size, 0, none⟩ : Addr).block < _ from World.block_lt_of_cell? _ _ q_v0)).trans q_v0
  replace q_v1 := (hB.cell (show (⟨w_6.heap.size, 1, none⟩ : Addr).block < _ from World.block_lt_of_cell? _ _ q_v1)).trans q_v1
  replace q_v2 := (hB.cell (show (⟨w_6.heap.size, 2, none⟩ : Addr).block < _ from World.block_lt_of_cell? _ _ q_v2)).trans q_v2
  replace q_v3 := (hB.cell (show (⟨w_6.heap.size, 3, none⟩ : Addr).block < _ from World.block_lt_of_cell? _ _ q_v3)).trans q_v3
  replace q_v4 := (hB.cell (show (⟨w_6.heap.size, 4, none⟩ : Addr).block < _ from World.block_lt_of_cell? _ _ q_v4)).trans q_v4
  replace b_v : w_6.heap.size < w_8.heap.size := World.block_lt_of_cell? _ _ q_v0
  replace Hu := Lib.hid (ownL_later Hu.out hB)
  replace Hv := Lib.hid (ownL_later Hv.out hB)
  have HS8 := Lib.hid hB.size
  replace HB := Lib.hid (HB.out.trans (hB.mono HB.out.size))
  clear hB hg
  go_upto_region 14 with (fail)
  go_cut [39] from 35 to 39 (fun c wx => c = .bool false ∧ Below w_8.heap.size w_8 wx)
  case first =>
    have hread1 := (((HR1_a.out.below HB.out (Nat.le_refl _)).mono HB.out.size)).grw (Nat.le_refl _) (Grw.refl _).drew
    have hread2 := (((HR2_a.out.below HB.out (Nat.le_refl _)).mono HB.out.size)).grw (Nat.le_refl _) (Grw.refl _).drew
    have hread3 := (((HR3_a.out.below HB.out (Nat.le_refl _)).mono HB.out.size)).grw (Nat.le_refl _) (Grw.refl _).drew
    go_region_with (first | (go_at_call 6; refine (toP_any bo_a t_a ?_ ?_ ?_ HW1_a.out HW2_a.out HW3_a.out).mono ?_; (exact hread1); (exact hread2); (exact hread3); rintro e w_A ⟨y1_w, y2_w, y3_w, xa_w, xn_w, xc_w, ya_w, yn_w, yc_w, za_w, zn_w, zc_w, rfl, hf_w, ho_w, hn_w, hb_w⟩; have hO := ownL_later Hu.out (below_undrew hb_w); have hsA := (below_undrew hb_w).size; (first | have qA_a0 := (hb_w.cell (p := ⟨w.heap.size, 0, none⟩) b_a).trans q_a0 | skip); (first | have qA_a1 := (hb_w.cell (p := ⟨w.heap.size, 1, none⟩) b_a).trans q_a1 | skip); (first | have qA_a2 := (hb_w.cell (p := ⟨w.heap.size, 2, none⟩) b_a).trans q_a2 | skip); (first | have qA_a3 := (hb_w.cell (p := ⟨w.heap.size, 3, none⟩) b_a).trans q_a3 | skip); (first | have qA_a4 := (hb_w.cell (p := ⟨w.heap.size, 4, none⟩) b_a).trans q_a4 | skip); (first | have qA_b0 := (hb_w.cell (p := ⟨w.heap.size + 1, 0, none⟩) b_b).trans q_b0 | skip); (first | have qA_b1 := (hb_w.cell (p := ⟨w.heap.size + 1, 1, none⟩) b_b).trans q_b1 | skip); (first | have qA_b2 := (hb_w.cell (p := ⟨w.heap.size + 1, 2, none⟩) b_b).trans q_b2 | skip); (first | have qA_b3 := (hb_w.cell (p := ⟨w.heap.size + 1, 3, none⟩) b_b).trans q_b3 | skip); (first | have qA_b4 := (hb_w.cell (p := ⟨w.heap.size + 1, 4, none⟩) b_b).trans q_b4 | skip); (first | have qA_u0 := (hb_w.cell (p := ⟨w_4.heap.size, 0, none⟩) b_u).trans q_u0 | skip); (first | have qA_u1 := (hb_w.cell (p := ⟨w_4.heap.size, 1, none⟩) b_u).trans q_u1 | skip); (first | have qA_u2 := (hb_w.cell (p := ⟨w_4.heap.size, 2, none⟩) b_u).trans q_u2 | skip); (first | have qA_u3 := (hb_w.cell (p := ⟨w_4.heap.size, 3, none⟩) b_u).trans q_u3 | skip); (first | have qA_u4 := (hb_w.cell (p := ⟨w_4.heap.size, 4, none⟩) b_u).trans q_u4 | skip); (first | have qA_v0 := (hb_w.cell (p := ⟨w_6.heap.size, 0, none⟩) b_v).trans q_v0 | skip); (first | have qA_v1 := (hb_w.cell (p := ⟨w_6.heap.size, 1, none⟩) b_v).trans q_v1 | skip); (first | have qA_v2 := (hb_w.cell (p := ⟨w_6.heap.size, 2, none⟩) b_v).trans q_v2 | skip); (first | have qA_v3 := (hb_w.cell (p := ⟨w_6.heap.size, 3, none⟩) b_v).trans q_v3 | skip); (first | have qA_v4 := (hb_w.cell (p := ⟨w_6.heap.size, 4, none⟩) b_v).trans q_v4 | skip)) | (go_at_call 8; refine (eqPo bo_a t_a HF_u.out hf_w hO ho_w).mono ?_; rintro e w_C ⟨rfl, hgC⟩))
    all_goals
      have hB := (below_undrew hb_w).trans (hgC.below.mono hsA)
      go_wp2_with fail
      go_meet
      exact ⟨rfl, hB⟩
  obtain ⟨rfl, hB⟩ := hcut
  rename World => w_9
  replace q_a0 := (hB.cell (show (⟨w.heap.size, 0, none⟩ : Addr).block < _ from World.block_lt_of_cell? _ _ q_a0)).trans q_a0
  replace q_a1 := (hB.cell (show (⟨w.heap.size, 1, none⟩ : Addr).block < _ from World.block_lt_of_cell? _ _ q_a1)).trans q_a1
  replace q_a2 := (hB.cell (show (⟨w.heap.size, 2, none⟩ : Addr).block < _ from World.block_lt_of_cell? _ _ q_a2)).trans q_a2
  replace q_a3 := (hB.cell (show (⟨w.heap.size, 3, none⟩ : Addr).block < _ from World.block_lt_of_cell? _ _ q_a3)).trans q_a3
  replace q_a4 := (hB.cell (show (⟨w.heap.size, 4, none⟩ : Addr).block < _ from World.block_lt_of_cell? _ _ q_a4)).trans q_a4
  replace b_a : w.heap.size < w_9.heap.size := World.block_lt_of_cell? _ _ q_a0
  replace q_b0 := (hB.cell (show (⟨w.heap.size + 1, 0, none⟩ : Addr).block < _ from World.block_lt_of_cell? _ _ q_b0)).trans q_b0
  replace q_b1 := (hB.cell (show (⟨w.heap.size + 1, 1, none⟩ : Addr).block < _ from World.block_lt_of_cell? _ _ q_b1)).trans q_b1
  replace q_b2 := (hB.cell (show (⟨w.heap.size + 1, 2, none⟩ : Addr).block < _ from World.block_lt_of_cell? _ _ q_b2)).trans q_b2
  replace q_b3 := (hB.cell (show (⟨w.heap.size + 1, 3, none⟩ : Addr).block < _ from World.block_lt_of_cell? _ _ q_b3)).trans q_b3
  replace q_b4 := (hB.cell (show (⟨w.heap.size + 1, 4, none⟩ : Addr).block < _ from World.block_lt_of_cell? _ _ q_b4)).trans q_b4
  replace b_b : w.heap.size + 1 < w_9.heap.size := World.block_lt_of_cell? _ _ q_b0
  replace q_u0 := (hB.cell (show (⟨w_4.heap.size, 0, none⟩ : Addr).block < _ from World.block_lt_of_cell? _ _ q_u0)).trans q_u0
  replace q_u1 := (hB.cell (show (⟨w_4.heap.size, 1, none⟩ : Addr).block < _ from World.block_lt_of_cell? _ _ q_u1)).trans q_u1
  replace q_u2 := (hB.cell (show (⟨w_4.heap.size, 2, none⟩ : Addr).block < _ from World.block_lt_of_cell? _ _ q_u2)).trans q_u2
  replace q_u3 := (hB.cell (show (⟨w_4.heap.size, 3, none⟩ : Addr).block < _ from World.block_lt_of_cell? _ _ q_u3)).trans q_u3
  replace q_u4 := (hB.cell (show (⟨w_4.heap.size, 4, none⟩ : Addr).block < _ from World.block_lt_of_cell? _ _ q_u4)).trans q_u4
  replace b_u : w_4.heap.size < w_9.heap.size := World.block_lt_of_cell? _ _ q_u0
  replace q_v0 := (hB.cell (show (⟨w_6.heap.size, 0, none⟩ : Addr).block < _ from World.block_lt_of_cell? _ _ q_v0)).trans q_v0
  replace q_v1 := (hB.cell (show (⟨w_6.heap.size, 1, none⟩ : Addr).block < _ from World.block_lt_of_cell? _ _ q_v1)).trans q_v1
  replace q_v2 := (hB.cell (show (⟨w_6.heap.size, 2, none⟩ : Addr).block < _ from World.block_lt_of_cell? _ _ q_v2)).trans q_v2
  replace q_v3 := (hB.cell (show (⟨w_6.heap.size, 3, none⟩ : Addr).block < _ from World.block_lt_of_cell? _ _ q_v3)).trans q_v3
  replace q_v4 := (hB.cell (show (⟨w_6.heap.size, 4, none⟩ : Addr).block < _ from World.block_lt_of_cell? _ _ q_v4)).trans q_v4
  replace b_v : w_6.heap.size < w_9.heap.size := World.block_lt_of_cell? _ _ q_v0
  replace Hu := Lib.hid (ownL_later Hu.out hB)
  replace Hv := Lib.hid (ownL_later Hv.out hB)
  have HS9 := Lib.hid hB.size
  replace HB := Lib.hid (HB.out.trans (hB.mono HB.out.size))
  clear hB
  go_upto_region 16 with (fail)
  go_cut [44] from 40 to 44 (fun c wx => c = .bool false ∧ Below w_9.heap.size w_9 wx)
  case first =>
    have hread1 := (((HR1_b.out.below HB.out (Nat.le_refl _)).mono HB.out.size)).grw (Nat.le_refl _) (Grw.refl _).drew
    have hread2 := (((HR2_b.out.below HB.out (Nat.le_refl _)).mono HB.out.size)).grw (Nat.le_refl _) (Grw.refl _).drew
    have hread3 := (((HR3_b.out.below HB.out (Nat.le_refl _)).mono HB.out.size)).grw (Nat.le_refl _) (Grw.refl _).drew
    go_region_with (first | (go_at_call 6; refine (toP_any bo_b t_b ?_ ?_ ?_ HW1_b.out HW2_b.out HW3_b.out).mono ?_; (exact hread1); (exact hread2); (exact hread3); rintro e w_A ⟨y1_w, y2_w, y3_w, xa_w, xn_w, xc_w, ya_w, yn_w, yc_w, za_w, zn_w, zc_w, rfl, hf_w, ho_w, hn_w, hb_w⟩; have hO := ownL_later Hv.out (below_undrew hb_w); have hsA := (below_undrew hb_w).size; (first | have qA_a0 := (hb_w.cell (p := ⟨w.heap.size, 0, none⟩) b_a).trans q_a0 | skip); (first | have qA_a1 := (hb_w.cell (p := ⟨w.heap.size, 1, none⟩) b_a).trans q_a1 | skip); (first | have qA_a2 := (hb_w.cell (p := ⟨w.heap.size, 2, none⟩) b_a).trans q_a2 | skip); (first | have qA_a3 := (hb_w.cell (p := ⟨w.heap.size, 3, none⟩) b_a).trans q_a3 | skip); (first | have qA_a4 := (hb_w.cell (p := ⟨w.heap.size, 4, none⟩) b_a).trans q_a4 | skip); (first | have qA_b0 := (hb_w.cell (p := ⟨w.heap.size + 1, 0, none⟩) b_b).trans q_b0 | skip); (first | have qA_b1 := (hb_w.cell (p := ⟨w.heap.size + 1, 1, none⟩) b_b).trans q_b1 | skip); (first | have qA_b2 := (hb_w.cell (p := ⟨w.heap.size + 1, 2, none⟩) b_b).trans q_b2 | skip); (first | have qA_b3 := (hb_w.cell (p := ⟨w.heap.size + 1, 3, none⟩) b_b).trans q_b3 | skip); (first | have qA_b4 := (hb_w.cell (p := ⟨w.heap.size + 1, 4, none⟩) b_b).trans q_b4 | skip); (first | have qA_u0 := (hb_w.cell (p := ⟨w_4.heap.size, 0, none⟩) b_u).trans q_u0 | skip); (first | have qA_u1 := (hb_w.cell (p := ⟨w_4.heap.size, 1, none⟩) b_u).trans q_u1 | skip); (first | have qA_u2 := (hb_w.cell (p := ⟨w_4.heap.size, 2, none⟩) b_u).trans q_u2 | skip); (first | have qA_u3 := (hb_w.cell (p := ⟨w_4.heap.size, 3, none⟩) b_u).trans q_u3 | skip); (first | have qA_u4 := (hb_w.cell (p := ⟨w_4.heap.size, 4, none⟩) b_u).trans q_u4 | skip); (first | have qA_v0 := (hb_w.cell (p := ⟨w_6.heap.size, 0, none⟩) b_v).trans q_v0 | skip); (first | have qA_v1 := (hb_w.cell (p := ⟨w_6.heap.size, 1, none⟩) b_v).trans q_v1 | skip); (first | have qA_v2 := (hb_w.cell (p := ⟨w_6.heap.size, 2, none⟩) b_v).trans q_v2 | skip); (first | have qA_v3 := (hb_w.cell (p := ⟨w_6.heap.size, 3, none⟩) b_v).trans q_v3 | skip); (first | have qA_v4 := (hb_w.cell (p := ⟨w_6.heap.size, 4, none⟩) b_v).trans q_v4 | skip)) | (go_at_call 8; refine (eqPo bo_b t_b HF_v.out hf_w hO ho_w).mono ?_; rintro e w_C ⟨rfl, hgC⟩))
    all_goals
      have hB := (below_undrew hb_w).trans (hgC.below.mono hsA)
      go_wp2_with fail
      go_meet
      exact ⟨rfl, hB⟩
  obtain ⟨rfl, hB⟩ := hcut
  rename World => w_10
  replace q_a0 := (hB.cell (show (⟨w.heap.size, 0, none⟩ : Addr).block < _ from World.block_lt_of_cell? _ _ q_a0)).trans q_a0
  replace q_a1 := (hB.cell (show (⟨w.heap.size, 1, none⟩ : Addr).block < _ from World.block_lt_of_cell? _ _ q_a1)).trans q_a1
  replace q_a2 := (hB.cell (show (⟨w.heap.size, 2, none⟩ : Addr).block < _ from World.block_lt_of_cell? _ _ q_a2)).trans q_a2
  replace q_a3 := (hB.cell (show (⟨w.heap.size, 3, none⟩ : Addr).block < _ from World.block_lt_of_cell? _ _ q_a3)).trans q_a3
  replace q_a4 := (hB.cell (show (⟨w.heap.size, 4, none⟩ : Addr).block < _ from World.block_lt_of_cell? _ _ q_a4)).trans q_a4
  replace b_a : w.heap.size < w_10.heap.size := World.block_lt_of_cell? _ _ q_a0
  replace q_b0 := (hB.cell (show (⟨w.heap.size + 1, 0, none⟩ : Addr).block < _ from World.block_lt_of_cell? _ _ q_b0)).trans q_b0
  replace q_b1 := (hB.cell (show (⟨w.heap.size + 1, 1, none⟩ : Addr).block < _ from World.block_lt_of_cell? _ _ q_b1)).trans q_b1
  replace q_b2 := (hB.cell (show (⟨w.heap.size + 1, 2, none⟩ : Addr).block < _ from World.block_lt_of_cell? _ _ q_b2)).trans q_b2
  replace q_b3 := (hB.cell (show (⟨w.heap.size + 1, 3, none⟩ : Addr).block < _ from World.block_lt_of_cell? _ _ q_b3)).trans q_b3
  replace q_b4 := (hB.cell (show (⟨w.heap.size + 1, 4, none⟩ : Addr).block < _ from World.block_lt_of_cell? _ _ q_b4)).trans q_b4
  replace b_b : w.heap.size + 1 < w_10.heap.size := World.block_lt_of_cell? _ _ q_b0
  replace q_u0 := (hB.cell (show (⟨w_4.heap.size, 0, none⟩ : Addr).block < _ from World.block_lt_of_cell? _ _ q_u0)).trans q_u0
  replace q_u1 := (hB.cell (show (⟨w_4.heap.size, 1, none⟩ : Addr).block < _ from World.block_lt_of_cell? _ _ q_u1)).trans q_u1
  replace q_u2 := (hB.cell (show (⟨w_4.heap.size, 2, none⟩ : Addr).block < _ from World.block_lt_of_cell? _ _ q_u2)).trans q_u2
  replace q_u3 := (hB.cell (show (⟨w_4.heap.size, 3, none⟩ : Addr).block < _ from World.block_lt_of_cell? _ _ q_u3)).trans q_u3
  replace q_u4 := (hB.cell (show (⟨w_4.heap.size, 4, none⟩ : Addr).block < _ from World.block_lt_of_cell? _ _ q_u4)).trans q_u4
  replace b_u : w_4.heap.size < w_10.heap.size := World.block_lt_of_cell? _ _ q_u0
  replace q_v0 := (hB.cell (show (⟨w_6.heap.size, 0, none⟩ : Addr).block < _ from World.block_lt_of_cell? _ _ q_v0)).trans q_v0
  replace q_v1 := (hB.cell (show (⟨w_6.heap.size, 1, none⟩ : Addr).block < _ from World.block_lt_of_cell? _ _ q_v1)).trans q_v1
  replace q_v2 := (hB.cell (show (⟨w_6.heap.size, 2, none⟩ : Addr).block < _ from World.block_lt_of_cell? _ _ q_v2)).trans q_v2
  replace q_v3 := (hB.cell (show (⟨w_6.heap.size, 3, none⟩ : Addr).block < _ from World.block_lt_of_cell? _ _ q_v3)).trans q_v3
  replace q_v4 := (hB.cell (show (⟨w_6.heap.size, 4, none⟩ : Addr).block < _ from World.block_lt_of_cell? _ _ q_v4)).trans q_v4
  replace b_v : w_6.heap.size < w_10.heap.size := World.block_lt_of_cell? _ _ q_v0
  replace Hu := Lib.hid (ownL_later Hu.out hB)
  replace Hv := Lib.hid (ownL_later Hv.out hB)
  have HS10 := Lib.hid hB.size
  replace HB := Lib.hid (HB.out.trans (hB.mono HB.out.size))
  clear hB
  go_wp2_with fail
  go_ret
  exact ⟨rfl, HB.out⟩
end Go.Proofs.Ytddfkcghhnkkmab
