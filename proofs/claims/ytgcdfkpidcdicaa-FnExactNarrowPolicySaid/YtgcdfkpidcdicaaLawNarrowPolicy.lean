/- The walk of the law FnExactNarrowPolicy: it returns true, and writes nothing that was there. -/
import Derived.Test.YtgcdfkpidcdicaaLawNr
import Derived.Test.YtgcdfkpidcdicaaBl
import Derived.Deep.RegionHeld3
import Derived.Deep.RegionWith
import Derived.Deep.CutRange
namespace Go.Proofs.Ytgcdfkpidcdicaa
open Go.ChangeShapes Go.WideShapes Go.ChangeAt Go.RowKit

set_option maxRecDepth 100000 in
set_option maxHeartbeats 4000000 in
theorem walkNarrowPolicy (bo_a : Bool) (xa_a : Option Addr) (xn_a xc_a : Nat) (ya_a : Option Addr) (yn_a yc_a : Nat) (za_a : Option Addr) (zn_a zc_a : Nat) (xs_a ys_a zs_a : List ByteArray) (t_a : ByteArray) (bo_b : Bool) (xa_b : Option Addr) (xn_b xc_b : Nat) (ya_b : Option Addr) (yn_b yc_b : Nat) (za_b : Option Addr) (zn_b zc_b : Nat) (xs_b ys_b zs_b : List ByteArray) (t_b : ByteArray) (w : World) (r_a : IsPo w (.slice xa_a xn_a xc_a) (.slice ya_a yn_a yc_a) (.slice za_a zn_a zc_a) ⟨bo_a, xs_a, ys_a, zs_a, t_a⟩) (r_b : IsPo w (.slice xa_b xn_b xc_b) (.slice ya_b yn_b yc_b) (.slice za_b zn_b zc_b) ⟨bo_b, xs_b, ys_b, zs_b, t_b⟩) :
    Calls Try.prog 3 #[.agg #[.bool bo_a, .slice xa_a xn_a xc_a, .slice ya_a yn_a yc_a, .slice za_a zn_a zc_a, .string t_a], .agg #[.bool bo_b, .slice xa_b xn_b xc_b, .slice ya_b yn_b yc_b, .slice za_b zn_b zc_b, .string t_b]] w fun e w' => e = .returned (.bool true) ∧ Below w.heap.size w w' := by
  obtain ⟨⟨h1_a, o1_a⟩, ⟨h2_a, o2_a⟩, ⟨h3_a, o3_a⟩, ht_a⟩ := r_a
  have HR1_a := Lib.hid h1_a; have HS1_a := Lib.hid (rwSs_small (v := .slice xa_a xn_a xc_a) o1_a); clear h1_a o1_a
  have HR2_a := Lib.hid h2_a; have HS2_a := Lib.hid (rwSs_small (v := .slice ya_a yn_a yc_a) o2_a); clear h2_a o2_a
  have HR3_a := Lib.hid h3_a; have HS3_a := Lib.hid (rwSs_small (v := .slice za_a zn_a zc_a) o3_a); clear h3_a o3_a
  obtain ⟨⟨h1_b, o1_b⟩, ⟨h2_b, o2_b⟩, ⟨h3_b, o3_b⟩, ht_b⟩ := r_b
  have HR1_b := Lib.hid h1_b; have HS1_b := Lib.hid (rwSs_small (v := .slice xa_b xn_b xc_b) o1_b); clear h1_b o1_b
  have HR2_b := Lib.hid h2_b; have HS2_b := Lib.hid (rwSs_small (v := .slice ya_b yn_b yc_b) o2_b); clear h2_b o2_b
  have HR3_b := Lib.hid h3_b; have HS3_b := Lib.hid (rwSs_small (v := .slice za_b zn_b zc_b) o3_b); clear h3_b o3_b
  go_enter Try.func3, Try.ntmps3
  go_wp2_with fail
  obtain ⟨w_0, hw_0⟩ : ∃ x, ((w.alloc (.cells #[.bool bo_a, .slice xa_a xn_a xc_a, .slice ya_a yn_a yc_a, .slice za_a zn_a zc_a, .string t_a] 24)).alloc (.cells #[.bool bo_b, .slice xa_b xn_b xc_b, .slice ya_b yn_b yc_b, .slice za_b zn_b zc_b, .string t_b] 24)) = x := ⟨_, rfl⟩
  rw [hw_0]
  have HB := Lib.hid (show Below w.heap.size w w_0 by rw [← hw_0]; exact (((Below.refl w.heap.size w).alloc (by first | (simp; done) | (simp; omega)) _).alloc (by first | (simp; done) | (simp; omega)) _))
  have q_a0 : w_0.cell? ⟨w.heap.size, 0, none⟩ = some (.bool bo_a) := by rw [← hw_0]; simp
  have q_a1 : w_0.cell? ⟨w.heap.size, 1, none⟩ = some (.slice xa_a xn_a xc_a) := by rw [← hw_0]; simp
  have q_a2 : w_0.cell? ⟨w.heap.size, 2, none⟩ = some (.slice ya_a yn_a yc_a) := by rw [← hw_0]; simp
  have q_a3 : w_0.cell? ⟨w.heap.size, 3, none⟩ = some (.slice za_a zn_a zc_a) := by rw [← hw_0]; simp
  have q_a4 : w_0.cell? ⟨w.heap.size, 4, none⟩ = some (.string t_a) := by rw [← hw_0]; simp
  have b_a : w.heap.size < w_0.heap.size := World.block_lt_of_cell? _ _ q_a0
  have q_b0 : w_0.cell? ⟨w.heap.size + 1, 0, none⟩ = some (.bool bo_b) := by rw [← hw_0]; simp
  have q_b1 : w_0.cell? ⟨w.heap.size + 1, 1, none⟩ = some (.slice xa_b xn_b xc_b) := by rw [← hw_0]; simp
  have q_b2 : w_0.cell? ⟨w.heap.size + 1, 2, none⟩ = some (.slice ya_b yn_b yc_b) := by rw [← hw_0]; simp
  have q_b3 : w_0.cell? ⟨w.heap.size + 1, 3, none⟩ = some (.slice za_b zn_b zc_b) := by rw [← hw_0]; simp
  have q_b4 : w_0.cell? ⟨w.heap.size + 1, 4, none⟩ = some (.string t_b) := by rw [← hw_0]; simp
  have b_b : w.heap.size + 1 < w_0.heap.size := World.block_lt_of_cell? _ _ q_b0
  have HS0 := Lib.hid (show w.heap.size + 2 ≤ w_0.heap.size by rw [← hw_0]; simp)
  clear hw_0
  go_wp2_with fail
  refine (sz_Policy bo_a (rwSs (.slice xa_a xn_a xc_a) xs_a) (rwSs (.slice ya_a yn_a yc_a) ys_a) (rwSs (.slice za_a zn_a zc_a) zs_a) t_a 1048576 (by omega) (by omega) _ (rwSs_is _ _) (rwSs_reads ((HR1_a.out.below HB.out (Nat.le_refl _)).mono HB.out.size)) HS1_a.out (rwSs_is _ _) (rwSs_reads ((HR2_a.out.below HB.out (Nat.le_refl _)).mono HB.out.size)) HS2_a.out (rwSs_is _ _) (rwSs_reads ((HR3_a.out.below HB.out (Nat.le_refl _)).mono HB.out.size)) HS3_a.out ht_a).mono ?_
  rintro e w_1 ⟨r, rfl, lo_r, hi_r, hg⟩
  have hB := hg.below
  replace q_a0 := (hB.cell (show (⟨w.heap.size, 0, none⟩ : Addr).block < _ from World.block_lt_of_cell? _ _ q_a0)).trans q_a0
  replace q_a1 := (hB.cell (show (⟨w.heap.size, 1, none⟩ : Addr).block < _ from World.block_lt_of_cell? _ _ q_a1)).trans q_a1
  replace q_a2 := (hB.cell (show (⟨w.heap.size, 2, none⟩ : Addr).block < _ from World.block_lt_of_cell? _ _ q_a2)).trans q_a2
  replace q_a3 := (hB.cell (show (⟨w.heap.size, 3, none⟩ : Addr).block < _ from World.block_lt_of_cell? _ _ q_a3)).trans q_a3
  replace q_a4 := (hB.cell (show (⟨w.heap.size, 4, none⟩ : Addr).block < _ from World.block_lt_of_cell? _ _ q_a4)).trans q_a4
  replace b_a : w.heap.size < w_1.heap.size := World.block_lt_of_cell? _ _ q_a0
  replace q_b0 := (hB.cell (show (⟨w.heap.size + 1, 0, none⟩ : Addr).block < _ from World.block_lt_of_cell? _ _ q_b0)).trans q_b0
  replace q_b1 := (hB.cell (show (⟨w.heap.size + 1, 1, none⟩ : Addr).block < _ from World.block_lt_of_cell? _ _ q_b1)).trans q_b1
  replace q_b2 := (hB.cell (show (⟨w.heap.size + 1, 2, none⟩ : Addr).block < _ from World.block_lt_of_cell? _ _ q_b2)).trans q_b2
  replace q_b3 := (hB.cell (show (⟨w.heap.size + 1, 3, none⟩ : Addr).block < _ from World.block_lt_of_cell? _ _ q_b3)).trans q_b3
  replace q_b4 := (hB.cell (show (⟨w.heap.size + 1, 4, none⟩ : Addr).block < _ from World.block_lt_of_cell? _ _ q_b4)).trans q_b4
  replace b_b : w.heap.size + 1 < w_1.heap.size := World.block_lt_of_cell? _ _ q_b0
  have HS1 := Lib.hid hB.size
  replace HB := Lib.hid (HB.out.trans (hB.mono HB.out.size))
  clear hB hg
  by_cases neg_r : r < 0
  · go_wp2_with fail
    go_ret
    exact ⟨rfl, HB.out⟩
  replace hi_r := hi_r (by omega)
  have hu_r : r ≤ 1048576 := by omega
  have HW1_a := Lib.hid (show (rwSs (.slice xa_a xn_a xc_a) xs_a).weight ≤ 1048576 by omega)
  have HW2_a := Lib.hid (show (rwSs (.slice ya_a yn_a yc_a) ys_a).weight ≤ 1048576 by omega)
  have HW3_a := Lib.hid (show (rwSs (.slice za_a zn_a zc_a) zs_a).weight ≤ 1048576 by omega)
  have HTS_a := Lib.hid (show t_a.size ≤ 1048576 by omega)
  clear hi_r
  go_wp2_with fail
  refine (sz_Policy bo_b (rwSs (.slice xa_b xn_b xc_b) xs_b) (rwSs (.slice ya_b yn_b yc_b) ys_b) (rwSs (.slice za_b zn_b zc_b) zs_b) t_b r (by omega) (by omega) _ (rwSs_is _ _) (rwSs_reads ((HR1_b.out.below HB.out (Nat.le_refl _)).mono HB.out.size)) HS1_b.out (rwSs_is _ _) (rwSs_reads ((HR2_b.out.below HB.out (Nat.le_refl _)).mono HB.out.size)) HS2_b.out (rwSs_is _ _) (rwSs_reads ((HR3_b.out.below HB.out (Nat.le_refl _)).mono HB.out.size)) HS3_b.out ht_b).mono ?_
  rintro e w_2 ⟨r2, rfl, lo_r2, hi_r2, hg⟩
  have hB := hg.below
  replace q_a0 := (hB.cell (show (⟨w.heap.size, 0, none⟩ : Addr).block < _ from World.block_lt_of_cell? _ _ q_a0)).trans q_a0
  replace q_a1 := (hB.cell (show (⟨w.heap.size, 1, none⟩ : Addr).block < _ from World.block_lt_of_cell? _ _ q_a1)).trans q_a1
  replace q_a2 := (hB.cell (show (⟨w.heap.size, 2, none⟩ : Addr).block < _ from World.block_lt_of_cell? _ _ q_a2)).trans q_a2
  replace q_a3 := (hB.cell (show (⟨w.heap.size, 3, none⟩ : Addr).block < _ from World.block_lt_of_cell? _ _ q_a3)).trans q_a3
  replace q_a4 := (hB.cell (show (⟨w.heap.size, 4, none⟩ : Addr).block < _ from World.block_lt_of_cell? _ _ q_a4)).trans q_a4
  replace b_a : w.heap.size < w_2.heap.size := World.block_lt_of_cell? _ _ q_a0
  replace q_b0 := (hB.cell (show (⟨w.heap.size + 1, 0, none⟩ : Addr).block < _ from World.block_lt_of_cell? _ _ q_b0)).trans q_b0
  replace q_b1 := (hB.cell (show (⟨w.heap.size + 1, 1, none⟩ : Addr).block < _ from World.block_lt_of_cell? _ _ q_b1)).trans q_b1
  replace q_b2 := (hB.cell (show (⟨w.heap.size + 1, 2, none⟩ : Addr).block < _ from World.block_lt_of_cell? _ _ q_b2)).trans q_b2
  replace q_b3 := (hB.cell (show (⟨w.heap.size + 1, 3, none⟩ : Addr).block < _ from World.block_lt_of_cell? _ _ q_b3)).trans q_b3
  replace q_b4 := (hB.cell (show (⟨w.heap.size + 1, 4, none⟩ : Addr).block < _ from World.block_lt_of_cell? _ _ q_b4)).trans q_b4
  replace b_b : w.heap.size + 1 < w_2.heap.size := World.block_lt_of_cell? _ _ q_b0
  have HS2 := Lib.hid hB.size
  replace HB := Lib.hid (HB.out.trans (hB.mono HB.out.size))
  clear hB hg
  by_cases neg_r2 : r2 < 0
  · go_wp2_with fail
    go_ret
    exact ⟨rfl, HB.out⟩
  replace hi_r2 := hi_r2 (by omega)
  have hu_r2 : r2 ≤ 1048576 := by omega
  have HW1_b := Lib.hid (show (rwSs (.slice xa_b xn_b xc_b) xs_b).weight ≤ 1048576 by omega)
  have HW2_b := Lib.hid (show (rwSs (.slice ya_b yn_b yc_b) ys_b).weight ≤ 1048576 by omega)
  have HW3_b := Lib.hid (show (rwSs (.slice za_b zn_b zc_b) zs_b).weight ≤ 1048576 by omega)
  have HTS_b := Lib.hid (show t_b.size ≤ 1048576 by omega)
  clear hi_r2
  have HPS_a := Lib.hid (show PolSm (⟨bo_a, xs_a, ys_a, zs_a, t_a⟩ : Pol) from ⟨by have h := HW1_a.out; rw [rwSs_weight] at h; exact h, by have h := HW2_a.out; rw [rwSs_weight] at h; exact h, by have h := HW3_a.out; rw [rwSs_weight] at h; exact h, HTS_a.out⟩)
  have HPS_b := Lib.hid (show PolSm (⟨bo_b, xs_b, ys_b, zs_b, t_b⟩ : Pol) from ⟨by have h := HW1_b.out; rw [rwSs_weight] at h; exact h, by have h := HW2_b.out; rw [rwSs_weight] at h; exact h, by have h := HW3_b.out; rw [rwSs_weight] at h; exact h, HTS_b.out⟩)
  have HLN := Lib.hid (nr_len HPS_a.out HPS_b.out)
  obtain ⟨⟨bo_r, xs_r, ys_r, zs_r, t_r⟩, hNR⟩ : ∃ N, nrP (⟨bo_a, xs_a, ys_a, zs_a, t_a⟩ : Pol) (⟨bo_b, xs_b, ys_b, zs_b, t_b⟩ : Pol) = N := ⟨_, rfl⟩
  rw [hNR] at HLN; have HNR := Lib.hid hNR; clear hNR
  have HC_spec := Lib.hid (fun (u1 : Option Addr) (m1 k1 : Nat) (u2 : Option Addr) (m2 k2 : Nat) (u3 : Option Addr) (m3 k3 : Nat) (v1 : Option Addr) (l1 j1 : Nat) (v2 : Option Addr) (l2 j2 : Nat) (v3 : Option Addr) (l3 j3 : Nat) (X : World) (h : ReadP X.heap.size X (.slice u1 m1 k1) (.slice u2 m2 k2) (.slice u3 m3 k3) (⟨bo_a, xs_a, ys_a, zs_a, t_a⟩ : Pol)) (h' : ReadP X.heap.size X (.slice v1 l1 j1) (.slice v2 l2 j2) (.slice v3 l3 j3) (⟨bo_b, xs_b, ys_b, zs_b, t_b⟩ : Pol)) => show Calls Try.prog 10 #[.agg #[.bool bo_a, .slice u1 m1 k1, .slice u2 m2 k2, .slice u3 m3 k3, .string t_a], .agg #[.bool bo_b, .slice v1 l1 j1, .slice v2 l2 j2, .slice v3 l3 j3, .string t_b]] X (PoNew ⟨bo_r, xs_r, ys_r, zs_r, t_r⟩ X) from HNR.out ▸ narrow_spec bo_a xs_a ys_a zs_a t_a _ _ _ _ _ _ _ _ _ bo_b xs_b ys_b zs_b t_b _ _ _ _ _ _ _ _ _ X HPS_a.out HPS_b.out h h')
  have HC_impl := Lib.hid (fun (u1 : Option Addr) (m1 k1 : Nat) (u2 : Option Addr) (m2 k2 : Nat) (u3 : Option Addr) (m3 k3 : Nat) (v1 : Option Addr) (l1 j1 : Nat) (v2 : Option Addr) (l2 j2 : Nat) (v3 : Option Addr) (l3 j3 : Nat) (X : World) (h : ReadP X.heap.size X (.slice u1 m1 k1) (.slice u2 m2 k2) (.slice u3 m3 k3) (⟨bo_a, xs_a, ys_a, zs_a, t_a⟩ : Pol)) (h' : ReadP X.heap.size X (.slice v1 l1 j1) (.slice v2 l2 j2) (.slice v3 l3 j3) (⟨bo_b, xs_b, ys_b, zs_b, t_b⟩ : Pol)) => show Calls Try.prog 12 #[.agg #[.bool bo_a, .slice u1 m1 k1, .slice u2 m2 k2, .slice u3 m3 k3, .string t_a], .agg #[.bool bo_b, .slice v1 l1 j1, .slice v2 l2 j2, .slice v3 l3 j3, .string t_b]] X (PoNew ⟨bo_r, xs_r, ys_r, zs_r, t_r⟩ X) from HNR.out ▸ narrow_impl bo_a xs_a ys_a zs_a t_a _ _ _ _ _ _ _ _ _ bo_b xs_b ys_b zs_b t_b _ _ _ _ _ _ _ _ _ X HPS_a.out HPS_b.out h h')
  go_upto_region 8 with (fail)
  go_cut [6] from 24 to 28 (fun c wx => ∃ (g : Nat) (v1 : Option Addr) (m1 k1 : Nat) (v2 : Option Addr) (m2 k2 : Nat) (v3 : Option Addr) (m3 k3 : Nat), c = .pointer (some ⟨g, 0, none⟩) ∧ w_2.heap.size ≤ g ∧ wx.heap[g]? = some (.cells #[.bool bo_r, .slice v1 m1 k1, .slice v2 m2 k2, .slice v3 m3 k3, .string t_r] 26 (0, 0)) ∧ g ∉ blocksL [rwSs (.slice v1 m1 k1) xs_r, rwSs (.slice v2 m2 k2) ys_r, rwSs (.slice v3 m3 k3) zs_r] ∧ Own3 w_2.heap.size wx (.slice v1 m1 k1) (.slice v2 m2 k2) (.slice v3 m3 k3) xs_r ys_r zs_r ∧ Below w_2.heap.size w_2 wx)
  case first =>
    have KEEP := Lib.hid (fun (w' : World) (h : Below w_2.heap.size w_2 w') => show Below w_2.heap.size w_2 w' ∧ w'.cell? ⟨w.heap.size, 0, none⟩ = some (.bool bo_a) ∧ w'.cell? ⟨w.heap.size, 1, none⟩ = some (.slice xa_a xn_a xc_a) ∧ w'.cell? ⟨w.heap.size, 2, none⟩ = some (.slice ya_a yn_a yc_a) ∧ w'.cell? ⟨w.heap.size, 3, none⟩ = some (.slice za_a zn_a zc_a) ∧ w'.cell? ⟨w.heap.size, 4, none⟩ = some (.string t_a) ∧ w'.cell? ⟨w.heap.size + 1, 0, none⟩ = some (.bool bo_b) ∧ w'.cell? ⟨w.heap.size + 1, 1, none⟩ = some (.slice xa_b xn_b xc_b) ∧ w'.cell? ⟨w.heap.size + 1, 2, none⟩ = some (.slice ya_b yn_b yc_b) ∧ w'.cell? ⟨w.heap.size + 1, 3, none⟩ = some (.slice za_b zn_b zc_b) ∧ w'.cell? ⟨w.heap.size + 1, 4, none⟩ = some (.string t_b) from ⟨h, (h.cell (show (⟨w.heap.size, 0, none⟩ : Addr).block < _ from World.block_lt_of_cell? _ _ q_a0)).trans q_a0, (h.cell (show (⟨w.heap.size, 1, none⟩ : Addr).block < _ from World.block_lt_of_cell? _ _ q_a1)).trans q_a1, (h.cell (show (⟨w.heap.size, 2, none⟩ : Addr).block < _ from World.block_lt_of_cell? _ _ q_a2)).trans q_a2, (h.cell (show (⟨w.heap.size, 3, none⟩ : Addr).block < _ from World.block_lt_of_cell? _ _ q_a3)).trans q_a3, (h.cell (show (⟨w.heap.size, 4, none⟩ : Addr).block < _ from World.block_lt_of_cell? _ _ q_a4)).trans q_a4, (h.cell (show (⟨w.heap.size + 1, 0, none⟩ : Addr).block < _ from World.block_lt_of_cell? _ _ q_b0)).trans q_b0, (h.cell (show (⟨w.heap.size + 1, 1, none⟩ : Addr).block < _ from World.block_lt_of_cell? _ _ q_b1)).trans q_b1, (h.cell (show (⟨w.heap.size + 1, 2, none⟩ : Addr).block < _ from World.block_lt_of_cell? _ _ q_b2)).trans q_b2, (h.cell (show (⟨w.heap.size + 1, 3, none⟩ : Addr).block < _ from World.block_lt_of_cell? _ _ q_b3)).trans q_b3, (h.cell (show (⟨w.heap.size + 1, 4, none⟩ : Addr).block < _ from World.block_lt_of_cell? _ _ q_b4)).trans q_b4⟩)
    go_region_held3 (fun w' => Below w_2.heap.size w_2 w' ∧ w'.cell? ⟨w.heap.size, 0, none⟩ = some (.bool bo_a) ∧ w'.cell? ⟨w.heap.size, 1, none⟩ = some (.slice xa_a xn_a xc_a) ∧ w'.cell? ⟨w.heap.size, 2, none⟩ = some (.slice ya_a yn_a yc_a) ∧ w'.cell? ⟨w.heap.size, 3, none⟩ = some (.slice za_a zn_a zc_a) ∧ w'.cell? ⟨w.heap.size, 4, none⟩ = some (.string t_a) ∧ w'.cell? ⟨w.heap.size + 1, 0, none⟩ = some (.bool bo_b) ∧ w'.cell? ⟨w.heap.size + 1, 1, none⟩ = some (.slice xa_b xn_b xc_b) ∧ w'.cell? ⟨w.heap.size + 1, 2, none⟩ = some (.slice ya_b yn_b yc_b) ∧ w'.cell? ⟨w.heap.size + 1, 3, none⟩ = some (.slice za_b zn_b zc_b) ∧ w'.cell? ⟨w.heap.size + 1, 4, none⟩ = some (.string t_b)) (exact KEEP.out _ (by repeat' (first | (with_reducible exact Below.refl _ _) | (with_reducible exact hPN) | (with_reducible exact hPC) | (with_reducible exact hPB) | (with_reducible refine bl_dw ?_) | (with_reducible refine bl_aw ?_ _) | (with_reducible refine bl_s9 ?_ (by first | exact Nat.le_refl _ | exact hPB.size | exact hPC.size | exact hPN.size) _)))) (first | (go_at_call 11; with_reducible refine (toPr_any bo_a t_a HR1_a.out HR2_a.out HR3_a.out HW1_a.out HW2_a.out HW3_a.out (bl_via HB.out HB.out.size (by repeat' (first | (with_reducible exact Below.refl _ _) | (with_reducible exact hPC) | (with_reducible exact hPB) | (with_reducible refine bl_dw ?_) | (with_reducible refine bl_aw ?_ _))))).mono ?_; rintro e wB ⟨xaB, xnB, xcB, yaB, ynB, ycB, zaB, znB, zcB, rfl, hiB, hbB⟩; have hPB := bl_tr (show Below w_2.heap.size w_2 _ from (by repeat' (first | (with_reducible exact Below.refl _ _) | (with_reducible exact hPC) | (with_reducible exact hPB) | (with_reducible refine bl_dw ?_) | (with_reducible refine bl_aw ?_ _)))) hbB; skip) | (go_at_call 11; with_reducible refine (toPr_any bo_b t_b HR1_b.out HR2_b.out HR3_b.out HW1_b.out HW2_b.out HW3_b.out (bl_via HB.out HB.out.size (by repeat' (first | (with_reducible exact Below.refl _ _) | (with_reducible exact hPC) | (with_reducible exact hPB) | (with_reducible refine bl_dw ?_) | (with_reducible refine bl_aw ?_ _))))).mono ?_; rintro e wC ⟨xaC, xnC, xcC, yaC, ynC, ycC, zaC, znC, zcC, rfl, hiC, hbC⟩; have hPC := bl_tr (show Below w_2.heap.size w_2 _ from (by repeat' (first | (with_reducible exact Below.refl _ _) | (with_reducible exact hPC) | (with_reducible exact hPB) | (with_reducible refine bl_dw ?_) | (with_reducible refine bl_aw ?_ _)))) hbC; have hBC := bl_tr (show Below wB.heap.size wB _ from (by repeat' (first | (with_reducible exact Below.refl _ _) | (with_reducible refine bl_dw ?_) | (with_reducible refine bl_aw ?_ _)))) hbC) | (go_at_call 10; refine (HC_spec.out _ _ _ _ _ _ _ _ _ _ _ _ _ _ _ _ _ _ _ (hiB.up (by repeat' (first | (with_reducible exact Below.refl _ _) | (with_reducible exact hBC) | (with_reducible refine bl_dw ?_) | (with_reducible refine bl_aw ?_ _)))) (hiC.up (by repeat' (first | (with_reducible exact Below.refl _ _) | (with_reducible refine bl_dw ?_) | (with_reducible refine bl_aw ?_ _))))).mono ?_; rintro e wN ⟨a1N, n1N, c1N, a2N, n2N, c2N, a3N, n3N, c3N, rfl, hoN, hbN⟩; have hPN := bl_tr (show Below w_2.heap.size w_2 _ from (by repeat' (first | (with_reducible exact Below.refl _ _) | (with_reducible exact hPC) | (with_reducible exact hPB) | (with_reducible refine bl_dw ?_) | (with_reducible refine bl_aw ?_ _)))) hbN; (first | (refine lay9 (w := wN) (c := w_2.heap.size) ?_ ?_; (focus (refine heap_bl9 hbN ?_; (repeat' (first | (with_reducible refine hq_dr ?_) | ((with_reducible refine hq_nw ?_); (first | (with_reducible rfl) | (simp only [size_alloc]; done))) | (with_reducible refine heap_al9 ?_ _) | (with_reducible refine heap_bl9 hbN ?_) | (with_reducible refine heap_bl9 hbC ?_) | (with_reducible refine heap_bl9 hbB ?_))))); intro x0 y0 x1 y1 x2 y2 x3 y3 x4 y4) | (refine lay9 (w := wN) (c := wB.heap.size) ?_ ?_; (focus (refine heap_bl9 hbN ?_; (repeat' (first | (with_reducible refine hq_dr ?_) | ((with_reducible refine hq_nw ?_); (first | (with_reducible rfl) | (simp only [size_alloc]; done))) | (with_reducible refine heap_al9 ?_ _) | (with_reducible refine heap_bl9 hbN ?_) | (with_reducible refine heap_bl9 hbC ?_) | (with_reducible refine heap_bl9 hbB ?_))))); intro x0 y0 x1 y1 x2 y2 x3 y3 x4 y4) | (refine lay9 (w := wN) (c := wC.heap.size) ?_ ?_; (focus (refine heap_bl9 hbN ?_; (repeat' (first | (with_reducible refine hq_dr ?_) | ((with_reducible refine hq_nw ?_); (first | (with_reducible rfl) | (simp only [size_alloc]; done))) | (with_reducible refine heap_al9 ?_ _) | (with_reducible refine heap_bl9 hbN ?_) | (with_reducible refine heap_bl9 hbC ?_) | (with_reducible refine heap_bl9 hbB ?_))))); intro x0 y0 x1 y1 x2 y2 x3 y3 x4 y4) | skip)))
    all_goals
      go_wp2_with fail
      go_meet
    all_goals (refine ⟨_, a1N, n1N, c1N, a2N, n2N, c2N, a3N, n3N, c3N, rfl, ?_⟩)
    · exact finQ1 hoN (Below.size (show Below w_2.heap.size w_2 _ from (by repeat' (first | (with_reducible exact Below.refl _ _) | (with_reducible exact hPC) | (with_reducible exact hPB) | (with_reducible refine bl_dw ?_) | (with_reducible refine bl_aw ?_ _))))) hPN
    all_goals (exact finQ2 (heap_bl9 hbN (by repeat' (first | (with_reducible refine hq_dr ?_) | ((with_reducible refine hq_nw ?_); (first | (with_reducible rfl) | (simp only [size_alloc]; done))) | (with_reducible refine heap_al9 ?_ _) | (with_reducible refine heap_bl9 hbN ?_) | (with_reducible refine heap_bl9 hbC ?_) | (with_reducible refine heap_bl9 hbB ?_)))) (by first | exact Nat.le_refl _ | exact hPB.size | exact hPC.size) (by first | (show _ < (World.alloc _ _).heap.size; rw [size_alloc]; exact Nat.lt_succ_self _) | (refine Nat.lt_of_lt_of_le ?_ (Below.size (show Below wC.heap.size wC _ from (by repeat' (first | (with_reducible exact Below.refl _ _) | (with_reducible refine bl_dw ?_) | (with_reducible refine bl_aw ?_ _))))); show _ < wC.heap.size; refine Nat.lt_of_lt_of_le ?_ hbC.size; show _ < (World.alloc _ _).heap.size; rw [size_alloc]; exact Nat.lt_succ_self _) | (refine Nat.lt_of_lt_of_le ?_ (Below.size (show Below wC.heap.size wC _ from (by repeat' (first | (with_reducible exact Below.refl _ _) | (with_reducible refine bl_dw ?_) | (with_reducible refine bl_aw ?_ _))))); refine Nat.lt_of_lt_of_le ?_ (Nat.le_trans hbB.size (Below.size (show Below wB.heap.size wB wC from (by repeat' (first | (with_reducible exact Below.refl _ _) | (with_reducible exact hBC) | (with_reducible refine bl_dw ?_) | (with_reducible refine bl_aw ?_ _)))))); show _ < (World.alloc _ _).heap.size; rw [size_alloc]; exact Nat.lt_succ_self _)) hoN hPN)
  obtain ⟨g_q, xa_q, xn_q, xc_q, ya_q, yn_q, yc_q, za_q, zn_q, zc_q, rfl, hge, hbx, hnb, how, hB⟩ := hcut
  rename World => w_3
  replace q_a0 := (hB.cell (show (⟨w.heap.size, 0, none⟩ : Addr).block < _ from World.block_lt_of_cell? _ _ q_a0)).trans q_a0
  replace q_a1 := (hB.cell (show (⟨w.heap.size, 1, none⟩ : Addr).block < _ from World.block_lt_of_cell? _ _ q_a1)).trans q_a1
  replace q_a2 := (hB.cell (show (⟨w.heap.size, 2, none⟩ : Addr).block < _ from World.block_lt_of_cell? _ _ q_a2)).trans q_a2
  replace q_a3 := (hB.cell (show (⟨w.heap.size, 3, none⟩ : Addr).block < _ from World.block_lt_of_cell? _ _ q_a3)).trans q_a3
  replace q_a4 := (hB.cell (show (⟨w.heap.size, 4, none⟩ : Addr).block < _ from World.block_lt_of_cell? _ _ q_a4)).trans q_a4
  replace b_a : w.heap.size < w_3.heap.size := World.block_lt_of_cell? _ _ q_a0
  replace q_b0 := (hB.cell (show (⟨w.heap.size + 1, 0, none⟩ : Addr).block < _ from World.block_lt_of_cell? _ _ q_b0)).trans q_b0
  replace q_b1 := (hB.cell (show (⟨w.heap.size + 1, 1, none⟩ : Addr).block < _ from World.block_lt_of_cell? _ _ q_b1)).trans q_b1
  replace q_b2 := (hB.cell (show (⟨w.heap.size + 1, 2, none⟩ : Addr).block < _ from World.block_lt_of_cell? _ _ q_b2)).trans q_b2
  replace q_b3 := (hB.cell (show (⟨w.heap.size + 1, 3, none⟩ : Addr).block < _ from World.block_lt_of_cell? _ _ q_b3)).trans q_b3
  replace q_b4 := (hB.cell (show (⟨w.heap.size + 1, 4, none⟩ : Addr).block < _ from World.block_lt_of_cell? _ _ q_b4)).trans q_b4
  replace b_b : w.heap.size + 1 < w_3.heap.size := World.block_lt_of_cell? _ _ q_b0
  have Hq := Lib.hid (how.1)
  have HS3 := Lib.hid hB.size
  replace HB := Lib.hid (HB.out.trans (hB.mono HB.out.size))
  have q_q0 := box_cell hbx (j := 0) rfl
  have q_q1 := box_cell hbx (j := 1) rfl
  have q_q2 := box_cell hbx (j := 2) rfl
  have q_q3 := box_cell hbx (j := 3) rfl
  have q_q4 := box_cell hbx (j := 4) rfl
  have b_q := heap_lt hbx
  have HN_q := Lib.hid how.2; have HSb_q := Lib.hid b_q; have HSc_q := Lib.hid hge; have HNB_q := Lib.hid hnb
  clear hB hge hbx hnb how
  go_wp2_with fail
  refine (toP_any bo_a t_a ((HR1_a.out.below HB.out (Nat.le_refl _)).mono HB.out.size) ((HR2_a.out.below HB.out (Nat.le_refl _)).mono HB.out.size) ((HR3_a.out.below HB.out (Nat.le_refl _)).mono HB.out.size) HW1_a.out HW2_a.out HW3_a.out).mono ?_
  rintro e w_4 ⟨y1_y, y2_y, y3_y, xa_y, xn_y, xc_y, ya_y, yn_y, yc_y, za_y, zn_y, zc_y, rfl, hf, ho, hn, hb⟩
  have hB := hb
  replace q_a0 := (hB.cell (show (⟨w.heap.size, 0, none⟩ : Addr).block < _ from World.block_lt_of_cell? _ _ q_a0)).trans q_a0
  replace q_a1 := (hB.cell (show (⟨w.heap.size, 1, none⟩ : Addr).block < _ from World.block_lt_of_cell? _ _ q_a1)).trans q_a1
  replace q_a2 := (hB.cell (show (⟨w.heap.size, 2, none⟩ : Addr).block < _ from World.block_lt_of_cell? _ _ q_a2)).trans q_a2
  replace q_a3 := (hB.cell (show (⟨w.heap.size, 3, none⟩ : Addr).block < _ from World.block_lt_of_cell? _ _ q_a3)).trans q_a3
  replace q_a4 := (hB.cell (show (⟨w.heap.size, 4, none⟩ : Addr).block < _ from World.block_lt_of_cell? _ _ q_a4)).trans q_a4
  replace b_a : w.heap.size < w_4.heap.size := World.block_lt_of_cell? _ _ q_a0
  replace q_b0 := (hB.cell (show (⟨w.heap.size + 1, 0, none⟩ : Addr).block < _ from World.block_lt_of_cell? _ _ q_b0)).trans q_b0
  replace q_b1 := (hB.cell (show (⟨w.heap.size + 1, 1, none⟩ : Addr).block < _ from World.block_lt_of_cell? _ _ q_b1)).trans q_b1
  replace q_b2 := (hB.cell (show (⟨w.heap.size + 1, 2, none⟩ : Addr).block < _ from World.block_lt_of_cell? _ _ q_b2)).trans q_b2
  replace q_b3 := (hB.cell (show (⟨w.heap.size + 1, 3, none⟩ : Addr).block < _ from World.block_lt_of_cell? _ _ q_b3)).trans q_b3
  replace q_b4 := (hB.cell (show (⟨w.heap.size + 1, 4, none⟩ : Addr).block < _ from World.block_lt_of_cell? _ _ q_b4)).trans q_b4
  replace b_b : w.heap.size + 1 < w_4.heap.size := World.block_lt_of_cell? _ _ q_b0
  replace q_q0 := (hB.cell (show (⟨g_q, 0, none⟩ : Addr).block < _ from World.block_lt_of_cell? _ _ q_q0)).trans q_q0
  replace q_q1 := (hB.cell (show (⟨g_q, 1, none⟩ : Addr).block < _ from World.block_lt_of_cell? _ _ q_q1)).trans q_q1
  replace q_q2 := (hB.cell (show (⟨g_q, 2, none⟩ : Addr).block < _ from World.block_lt_of_cell? _ _ q_q2)).trans q_q2
  replace q_q3 := (hB.cell (show (⟨g_q, 3, none⟩ : Addr).block < _ from World.block_lt_of_cell? _ _ q_q3)).trans q_q3
  replace q_q4 := (hB.cell (show (⟨g_q, 4, none⟩ : Addr).block < _ from World.block_lt_of_cell? _ _ q_q4)).trans q_q4
  replace b_q : g_q < w_4.heap.size := World.block_lt_of_cell? _ _ q_q0
  replace Hq := Lib.hid (ownL_later Hq.out hB)
  have Hy := Lib.hid (ho)
  have HS4 := Lib.hid hB.size
  replace HB := Lib.hid (HB.out.trans (hB.mono HB.out.size))
  have HF_y := Lib.hid hf; have HN_y := Lib.hid hn
  clear hB ho hn hb hf
  go_wp2_with fail
  obtain ⟨w_5, hw⟩ : ∃ x, w_4.alloc (.cells #[.bool bo_a, .slice xa_y xn_y xc_y, .slice ya_y yn_y yc_y, .slice za_y zn_y zc_y, .string t_a] 26) = x := ⟨_, rfl⟩
  rw [hw]
  have hB : Below w_4.heap.size w_4 w_5 := by rw [← hw]; exact (Below.refl _ _).alloc (Nat.le_refl _) _
  have q_y0 : w_5.cell? ⟨w_4.heap.size, 0, none⟩ = some (.bool bo_a) := by rw [← hw]; simp
  have q_y1 : w_5.cell? ⟨w_4.heap.size, 1, none⟩ = some (.slice xa_y xn_y xc_y) := by rw [← hw]; simp
  have q_y2 : w_5.cell? ⟨w_4.heap.size, 2, none⟩ = some (.slice ya_y yn_y yc_y) := by rw [← hw]; simp
  have q_y3 : w_5.cell? ⟨w_4.heap.size, 3, none⟩ = some (.slice za_y zn_y zc_y) := by rw [← hw]; simp
  have q_y4 : w_5.cell? ⟨w_4.heap.size, 4, none⟩ = some (.string t_a) := by rw [← hw]; simp
  have b_y : w_4.heap.size < w_5.heap.size := World.block_lt_of_cell? _ _ q_y0
  replace q_a0 := (hB.cell (show (⟨w.heap.size, 0, none⟩ : Addr).block < _ from World.block_lt_of_cell? _ _ q_a0)).trans q_a0
  replace q_a1 := (hB.cell (show (⟨w.heap.size, 1, none⟩ : Addr).block < _ from World.block_lt_of_cell? _ _ q_a1)).trans q_a1
  replace q_a2 := (hB.cell (show (⟨w.heap.size, 2, none⟩ : Addr).block < _ from World.block_lt_of_cell? _ _ q_a2)).trans q_a2
  replace q_a3 := (hB.cell (show (⟨w.heap.size, 3, none⟩ : Addr).block < _ from World.block_lt_of_cell? _ _ q_a3)).trans q_a3
  replace q_a4 := (hB.cell (show (⟨w.heap.size, 4, none⟩ : Addr).block < _ from World.block_lt_of_cell? _ _ q_a4)).trans q_a4
  replace b_a : w.heap.size < w_5.heap.size := World.block_lt_of_cell? _ _ q_a0
  replace q_b0 := (hB.cell (show (⟨w.heap.size + 1, 0, none⟩ : Addr).block < _ from World.block_lt_of_cell? _ _ q_b0)).trans q_b0
  replace q_b1 := (hB.cell (show (⟨w.heap.size + 1, 1, none⟩ : Addr).block < _ from World.block_lt_of_cell? _ _ q_b1)).trans q_b1
  replace q_b2 := (hB.cell (show (⟨w.heap.size + 1, 2, none⟩ : Addr).block < _ from World.block_lt_of_cell? _ _ q_b2)).trans q_b2
  replace q_b3 := (hB.cell (show (⟨w.heap.size + 1, 3, none⟩ : Addr).block < _ from World.block_lt_of_cell? _ _ q_b3)).trans q_b3
  replace q_b4 := (hB.cell (show (⟨w.heap.size + 1, 4, none⟩ : Addr).block < _ from World.block_lt_of_cell? _ _ q_b4)).trans q_b4
  replace b_b : w.heap.size + 1 < w_5.heap.size := World.block_lt_of_cell? _ _ q_b0
  replace q_q0 := (hB.cell (show (⟨g_q, 0, none⟩ : Addr).block < _ from World.block_lt_of_cell? _ _ q_q0)).trans q_q0
  replace q_q1 := (hB.cell (show (⟨g_q, 1, none⟩ : Addr).block < _ from World.block_lt_of_cell? _ _ q_q1)).trans q_q1
  replace q_q2 := (hB.cell (show (⟨g_q, 2, none⟩ : Addr).block < _ from World.block_lt_of_cell? _ _ q_q2)).trans q_q2
  replace q_q3 := (hB.cell (show (⟨g_q, 3, none⟩ : Addr).block < _ from World.block_lt_of_cell? _ _ q_q3)).trans q_q3
  replace q_q4 := (hB.cell (show (⟨g_q, 4, none⟩ : Addr).block < _ from World.block_lt_of_cell? _ _ q_q4)).trans q_q4
  replace b_q : g_q < w_5.heap.size := World.block_lt_of_cell? _ _ q_q0
  replace Hq := Lib.hid (ownL_later Hq.out hB)
  replace Hy := Lib.hid (ownL_later Hy.out hB)
  have HS5 := Lib.hid hB.size
  replace HB := Lib.hid (HB.out.trans (hB.mono HB.out.size))
  clear hB hw
  have HSb_y := Lib.hid b_y
  go_wp2_with fail
  refine (toP_any bo_b t_b ((HR1_b.out.below HB.out (Nat.le_refl _)).mono HB.out.size) ((HR2_b.out.below HB.out (Nat.le_refl _)).mono HB.out.size) ((HR3_b.out.below HB.out (Nat.le_refl _)).mono HB.out.size) HW1_b.out HW2_b.out HW3_b.out).mono ?_
  rintro e w_6 ⟨y1_u, y2_u, y3_u, xa_u, xn_u, xc_u, ya_u, yn_u, yc_u, za_u, zn_u, zc_u, rfl, hf, ho, hn, hb⟩
  have hB := hb
  replace q_a0 := (hB.cell (show (⟨w.heap.size, 0, none⟩ : Addr).block < _ from World.block_lt_of_cell? _ _ q_a0)).trans q_a0
  replace q_a1 := (hB.cell (show (⟨w.heap.size, 1, none⟩ : Addr).block < _ from World.block_lt_of_cell? _ _ q_a1)).trans q_a1
  replace q_a2 := (hB.cell (show (⟨w.heap.size, 2, none⟩ : Addr).block < _ from World.block_lt_of_cell? _ _ q_a2)).trans q_a2
  replace q_a3 := (hB.cell (show (⟨w.heap.size, 3, none⟩ : Addr).block < _ from World.block_lt_of_cell? _ _ q_a3)).trans q_a3
  replace q_a4 := (hB.cell (show (⟨w.heap.size, 4, none⟩ : Addr).block < _ from World.block_lt_of_cell? _ _ q_a4)).trans q_a4
  replace b_a : w.heap.size < w_6.heap.size := World.block_lt_of_cell? _ _ q_a0
  replace q_b0 := (hB.cell (show (⟨w.heap.size + 1, 0, none⟩ : Addr).block < _ from World.block_lt_of_cell? _ _ q_b0)).trans q_b0
  replace q_b1 := (hB.cell (show (⟨w.heap.size + 1, 1, none⟩ : Addr).block < _ from World.block_lt_of_cell? _ _ q_b1)).trans q_b1
  replace q_b2 := (hB.cell (show (⟨w.heap.size + 1, 2, none⟩ : Addr).block < _ from World.block_lt_of_cell? _ _ q_b2)).trans q_b2
  replace q_b3 := (hB.cell (show (⟨w.heap.size + 1, 3, none⟩ : Addr).block < _ from World.block_lt_of_cell? _ _ q_b3)).trans q_b3
  replace q_b4 := (hB.cell (show (⟨w.heap.size + 1, 4, none⟩ : Addr).block < _ from World.block_lt_of_cell? _ _ q_b4)).trans q_b4
  replace b_b : w.heap.size + 1 < w_6.heap.size := World.block_lt_of_cell? _ _ q_b0
  replace q_q0 := (hB.cell (show (⟨g_q, 0, none⟩ : Addr).block < _ from World.block_lt_of_cell? _ _ q_q0)).trans q_q0
  replace q_q1 := (hB.cell (show (⟨g_q, 1, none⟩ : Addr).block < _ from World.block_lt_of_cell? _ _ q_q1)).trans q_q1
  replace q_q2 := (hB.cell (show (⟨g_q, 2, none⟩ : Addr).block < _ from World.block_lt_of_cell? _ _ q_q2)).trans q_q2
  replace q_q3 := (hB.cell (show (⟨g_q, 3, none⟩ : Addr).block < _ from World.block_lt_of_cell? _ _ q_q3)).trans q_q3
  replace q_q4 := (hB.cell (show (⟨g_q, 4, none⟩ : Addr).block < _ from World.block_lt_of_cell? _ _ q_q4)).trans q_q4
  replace b_q : g_q < w_6.heap.size := World.block_lt_of_cell? _ _ q_q0
  replace q_y0 := (hB.cell (show (⟨w_4.heap.size, 0, none⟩ : Addr).block < _ from World.block_lt_of_cell? _ _ q_y0)).trans q_y0
  replace q_y1 := (hB.cell (show (⟨w_4.heap.size, 1, none⟩ : Addr).block < _ from World.block_lt_of_cell? _ _ q_y1)).trans q_y1
  replace q_y2 := (hB.cell (show (⟨w_4.heap.size, 2, none⟩ : Addr).block < _ from World.block_lt_of_cell? _ _ q_y2)).trans q_y2
  replace q_y3 := (hB.cell (show (⟨w_4.heap.size, 3, none⟩ : Addr).block < _ from World.block_lt_of_cell? _ _ q_y3)).trans q_y3
  replace q_y4 := (hB.cell (show (⟨w_4.heap.size, 4, none⟩ : Addr).block < _ from World.block_lt_of_cell? _ _ q_y4)).trans q_y4
  replace b_y : w_4.heap.size < w_6.heap.size := World.block_lt_of_cell? _ _ q_y0
  replace Hq := Lib.hid (ownL_later Hq.out hB)
  replace Hy := Lib.hid (ownL_later Hy.out hB)
  have Hu := Lib.hid (ho)
  have HS6 := Lib.hid hB.size
  replace HB := Lib.hid (HB.out.trans (hB.mono HB.out.size))
  have HF_u := Lib.hid hf; have HN_u := Lib.hid hn
  clear hB ho hn hb hf
  go_wp2_with fail
  obtain ⟨w_7, hw⟩ : ∃ x, w_6.alloc (.cells #[.bool bo_b, .slice xa_u xn_u xc_u, .slice ya_u yn_u yc_u, .slice za_u zn_u zc_u, .string t_b] 26) = x := ⟨_, rfl⟩
  rw [hw]
  have hB : Below w_6.heap.size w_6 w_7 := by rw [← hw]; exact (Below.refl _ _).alloc (Nat.le_refl _) _
  have q_u0 : w_7.cell? ⟨w_6.heap.size, 0, none⟩ = some (.bool bo_b) := by rw [← hw]; simp
  have q_u1 : w_7.cell? ⟨w_6.heap.size, 1, none⟩ = some (.slice xa_u xn_u xc_u) := by rw [← hw]; simp
  have q_u2 : w_7.cell? ⟨w_6.heap.size, 2, none⟩ = some (.slice ya_u yn_u yc_u) := by rw [← hw]; simp
  have q_u3 : w_7.cell? ⟨w_6.heap.size, 3, none⟩ = some (.slice za_u zn_u zc_u) := by rw [← hw]; simp
  have q_u4 : w_7.cell? ⟨w_6.heap.size, 4, none⟩ = some (.string t_b) := by rw [← hw]; simp
  have b_u : w_6.heap.size < w_7.heap.size := World.block_lt_of_cell? _ _ q_u0
  replace q_a0 := (hB.cell (show (⟨w.heap.size, 0, none⟩ : Addr).block < _ from World.block_lt_of_cell? _ _ q_a0)).trans q_a0
  replace q_a1 := (hB.cell (show (⟨w.heap.size, 1, none⟩ : Addr).block < _ from World.block_lt_of_cell? _ _ q_a1)).trans q_a1
  replace q_a2 := (hB.cell (show (⟨w.heap.size, 2, none⟩ : Addr).block < _ from World.block_lt_of_cell? _ _ q_a2)).trans q_a2
  replace q_a3 := (hB.cell (show (⟨w.heap.size, 3, none⟩ : Addr).block < _ from World.block_lt_of_cell? _ _ q_a3)).trans q_a3
  replace q_a4 := (hB.cell (show (⟨w.heap.size, 4, none⟩ : Addr).block < _ from World.block_lt_of_cell? _ _ q_a4)).trans q_a4
  replace b_a : w.heap.size < w_7.heap.size := World.block_lt_of_cell? _ _ q_a0
  replace q_b0 := (hB.cell (show (⟨w.heap.size + 1, 0, none⟩ : Addr).block < _ from World.block_lt_of_cell? _ _ q_b0)).trans q_b0
  replace q_b1 := (hB.cell (show (⟨w.heap.size + 1, 1, none⟩ : Addr).block < _ from World.block_lt_of_cell? _ _ q_b1)).trans q_b1
  replace q_b2 := (hB.cell (show (⟨w.heap.size + 1, 2, none⟩ : Addr).block < _ from World.block_lt_of_cell? _ _ q_b2)).trans q_b2
  replace q_b3 := (hB.cell (show (⟨w.heap.size + 1, 3, none⟩ : Addr).block < _ from World.block_lt_of_cell? _ _ q_b3)).trans q_b3
  replace q_b4 := (hB.cell (show (⟨w.heap.size + 1, 4, none⟩ : Addr).block < _ from World.block_lt_of_cell? _ _ q_b4)).trans q_b4
  replace b_b : w.heap.size + 1 < w_7.heap.size := World.block_lt_of_cell? _ _ q_b0
  replace q_q0 := (hB.cell (show (⟨g_q, 0, none⟩ : Addr).block < _ from World.block_lt_of_cell? _ _ q_q0)).trans q_q0
  replace q_q1 := (hB.cell (show (⟨g_q, 1, none⟩ : Addr).block < _ from World.block_lt_of_cell? _ _ q_q1)).trans q_q1
  replace q_q2 := (hB.cell (show (⟨g_q, 2, none⟩ : Addr).block < _ from World.block_lt_of_cell? _ _ q_q2)).trans q_q2
  replace q_q3 := (hB.cell (show (⟨g_q, 3, none⟩ : Addr).block < _ from World.block_lt_of_cell? _ _ q_q3)).trans q_q3
  replace q_q4 := (hB.cell (show (⟨g_q, 4, none⟩ : Addr).block < _ from World.block_lt_of_cell? _ _ q_q4)).trans q_q4
  replace b_q : g_q < w_7.heap.size := World.block_lt_of_cell? _ _ q_q0
  replace q_y0 := (hB.cell (show (⟨w_4.heap.size, 0, none⟩ : Addr).block < _ from World.block_lt_of_cell? _ _ q_y0)).trans q_y0
  replace q_y1 := (hB.cell (show (⟨w_4.heap.size, 1, none⟩ : Addr).block < _ from World.block_lt_of_cell? _ _ q_y1)).trans q_y1
  replace q_y2 := (hB.cell (show (⟨w_4.heap.size, 2, none⟩ : Addr).block < _ from World.block_lt_of_cell? _ _ q_y2)).trans q_y2
  replace q_y3 := (hB.cell (show (⟨w_4.heap.size, 3, none⟩ : Addr).block < _ from World.block_lt_of_cell? _ _ q_y3)).trans q_y3
  replace q_y4 := (hB.cell (show (⟨w_4.heap.size, 4, none⟩ : Addr).block < _ from World.block_lt_of_cell? _ _ q_y4)).trans q_y4
  replace b_y : w_4.heap.size < w_7.heap.size := World.block_lt_of_cell? _ _ q_y0
  replace Hq := Lib.hid (ownL_later Hq.out hB)
  replace Hy := Lib.hid (ownL_later Hy.out hB)
  replace Hu := Lib.hid (ownL_later Hu.out hB)
  have HS7 := Lib.hid hB.size
  replace HB := Lib.hid (HB.out.trans (hB.mono HB.out.size))
  clear hB hw
  have HSb_u := Lib.hid b_u
  go_wp2_with fail
  refine ((HC_impl.out _ _ _ _ _ _ _ _ _ _ _ _ _ _ _ _ _ _ _ (HF_y.out.reads Hy.out bo_a t_a) (HF_u.out.reads Hu.out bo_b t_b))).mono ?_
  rintro e w_8 ⟨xa_g, xn_g, xc_g, ya_g, yn_g, yc_g, za_g, zn_g, zc_g, rfl, how, hb⟩
  have hB := hb
  replace q_a0 := (hB.cell (show (⟨w.heap.size, 0, none⟩ : Addr).block < _ from World.block_lt_of_cell? _ _ q_a0)).trans q_a0
  replace q_a1 := (hB.cell (show (⟨w.heap.size, 1, none⟩ : Addr).block < _ from World.block_lt_of_cell? _ _ q_a1)).trans q_a1
  replace q_a2 := (hB.cell (show (⟨w.heap.size, 2, none⟩ : Addr).block < _ from World.block_lt_of_cell? _ _ q_a2)).trans q_a2
  replace q_a3 := (hB.cell (show (⟨w.heap.size, 3, none⟩ : Addr).block < _ from World.block_lt_of_cell? _ _ q_a3)).trans q_a3
  replace q_a4 := (hB.cell (show (⟨w.heap.size, 4, none⟩ : Addr).block < _ from World.block_lt_of_cell? _ _ q_a4)).trans q_a4
  replace b_a : w.heap.size < w_8.heap.size := World.block_lt_of_cell? _ _ q_a0
  replace q_b0 := (hB.cell (show (⟨w.heap.size + 1, 0, none⟩ : Addr).block < _ from World.block_lt_of_cell? _ _ q_b0)).trans q_b0
  replace q_b1 := (hB.cell (show (⟨w.heap.size + 1, 1, none⟩ : Addr).block < _ from World.block_lt_of_cell? _ _ q_b1)).trans q_b1
  replace q_b2 := (hB.cell (show (⟨w.heap.size + 1, 2, none⟩ : Addr).block < _ from World.block_lt_of_cell? _ _ q_b2)).trans q_b2
  replace q_b3 := (hB.cell (show (⟨w.heap.size + 1, 3, none⟩ : Addr).block < _ from World.block_lt_of_cell? _ _ q_b3)).trans q_b3
  replace q_b4 := (hB.cell (show (⟨w.heap.size + 1, 4, none⟩ : Addr).block < _ from World.block_lt_of_cell? _ _ q_b4)).trans q_b4
  replace b_b : w.heap.size + 1 < w_8.heap.size := World.block_lt_of_cell? _ _ q_b0
  replace q_q0 := (hB.cell (show (⟨g_q, 0, none⟩ : Addr).block < _ from World.block_lt_of_cell? _ _ q_q0)).trans q_q0
  replace q_q1 := (hB.cell (show (⟨g_q, 1, none⟩ : Addr).block < _ from World.block_lt_of_cell? _ _ q_q1)).trans q_q1
  replace q_q2 := (hB.cell (show (⟨g_q, 2, none⟩ : Addr).block < _ from World.block_lt_of_cell? _ _ q_q2)).trans q_q2
  replace q_q3 := (hB.cell (show (⟨g_q, 3, none⟩ : Addr).block < _ from World.block_lt_of_cell? _ _ q_q3)).trans q_q3
  replace q_q4 := (hB.cell (show (⟨g_q, 4, none⟩ : Addr).block < _ from World.block_lt_of_cell? _ _ q_q4)).trans q_q4
  replace b_q : g_q < w_8.heap.size := World.block_lt_of_cell? _ _ q_q0
  replace q_y0 := (hB.cell (show (⟨w_4.heap.size, 0, none⟩ : Addr).block < _ from World.block_lt_of_cell? _ _ q_y0)).trans q_y0
  replace q_y1 := (hB.cell (show (⟨w_4.heap.size, 1, none⟩ : Addr).block < _ from World.block_lt_of_cell? _ _ q_y1)).trans q_y1
  replace q_y2 := (hB.cell (show (⟨w_4.heap.size, 2, none⟩ : Addr).block < _ from World.block_lt_of_cell? _ _ q_y2)).trans q_y2
  replace q_y3 := (hB.cell (show (⟨w_4.heap.size, 3, none⟩ : Addr).block < _ from World.block_lt_of_cell? _ _ q_y3)).trans q_y3
  replace q_y4 := (hB.cell (show (⟨w_4.heap.size, 4, none⟩ : Addr).block < _ from World.block_lt_of_cell? _ _ q_y4)).trans q_y4
  replace b_y : w_4.heap.size < w_8.heap.size := World.block_lt_of_cell? _ _ q_y0
  replace q_u0 := (hB.cell (show (⟨w_6.heap.size, 0, none⟩ : Addr).block < _ from World.block_lt_of_cell? _ _ q_u0)).trans q_u0
  replace q_u1 := (hB.cell (show (⟨w_6.heap.size, 1, none⟩ : Addr).block < _ from World.block_lt_of_cell? _ _ q_u1)).trans q_u1
  replace q_u2 := (hB.cell (show (⟨w_6.heap.size, 2, none⟩ : Addr).block < _ from World.block_lt_of_cell? _ _ q_u2)).trans q_u2
  replace q_u3 := (hB.cell (show (⟨w_6.heap.size, 3, none⟩ : Addr).block < _ from World.block_lt_of_cell? _ _ q_u3)).trans q_u3
  replace q_u4 := (hB.cell (show (⟨w_6.heap.size, 4, none⟩ : Addr).block < _ from World.block_lt_of_cell? _ _ q_u4)).trans q_u4
  replace b_u : w_6.heap.size < w_8.heap.size := World.block_lt_of_cell? _ _ q_u0
  replace Hq := Lib.hid (ownL_later Hq.out hB)
  replace Hy := Lib.hid (ownL_later Hy.out hB)
  replace Hu := Lib.hid (ownL_later Hu.out hB)
  have Hg := Lib.hid (how.1)
  have HS8 := Lib.hid hB.size
  replace HB := Lib.hid (HB.out.trans (hB.mono HB.out.size))
  have HN_g := Lib.hid how.2
  clear hB how hb
  go_wp2_with fail
  obtain ⟨w_9, hw⟩ : ∃ x, w_8.alloc (.cells #[.bool bo_r, .slice xa_g xn_g xc_g, .slice ya_g yn_g yc_g, .slice za_g zn_g zc_g, .string t_r] 26) = x := ⟨_, rfl⟩
  rw [hw]
  have hB : Below w_8.heap.size w_8 w_9 := by rw [← hw]; exact (Below.refl _ _).alloc (Nat.le_refl _) _
  have q_g0 : w_9.cell? ⟨w_8.heap.size, 0, none⟩ = some (.bool bo_r) := by rw [← hw]; simp
  have q_g1 : w_9.cell? ⟨w_8.heap.size, 1, none⟩ = some (.slice xa_g xn_g xc_g) := by rw [← hw]; simp
  have q_g2 : w_9.cell? ⟨w_8.heap.size, 2, none⟩ = some (.slice ya_g yn_g yc_g) := by rw [← hw]; simp
  have q_g3 : w_9.cell? ⟨w_8.heap.size, 3, none⟩ = some (.slice za_g zn_g zc_g) := by rw [← hw]; simp
  have q_g4 : w_9.cell? ⟨w_8.heap.size, 4, none⟩ = some (.string t_r) := by rw [← hw]; simp
  have b_g : w_8.heap.size < w_9.heap.size := World.block_lt_of_cell? _ _ q_g0
  replace q_a0 := (hB.cell (show (⟨w.heap.size, 0, none⟩ : Addr).block < _ from World.block_lt_of_cell? _ _ q_a0)).trans q_a0
  replace q_a1 := (hB.cell (show (⟨w.heap.size, 1, none⟩ : Addr).block < _ from World.block_lt_of_cell? _ _ q_a1)).trans q_a1
  replace q_a2 := (hB.cell (show (⟨w.heap.size, 2, none⟩ : Addr).block < _ from World.block_lt_of_cell? _ _ q_a2)).trans q_a2
  replace q_a3 := (hB.cell (show (⟨w.heap.size, 3, none⟩ : Addr).block < _ from World.block_lt_of_cell? _ _ q_a3)).trans q_a3
  replace q_a4 := (hB.cell (show (⟨w.heap.size, 4, none⟩ : Addr).block < _ from World.block_lt_of_cell? _ _ q_a4)).trans q_a4
  replace b_a : w.heap.size < w_9.heap.size := World.block_lt_of_cell? _ _ q_a0
  replace q_b0 := (hB.cell (show (⟨w.heap.size + 1, 0, none⟩ : Addr).block < _ from World.block_lt_of_cell? _ _ q_b0)).trans q_b0
  replace q_b1 := (hB.cell (show (⟨w.heap.size + 1, 1, none⟩ : Addr).block < _ from World.block_lt_of_cell? _ _ q_b1)).trans q_b1
  replace q_b2 := (hB.cell (show (⟨w.heap.size + 1, 2, none⟩ : Addr).block < _ from World.block_lt_of_cell? _ _ q_b2)).trans q_b2
  replace q_b3 := (hB.cell (show (⟨w.heap.size + 1, 3, none⟩ : Addr).block < _ from World.block_lt_of_cell? _ _ q_b3)).trans q_b3
  replace q_b4 := (hB.cell (show (⟨w.heap.size + 1, 4, none⟩ : Addr).block < _ from World.block_lt_of_cell? _ _ q_b4)).trans q_b4
  replace b_b : w.heap.size + 1 < w_9.heap.size := World.block_lt_of_cell? _ _ q_b0
  replace q_q0 := (hB.cell (show (⟨g_q, 0, none⟩ : Addr).block < _ from World.block_lt_of_cell? _ _ q_q0)).trans q_q0
  replace q_q1 := (hB.cell (show (⟨g_q, 1, none⟩ : Addr).block < _ from World.block_lt_of_cell? _ _ q_q1)).trans q_q1
  replace q_q2 := (hB.cell (show (⟨g_q, 2, none⟩ : Addr).block < _ from World.block_lt_of_cell? _ _ q_q2)).trans q_q2
  replace q_q3 := (hB.cell (show (⟨g_q, 3, none⟩ : Addr).block < _ from World.block_lt_of_cell? _ _ q_q3)).trans q_q3
  replace q_q4 := (hB.cell (show (⟨g_q, 4, none⟩ : Addr).block < _ from World.block_lt_of_cell? _ _ q_q4)).trans q_q4
  replace b_q : g_q < w_9.heap.size := World.block_lt_of_cell? _ _ q_q0
  replace q_y0 := (hB.cell (show (⟨w_4.heap.size, 0, none⟩ : Addr).block < _ from World.block_lt_of_cell? _ _ q_y0)).trans q_y0
  replace q_y1 := (hB.cell (show (⟨w_4.heap.size, 1, none⟩ : Addr).block < _ from World.block_lt_of_cell? _ _ q_y1)).trans q_y1
  replace q_y2 := (hB.cell (show (⟨w_4.heap.size, 2, none⟩ : Addr).block < _ from World.block_lt_of_cell? _ _ q_y2)).trans q_y2
  replace q_y3 := (hB.cell (show (⟨w_4.heap.size, 3, none⟩ : Addr).block < _ from World.block_lt_of_cell? _ _ q_y3)).trans q_y3
  replace q_y4 := (hB.cell (show (⟨w_4.heap.size, 4, none⟩ : Addr).block < _ from World.block_lt_of_cell? _ _ q_y4)).trans q_y4
  replace b_y : w_4.heap.size < w_9.heap.size := World.block_lt_of_cell? _ _ q_y0
  replace q_u0 := (hB.cell (show (⟨w_6.heap.size, 0, none⟩ : Addr).block < _ from World.block_lt_of_cell? _ _ q_u0)).trans q_u0
  replace q_u1 := (hB.cell (show (⟨w_6.heap.size, 1, none⟩ : Addr).block < _ from World.block_lt_of_cell? _ _ q_u1)).trans q_u1
  replace q_u2 := (hB.cell (show (⟨w_6.heap.size, 2, none⟩ : Addr).block < _ from World.block_lt_of_cell? _ _ q_u2)).trans q_u2
  replace q_u3 := (hB.cell (show (⟨w_6.heap.size, 3, none⟩ : Addr).block < _ from World.block_lt_of_cell? _ _ q_u3)).trans q_u3
  replace q_u4 := (hB.cell (show (⟨w_6.heap.size, 4, none⟩ : Addr).block < _ from World.block_lt_of_cell? _ _ q_u4)).trans q_u4
  replace b_u : w_6.heap.size < w_9.heap.size := World.block_lt_of_cell? _ _ q_u0
  replace Hq := Lib.hid (ownL_later Hq.out hB)
  replace Hy := Lib.hid (ownL_later Hy.out hB)
  replace Hu := Lib.hid (ownL_later Hu.out hB)
  replace Hg := Lib.hid (ownL_later Hg.out hB)
  have HS9 := Lib.hid hB.size
  replace HB := Lib.hid (HB.out.trans (hB.mono HB.out.size))
  clear hB hw
  have HSb_g := Lib.hid b_g
  go_wp2_with fail
  refine (eqPo bo_r t_r poF_of poF_of Hg.out Hq.out).mono ?_
  rintro e w_10 ⟨rfl, hg⟩
  have hB := hg.below
  replace q_a0 := (hB.cell (show (⟨w.heap.size, 0, none⟩ : Addr).block < _ from World.block_lt_of_cell? _ _ q_a0)).trans q_a0
  replace q_a1 := (hB.cell (show (⟨w.heap.size, 1, none⟩ : Addr).block < _ from World.block_lt_of_cell? _ _ q_a1)).trans q_a1
  replace q_a2 := (hB.cell (show (⟨w.heap.size, 2, none⟩ : Addr).block < _ from World.block_lt_of_cell? _ _ q_a2)).trans q_a2
  replace q_a3 := (hB.cell (show (⟨w.heap.size, 3, none⟩ : Addr).block < _ from World.block_lt_of_cell? _ _ q_a3)).trans q_a3
  replace q_a4 := (hB.cell (show (⟨w.heap.size, 4, none⟩ : Addr).block < _ from World.block_lt_of_cell? _ _ q_a4)).trans q_a4
  replace b_a : w.heap.size < w_10.heap.size := World.block_lt_of_cell? _ _ q_a0
  replace q_b0 := (hB.cell (show (⟨w.heap.size + 1, 0, none⟩ : Addr).block < _ from World.block_lt_of_cell? _ _ q_b0)).trans q_b0
  replace q_b1 := (hB.cell (show (⟨w.heap.size + 1, 1, none⟩ : Addr).block < _ from World.block_lt_of_cell? _ _ q_b1)).trans q_b1
  replace q_b2 := (hB.cell (show (⟨w.heap.size + 1, 2, none⟩ : Addr).block < _ from World.block_lt_of_cell? _ _ q_b2)).trans q_b2
  replace q_b3 := (hB.cell (show (⟨w.heap.size + 1, 3, none⟩ : Addr).block < _ from World.block_lt_of_cell? _ _ q_b3)).trans q_b3
  replace q_b4 := (hB.cell (show (⟨w.heap.size + 1, 4, none⟩ : Addr).block < _ from World.block_lt_of_cell? _ _ q_b4)).trans q_b4
  replace b_b : w.heap.size + 1 < w_10.heap.size := World.block_lt_of_cell? _ _ q_b0
  replace q_q0 := (hB.cell (show (⟨g_q, 0, none⟩ : Addr).block < _ from World.block_lt_of_cell? _ _ q_q0)).trans q_q0
  replace q_q1 := (hB.cell (show (⟨g_q, 1, none⟩ : Addr).block < _ from World.block_lt_of_cell? _ _ q_q1)).trans q_q1
  replace q_q2 := (hB.cell (show (⟨g_q, 2, none⟩ : Addr).block < _ from World.block_lt_of_cell? _ _ q_q2)).trans q_q2
  replace q_q3 := (hB.cell (show (⟨g_q, 3, none⟩ : Addr).block < _ from World.block_lt_of_cell? _ _ q_q3)).trans q_q3
  replace q_q4 := (hB.cell (show (⟨g_q, 4, none⟩ : Addr).block < _ from World.block_lt_of_cell? _ _ q_q4)).trans q_q4
  replace b_q : g_q < w_10.heap.size := World.block_lt_of_cell? _ _ q_q0
  replace q_y0 := (hB.cell (show (⟨w_4.heap.size, 0, none⟩ : Addr).block < _ from World.block_lt_of_cell? _ _ q_y0)).trans q_y0
  replace q_y1 := (hB.cell (show (⟨w_4.heap.size, 1, none⟩ : Addr).block < _ from World.block_lt_of_cell? _ _ q_y1)).trans q_y1
  replace q_y2 := (hB.cell (show (⟨w_4.heap.size, 2, none⟩ : Addr).block < _ from World.block_lt_of_cell? _ _ q_y2)).trans q_y2
  replace q_y3 := (hB.cell (show (⟨w_4.heap.size, 3, none⟩ : Addr).block < _ from World.block_lt_of_cell? _ _ q_y3)).trans q_y3
  replace q_y4 := (hB.cell (show (⟨w_4.heap.size, 4, none⟩ : Addr).block < _ from World.block_lt_of_cell? _ _ q_y4)).trans q_y4
  replace b_y : w_4.heap.size < w_10.heap.size := World.block_lt_of_cell? _ _ q_y0
  replace q_u0 := (hB.cell (show (⟨w_6.heap.size, 0, none⟩ : Addr).block < _ from World.block_lt_of_cell? _ _ q_u0)).trans q_u0
  replace q_u1 := (hB.cell (show (⟨w_6.heap.size, 1, none⟩ : Addr).block < _ from World.block_lt_of_cell? _ _ q_u1)).trans q_u1
  replace q_u2 := (hB.cell (show (⟨w_6.heap.size, 2, none⟩ : Addr).block < _ from World.block_lt_of_cell? _ _ q_u2)).trans q_u2
  replace q_u3 := (hB.cell (show (⟨w_6.heap.size, 3, none⟩ : Addr).block < _ from World.block_lt_of_cell? _ _ q_u3)).trans q_u3
  replace q_u4 := (hB.cell (show (⟨w_6.heap.size, 4, none⟩ : Addr).block < _ from World.block_lt_of_cell? _ _ q_u4)).trans q_u4
  replace b_u : w_6.heap.size < w_10.heap.size := World.block_lt_of_cell? _ _ q_u0
  replace q_g0 := (hB.cell (show (⟨w_8.heap.size, 0, none⟩ : Addr).block < _ from World.block_lt_of_cell? _ _ q_g0)).trans q_g0
  replace q_g1 := (hB.cell (show (⟨w_8.heap.size, 1, none⟩ : Addr).block < _ from World.block_lt_of_cell? _ _ q_g1)).trans q_g1
  replace q_g2 := (hB.cell (show (⟨w_8.heap.size, 2, none⟩ : Addr).block < _ from World.block_lt_of_cell? _ _ q_g2)).trans q_g2
  replace q_g3 := (hB.cell (show (⟨w_8.heap.size, 3, none⟩ : Addr).block < _ from World.block_lt_of_cell? _ _ q_g3)).trans q_g3
  replace q_g4 := (hB.cell (show (⟨w_8.heap.size, 4, none⟩ : Addr).block < _ from World.block_lt_of_cell? _ _ q_g4)).trans q_g4
  replace b_g : w_8.heap.size < w_10.heap.size := World.block_lt_of_cell? _ _ q_g0
  replace Hq := Lib.hid (ownL_later Hq.out hB)
  replace Hy := Lib.hid (ownL_later Hy.out hB)
  replace Hu := Lib.hid (ownL_later Hu.out hB)
  replace Hg := Lib.hid (ownL_later Hg.out hB)
  have HS10 := Lib.hid hB.size
  replace HB := Lib.hid (HB.out.trans (hB.mono HB.out.size))
  clear hB hg
  go_upto_region 14 with (fail)
  go_cut [44] from 40 to 44 (fun c wx => c = .bool false ∧ Below w_10.heap.size w_10 wx)
  case first =>
    have hread1 := (((HR1_a.out.below HB.out (Nat.le_refl _)).mono HB.out.size)).grw (Nat.le_refl _) (Grw.refl _).drew
    have hread2 := (((HR2_a.out.below HB.out (Nat.le_refl _)).mono HB.out.size)).grw (Nat.le_refl _) (Grw.refl _).drew
    have hread3 := (((HR3_a.out.below HB.out (Nat.le_refl _)).mono HB.out.size)).grw (Nat.le_refl _) (Grw.refl _).drew
    go_region_with (first | (go_at_call 11; refine (toP_any bo_a t_a ?_ ?_ ?_ HW1_a.out HW2_a.out HW3_a.out).mono ?_; (exact hread1); (exact hread2); (exact hread3); rintro e w_A ⟨y1_w, y2_w, y3_w, xa_w, xn_w, xc_w, ya_w, yn_w, yc_w, za_w, zn_w, zc_w, rfl, hf_w, ho_w, hn_w, hb_w⟩; have hO := ownL_later Hy.out (below_undrew hb_w); have hsA := (below_undrew hb_w).size; (first | have qA_a0 := (hb_w.cell (p := ⟨w.heap.size, 0, none⟩) b_a).trans q_a0 | skip); (first | have qA_a1 := (hb_w.cell (p := ⟨w.heap.size, 1, none⟩) b_a).trans q_a1 | skip); (first | have qA_a2 := (hb_w.cell (p := ⟨w.heap.size, 2, none⟩) b_a).trans q_a2 | skip); (first | have qA_a3 := (hb_w.cell (p := ⟨w.heap.size, 3, none⟩) b_a).trans q_a3 | skip); (first | have qA_a4 := (hb_w.cell (p := ⟨w.heap.size, 4, none⟩) b_a).trans q_a4 | skip); (first | have qA_b0 := (hb_w.cell (p := ⟨w.heap.size + 1, 0, none⟩) b_b).trans q_b0 | skip); (first | have qA_b1 := (hb_w.cell (p := ⟨w.heap.size + 1, 1, none⟩) b_b).trans q_b1 | skip); (first | have qA_b2 := (hb_w.cell (p := ⟨w.heap.size + 1, 2, none⟩) b_b).trans q_b2 | skip); (first | have qA_b3 := (hb_w.cell (p := ⟨w.heap.size + 1, 3, none⟩) b_b).trans q_b3 | skip); (first | have qA_b4 := (hb_w.cell (p := ⟨w.heap.size + 1, 4, none⟩) b_b).trans q_b4 | skip); (first | have qA_q0 := (hb_w.cell (p := ⟨g_q, 0, none⟩) b_q).trans q_q0 | skip); (first | have qA_q1 := (hb_w.cell (p := ⟨g_q, 1, none⟩) b_q).trans q_q1 | skip); (first | have qA_q2 := (hb_w.cell (p := ⟨g_q, 2, none⟩) b_q).trans q_q2 | skip); (first | have qA_q3 := (hb_w.cell (p := ⟨g_q, 3, none⟩) b_q).trans q_q3 | skip); (first | have qA_q4 := (hb_w.cell (p := ⟨g_q, 4, none⟩) b_q).trans q_q4 | skip); (first | have qA_y0 := (hb_w.cell (p := ⟨w_4.heap.size, 0, none⟩) b_y).trans q_y0 | skip); (first | have qA_y1 := (hb_w.cell (p := ⟨w_4.heap.size, 1, none⟩) b_y).trans q_y1 | skip); (first | have qA_y2 := (hb_w.cell (p := ⟨w_4.heap.size, 2, none⟩) b_y).trans q_y2 | skip); (first | have qA_y3 := (hb_w.cell (p := ⟨w_4.heap.size, 3, none⟩) b_y).trans q_y3 | skip); (first | have qA_y4 := (hb_w.cell (p := ⟨w_4.heap.size, 4, none⟩) b_y).trans q_y4 | skip); (first | have qA_u0 := (hb_w.cell (p := ⟨w_6.heap.size, 0, none⟩) b_u).trans q_u0 | skip); (first | have qA_u1 := (hb_w.cell (p := ⟨w_6.heap.size, 1, none⟩) b_u).trans q_u1 | skip); (first | have qA_u2 := (hb_w.cell (p := ⟨w_6.heap.size, 2, none⟩) b_u).trans q_u2 | skip); (first | have qA_u3 := (hb_w.cell (p := ⟨w_6.heap.size, 3, none⟩) b_u).trans q_u3 | skip); (first | have qA_u4 := (hb_w.cell (p := ⟨w_6.heap.size, 4, none⟩) b_u).trans q_u4 | skip); (first | have qA_g0 := (hb_w.cell (p := ⟨w_8.heap.size, 0, none⟩) b_g).trans q_g0 | skip); (first | have qA_g1 := (hb_w.cell (p := ⟨w_8.heap.size, 1, none⟩) b_g).trans q_g1 | skip); (first | have qA_g2 := (hb_w.cell (p := ⟨w_8.heap.size, 2, none⟩) b_g).trans q_g2 | skip); (first | have qA_g3 := (hb_w.cell (p := ⟨w_8.heap.size, 3, none⟩) b_g).trans q_g3 | skip); (first | have qA_g4 := (hb_w.cell (p := ⟨w_8.heap.size, 4, none⟩) b_g).trans q_g4 | skip)) | (go_at_call 13; refine (eqPo bo_a t_a HF_y.out hf_w hO ho_w).mono ?_; rintro e w_C ⟨rfl, hgC⟩))
    all_goals
      have hB := (below_undrew hb_w).trans (hgC.below.mono hsA)
      go_wp2_with fail
      go_meet
      exact ⟨rfl, hB⟩
  obtain ⟨rfl, hB⟩ := hcut
  rename World => w_11
  replace q_a0 := (hB.cell (show (⟨w.heap.size, 0, none⟩ : Addr).block < _ from World.block_lt_of_cell? _ _ q_a0)).trans q_a0
  replace q_a1 := (hB.cell (show (⟨w.heap.size, 1, none⟩ : Addr).block < _ from World.block_lt_of_cell? _ _ q_a1)).trans q_a1
  replace q_a2 := (hB.cell (show (⟨w.heap.size, 2, none⟩ : Addr).block < _ from World.block_lt_of_cell? _ _ q_a2)).trans q_a2
  replace q_a3 := (hB.cell (show (⟨w.heap.size, 3, none⟩ : Addr).block < _ from World.block_lt_of_cell? _ _ q_a3)).trans q_a3
  replace q_a4 := (hB.cell (show (⟨w.heap.size, 4, none⟩ : Addr).block < _ from World.block_lt_of_cell? _ _ q_a4)).trans q_a4
  replace b_a : w.heap.size < w_11.heap.size := World.block_lt_of_cell? _ _ q_a0
  replace q_b0 := (hB.cell (show (⟨w.heap.size + 1, 0, none⟩ : Addr).block < _ from World.block_lt_of_cell? _ _ q_b0)).trans q_b0
  replace q_b1 := (hB.cell (show (⟨w.heap.size + 1, 1, none⟩ : Addr).block < _ from World.block_lt_of_cell? _ _ q_b1)).trans q_b1
  replace q_b2 := (hB.cell (show (⟨w.heap.size + 1, 2, none⟩ : Addr).block < _ from World.block_lt_of_cell? _ _ q_b2)).trans q_b2
  replace q_b3 := (hB.cell (show (⟨w.heap.size + 1, 3, none⟩ : Addr).block < _ from World.block_lt_of_cell? _ _ q_b3)).trans q_b3
  replace q_b4 := (hB.cell (show (⟨w.heap.size + 1, 4, none⟩ : Addr).block < _ from World.block_lt_of_cell? _ _ q_b4)).trans q_b4
  replace b_b : w.heap.size + 1 < w_11.heap.size := World.block_lt_of_cell? _ _ q_b0
  replace q_q0 := (hB.cell (show (⟨g_q, 0, none⟩ : Addr).block < _ from World.block_lt_of_cell? _ _ q_q0)).trans q_q0
  replace q_q1 := (hB.cell (show (⟨g_q, 1, none⟩ : Addr).block < _ from World.block_lt_of_cell? _ _ q_q1)).trans q_q1
  replace q_q2 := (hB.cell (show (⟨g_q, 2, none⟩ : Addr).block < _ from World.block_lt_of_cell? _ _ q_q2)).trans q_q2
  replace q_q3 := (hB.cell (show (⟨g_q, 3, none⟩ : Addr).block < _ from World.block_lt_of_cell? _ _ q_q3)).trans q_q3
  replace q_q4 := (hB.cell (show (⟨g_q, 4, none⟩ : Addr).block < _ from World.block_lt_of_cell? _ _ q_q4)).trans q_q4
  replace b_q : g_q < w_11.heap.size := World.block_lt_of_cell? _ _ q_q0
  replace q_y0 := (hB.cell (show (⟨w_4.heap.size, 0, none⟩ : Addr).block < _ from World.block_lt_of_cell? _ _ q_y0)).trans q_y0
  replace q_y1 := (hB.cell (show (⟨w_4.heap.size, 1, none⟩ : Addr).block < _ from World.block_lt_of_cell? _ _ q_y1)).trans q_y1
  replace q_y2 := (hB.cell (show (⟨w_4.heap.size, 2, none⟩ : Addr).block < _ from World.block_lt_of_cell? _ _ q_y2)).trans q_y2
  replace q_y3 := (hB.cell (show (⟨w_4.heap.size, 3, none⟩ : Addr).block < _ from World.block_lt_of_cell? _ _ q_y3)).trans q_y3
  replace q_y4 := (hB.cell (show (⟨w_4.heap.size, 4, none⟩ : Addr).block < _ from World.block_lt_of_cell? _ _ q_y4)).trans q_y4
  replace b_y : w_4.heap.size < w_11.heap.size := World.block_lt_of_cell? _ _ q_y0
  replace q_u0 := (hB.cell (show (⟨w_6.heap.size, 0, none⟩ : Addr).block < _ from World.block_lt_of_cell? _ _ q_u0)).trans q_u0
  replace q_u1 := (hB.cell (show (⟨w_6.heap.size, 1, none⟩ : Addr).block < _ from World.block_lt_of_cell? _ _ q_u1)).trans q_u1
  replace q_u2 := (hB.cell (show (⟨w_6.heap.size, 2, none⟩ : Addr).block < _ from World.block_lt_of_cell? _ _ q_u2)).trans q_u2
  replace q_u3 := (hB.cell (show (⟨w_6.heap.size, 3, none⟩ : Addr).block < _ from World.block_lt_of_cell? _ _ q_u3)).trans q_u3
  replace q_u4 := (hB.cell (show (⟨w_6.heap.size, 4, none⟩ : Addr).block < _ from World.block_lt_of_cell? _ _ q_u4)).trans q_u4
  replace b_u : w_6.heap.size < w_11.heap.size := World.block_lt_of_cell? _ _ q_u0
  replace q_g0 := (hB.cell (show (⟨w_8.heap.size, 0, none⟩ : Addr).block < _ from World.block_lt_of_cell? _ _ q_g0)).trans q_g0
  replace q_g1 := (hB.cell (show (⟨w_8.heap.size, 1, none⟩ : Addr).block < _ from World.block_lt_of_cell? _ _ q_g1)).trans q_g1
  replace q_g2 := (hB.cell (show (⟨w_8.heap.size, 2, none⟩ : Addr).block < _ from World.block_lt_of_cell? _ _ q_g2)).trans q_g2
  replace q_g3 := (hB.cell (show (⟨w_8.heap.size, 3, none⟩ : Addr).block < _ from World.block_lt_of_cell? _ _ q_g3)).trans q_g3
  replace q_g4 := (hB.cell (show (⟨w_8.heap.size, 4, none⟩ : Addr).block < _ from World.block_lt_of_cell? _ _ q_g4)).trans q_g4
  replace b_g : w_8.heap.size < w_11.heap.size := World.block_lt_of_cell? _ _ q_g0
  replace Hq := Lib.hid (ownL_later Hq.out hB)
  replace Hy := Lib.hid (ownL_later Hy.out hB)
  replace Hu := Lib.hid (ownL_later Hu.out hB)
  replace Hg := Lib.hid (ownL_later Hg.out hB)
  have HS11 := Lib.hid hB.size
  replace HB := Lib.hid (HB.out.trans (hB.mono HB.out.size))
  clear hB
  go_upto_region 16 with (fail)
  go_cut [49] from 45 to 49 (fun c wx => c = .bool false ∧ Below w_11.heap.size w_11 wx)
  case first =>
    have hread1 := (((HR1_b.out.below HB.out (Nat.le_refl _)).mono HB.out.size)).grw (Nat.le_refl _) (Grw.refl _).drew
    have hread2 := (((HR2_b.out.below HB.out (Nat.le_refl _)).mono HB.out.size)).grw (Nat.le_refl _) (Grw.refl _).drew
    have hread3 := (((HR3_b.out.below HB.out (Nat.le_refl _)).mono HB.out.size)).grw (Nat.le_refl _) (Grw.refl _).drew
    go_region_with (first | (go_at_call 11; refine (toP_any bo_b t_b ?_ ?_ ?_ HW1_b.out HW2_b.out HW3_b.out).mono ?_; (exact hread1); (exact hread2); (exact hread3); rintro e w_A ⟨y1_w, y2_w, y3_w, xa_w, xn_w, xc_w, ya_w, yn_w, yc_w, za_w, zn_w, zc_w, rfl, hf_w, ho_w, hn_w, hb_w⟩; have hO := ownL_later Hu.out (below_undrew hb_w); have hsA := (below_undrew hb_w).size; (first | have qA_a0 := (hb_w.cell (p := ⟨w.heap.size, 0, none⟩) b_a).trans q_a0 | skip); (first | have qA_a1 := (hb_w.cell (p := ⟨w.heap.size, 1, none⟩) b_a).trans q_a1 | skip); (first | have qA_a2 := (hb_w.cell (p := ⟨w.heap.size, 2, none⟩) b_a).trans q_a2 | skip); (first | have qA_a3 := (hb_w.cell (p := ⟨w.heap.size, 3, none⟩) b_a).trans q_a3 | skip); (first | have qA_a4 := (hb_w.cell (p := ⟨w.heap.size, 4, none⟩) b_a).trans q_a4 | skip); (first | have qA_b0 := (hb_w.cell (p := ⟨w.heap.size + 1, 0, none⟩) b_b).trans q_b0 | skip); (first | have qA_b1 := (hb_w.cell (p := ⟨w.heap.size + 1, 1, none⟩) b_b).trans q_b1 | skip); (first | have qA_b2 := (hb_w.cell (p := ⟨w.heap.size + 1, 2, none⟩) b_b).trans q_b2 | skip); (first | have qA_b3 := (hb_w.cell (p := ⟨w.heap.size + 1, 3, none⟩) b_b).trans q_b3 | skip); (first | have qA_b4 := (hb_w.cell (p := ⟨w.heap.size + 1, 4, none⟩) b_b).trans q_b4 | skip); (first | have qA_q0 := (hb_w.cell (p := ⟨g_q, 0, none⟩) b_q).trans q_q0 | skip); (first | have qA_q1 := (hb_w.cell (p := ⟨g_q, 1, none⟩) b_q).trans q_q1 | skip); (first | have qA_q2 := (hb_w.cell (p := ⟨g_q, 2, none⟩) b_q).trans q_q2 | skip); (first | have qA_q3 := (hb_w.cell (p := ⟨g_q, 3, none⟩) b_q).trans q_q3 | skip); (first | have qA_q4 := (hb_w.cell (p := ⟨g_q, 4, none⟩) b_q).trans q_q4 | skip); (first | have qA_y0 := (hb_w.cell (p := ⟨w_4.heap.size, 0, none⟩) b_y).trans q_y0 | skip); (first | have qA_y1 := (hb_w.cell (p := ⟨w_4.heap.size, 1, none⟩) b_y).trans q_y1 | skip); (first | have qA_y2 := (hb_w.cell (p := ⟨w_4.heap.size, 2, none⟩) b_y).trans q_y2 | skip); (first | have qA_y3 := (hb_w.cell (p := ⟨w_4.heap.size, 3, none⟩) b_y).trans q_y3 | skip); (first | have qA_y4 := (hb_w.cell (p := ⟨w_4.heap.size, 4, none⟩) b_y).trans q_y4 | skip); (first | have qA_u0 := (hb_w.cell (p := ⟨w_6.heap.size, 0, none⟩) b_u).trans q_u0 | skip); (first | have qA_u1 := (hb_w.cell (p := ⟨w_6.heap.size, 1, none⟩) b_u).trans q_u1 | skip); (first | have qA_u2 := (hb_w.cell (p := ⟨w_6.heap.size, 2, none⟩) b_u).trans q_u2 | skip); (first | have qA_u3 := (hb_w.cell (p := ⟨w_6.heap.size, 3, none⟩) b_u).trans q_u3 | skip); (first | have qA_u4 := (hb_w.cell (p := ⟨w_6.heap.size, 4, none⟩) b_u).trans q_u4 | skip); (first | have qA_g0 := (hb_w.cell (p := ⟨w_8.heap.size, 0, none⟩) b_g).trans q_g0 | skip); (first | have qA_g1 := (hb_w.cell (p := ⟨w_8.heap.size, 1, none⟩) b_g).trans q_g1 | skip); (first | have qA_g2 := (hb_w.cell (p := ⟨w_8.heap.size, 2, none⟩) b_g).trans q_g2 | skip); (first | have qA_g3 := (hb_w.cell (p := ⟨w_8.heap.size, 3, none⟩) b_g).trans q_g3 | skip); (first | have qA_g4 := (hb_w.cell (p := ⟨w_8.heap.size, 4, none⟩) b_g).trans q_g4 | skip)) | (go_at_call 13; refine (eqPo bo_b t_b HF_u.out hf_w hO ho_w).mono ?_; rintro e w_C ⟨rfl, hgC⟩))
    all_goals
      have hB := (below_undrew hb_w).trans (hgC.below.mono hsA)
      go_wp2_with fail
      go_meet
      exact ⟨rfl, hB⟩
  obtain ⟨rfl, hB⟩ := hcut
  rename World => w_12
  replace q_a0 := (hB.cell (show (⟨w.heap.size, 0, none⟩ : Addr).block < _ from World.block_lt_of_cell? _ _ q_a0)).trans q_a0
  replace q_a1 := (hB.cell (show (⟨w.heap.size, 1, none⟩ : Addr).block < _ from World.block_lt_of_cell? _ _ q_a1)).trans q_a1
  replace q_a2 := (hB.cell (show (⟨w.heap.size, 2, none⟩ : Addr).block < _ from World.block_lt_of_cell? _ _ q_a2)).trans q_a2
  replace q_a3 := (hB.cell (show (⟨w.heap.size, 3, none⟩ : Addr).block < _ from World.block_lt_of_cell? _ _ q_a3)).trans q_a3
  replace q_a4 := (hB.cell (show (⟨w.heap.size, 4, none⟩ : Addr).block < _ from World.block_lt_of_cell? _ _ q_a4)).trans q_a4
  replace b_a : w.heap.size < w_12.heap.size := World.block_lt_of_cell? _ _ q_a0
  replace q_b0 := (hB.cell (show (⟨w.heap.size + 1, 0, none⟩ : Addr).block < _ from World.block_lt_of_cell? _ _ q_b0)).trans q_b0
  replace q_b1 := (hB.cell (show (⟨w.heap.size + 1, 1, none⟩ : Addr).block < _ from World.block_lt_of_cell? _ _ q_b1)).trans q_b1
  replace q_b2 := (hB.cell (show (⟨w.heap.size + 1, 2, none⟩ : Addr).block < _ from World.block_lt_of_cell? _ _ q_b2)).trans q_b2
  replace q_b3 := (hB.cell (show (⟨w.heap.size + 1, 3, none⟩ : Addr).block < _ from World.block_lt_of_cell? _ _ q_b3)).trans q_b3
  replace q_b4 := (hB.cell (show (⟨w.heap.size + 1, 4, none⟩ : Addr).block < _ from World.block_lt_of_cell? _ _ q_b4)).trans q_b4
  replace b_b : w.heap.size + 1 < w_12.heap.size := World.block_lt_of_cell? _ _ q_b0
  replace q_q0 := (hB.cell (show (⟨g_q, 0, none⟩ : Addr).block < _ from World.block_lt_of_cell? _ _ q_q0)).trans q_q0
  replace q_q1 := (hB.cell (show (⟨g_q, 1, none⟩ : Addr).block < _ from World.block_lt_of_cell? _ _ q_q1)).trans q_q1
  replace q_q2 := (hB.cell (show (⟨g_q, 2, none⟩ : Addr).block < _ from World.block_lt_of_cell? _ _ q_q2)).trans q_q2
  replace q_q3 := (hB.cell (show (⟨g_q, 3, none⟩ : Addr).block < _ from World.block_lt_of_cell? _ _ q_q3)).trans q_q3
  replace q_q4 := (hB.cell (show (⟨g_q, 4, none⟩ : Addr).block < _ from World.block_lt_of_cell? _ _ q_q4)).trans q_q4
  replace b_q : g_q < w_12.heap.size := World.block_lt_of_cell? _ _ q_q0
  replace q_y0 := (hB.cell (show (⟨w_4.heap.size, 0, none⟩ : Addr).block < _ from World.block_lt_of_cell? _ _ q_y0)).trans q_y0
  replace q_y1 := (hB.cell (show (⟨w_4.heap.size, 1, none⟩ : Addr).block < _ from World.block_lt_of_cell? _ _ q_y1)).trans q_y1
  replace q_y2 := (hB.cell (show (⟨w_4.heap.size, 2, none⟩ : Addr).block < _ from World.block_lt_of_cell? _ _ q_y2)).trans q_y2
  replace q_y3 := (hB.cell (show (⟨w_4.heap.size, 3, none⟩ : Addr).block < _ from World.block_lt_of_cell? _ _ q_y3)).trans q_y3
  replace q_y4 := (hB.cell (show (⟨w_4.heap.size, 4, none⟩ : Addr).block < _ from World.block_lt_of_cell? _ _ q_y4)).trans q_y4
  replace b_y : w_4.heap.size < w_12.heap.size := World.block_lt_of_cell? _ _ q_y0
  replace q_u0 := (hB.cell (show (⟨w_6.heap.size, 0, none⟩ : Addr).block < _ from World.block_lt_of_cell? _ _ q_u0)).trans q_u0
  replace q_u1 := (hB.cell (show (⟨w_6.heap.size, 1, none⟩ : Addr).block < _ from World.block_lt_of_cell? _ _ q_u1)).trans q_u1
  replace q_u2 := (hB.cell (show (⟨w_6.heap.size, 2, none⟩ : Addr).block < _ from World.block_lt_of_cell? _ _ q_u2)).trans q_u2
  replace q_u3 := (hB.cell (show (⟨w_6.heap.size, 3, none⟩ : Addr).block < _ from World.block_lt_of_cell? _ _ q_u3)).trans q_u3
  replace q_u4 := (hB.cell (show (⟨w_6.heap.size, 4, none⟩ : Addr).block < _ from World.block_lt_of_cell? _ _ q_u4)).trans q_u4
  replace b_u : w_6.heap.size < w_12.heap.size := World.block_lt_of_cell? _ _ q_u0
  replace q_g0 := (hB.cell (show (⟨w_8.heap.size, 0, none⟩ : Addr).block < _ from World.block_lt_of_cell? _ _ q_g0)).trans q_g0
  replace q_g1 := (hB.cell (show (⟨w_8.heap.size, 1, none⟩ : Addr).block < _ from World.block_lt_of_cell? _ _ q_g1)).trans q_g1
  replace q_g2 := (hB.cell (show (⟨w_8.heap.size, 2, none⟩ : Addr).block < _ from World.block_lt_of_cell? _ _ q_g2)).trans q_g2
  replace q_g3 := (hB.cell (show (⟨w_8.heap.size, 3, none⟩ : Addr).block < _ from World.block_lt_of_cell? _ _ q_g3)).trans q_g3
  replace q_g4 := (hB.cell (show (⟨w_8.heap.size, 4, none⟩ : Addr).block < _ from World.block_lt_of_cell? _ _ q_g4)).trans q_g4
  replace b_g : w_8.heap.size < w_12.heap.size := World.block_lt_of_cell? _ _ q_g0
  replace Hq := Lib.hid (ownL_later Hq.out hB)
  replace Hy := Lib.hid (ownL_later Hy.out hB)
  replace Hu := Lib.hid (ownL_later Hu.out hB)
  replace Hg := Lib.hid (ownL_later Hg.out hB)
  have HS12 := Lib.hid hB.size
  replace HB := Lib.hid (HB.out.trans (hB.mono HB.out.size))
  clear hB
  have HCN_y := Lib.hid (show countL [y1_y, y2_y, y3_y] ≤ 3145728 by
    obtain ⟨p1, p2, p3, _⟩ := HPS_a.out; have h1 := count_dataN _ _ HF_y.out.d1; have h2 := count_dataN _ _ HF_y.out.d2; have h3 := count_dataN _ _ HF_y.out.d3
    rw [rwSs_count] at h1 h2 h3; (try simp only at p1 p2 p3); rw [countL, countL, countL, countL]; omega)
  have HCN_u := Lib.hid (show countL [y1_u, y2_u, y3_u] ≤ 3145728 by
    obtain ⟨p1, p2, p3, _⟩ := HPS_b.out; have h1 := count_dataN _ _ HF_u.out.d1; have h2 := count_dataN _ _ HF_u.out.d2; have h3 := count_dataN _ _ HF_u.out.d3
    rw [rwSs_count] at h1 h2 h3; (try simp only at p1 p2 p3); rw [countL, countL, countL, countL]; omega)
  have HCT_y := Lib.hid (show 1 + countL [y1_y, y2_y, y3_y] ≤ 4611686018427387904 by have h := HCN_y.out; omega)
  have NOB_a_y := Lib.hid (show w.heap.size ∉ _ from fun hb => by have hh := ownL_lt Hy.out _ hb; have := HS0.out; have := HS1.out; have := HS2.out; have := HS3.out; have := HSb_q.out; have := HSc_q.out; have := HS4.out; have := HS5.out; have := HSb_y.out; have := HS6.out; have := HS7.out; have := HSb_u.out; have := HS8.out; have := HS9.out; have := HSb_g.out; have := HS10.out; have := HS11.out; have := HS12.out; omega)
  have NOB_b_y := Lib.hid (show w.heap.size + 1 ∉ _ from fun hb => by have hh := ownL_lt Hy.out _ hb; have := HS0.out; have := HS1.out; have := HS2.out; have := HS3.out; have := HSb_q.out; have := HSc_q.out; have := HS4.out; have := HS5.out; have := HSb_y.out; have := HS6.out; have := HS7.out; have := HSb_u.out; have := HS8.out; have := HS9.out; have := HSb_g.out; have := HS10.out; have := HS11.out; have := HS12.out; omega)
  have NOB_q_y := Lib.hid (show g_q ∉ _ from fun hb => by have hh := ownL_lt Hy.out _ hb; have := HS0.out; have := HS1.out; have := HS2.out; have := HS3.out; have := HSb_q.out; have := HSc_q.out; have := HS4.out; have := HS5.out; have := HSb_y.out; have := HS6.out; have := HS7.out; have := HSb_u.out; have := HS8.out; have := HS9.out; have := HSb_g.out; have := HS10.out; have := HS11.out; have := HS12.out; omega)
  have NOB_y_y := Lib.hid (show w_4.heap.size ∉ _ from fun hb => by have hh := ownL_lt Hy.out _ hb; have := HS0.out; have := HS1.out; have := HS2.out; have := HS3.out; have := HSb_q.out; have := HSc_q.out; have := HS4.out; have := HS5.out; have := HSb_y.out; have := HS6.out; have := HS7.out; have := HSb_u.out; have := HS8.out; have := HS9.out; have := HSb_g.out; have := HS10.out; have := HS11.out; have := HS12.out; omega)
  have NOB_u_y := Lib.hid (show w_6.heap.size ∉ _ from fun hb => by have hh := ownL_lt Hy.out _ hb; have := HS0.out; have := HS1.out; have := HS2.out; have := HS3.out; have := HSb_q.out; have := HSc_q.out; have := HS4.out; have := HS5.out; have := HSb_y.out; have := HS6.out; have := HS7.out; have := HSb_u.out; have := HS8.out; have := HS9.out; have := HSb_g.out; have := HS10.out; have := HS11.out; have := HS12.out; omega)
  have NOB_g_y := Lib.hid (show w_8.heap.size ∉ _ from fun hb => by have hh := ownL_lt Hy.out _ hb; have := HS0.out; have := HS1.out; have := HS2.out; have := HS3.out; have := HSb_q.out; have := HSc_q.out; have := HS4.out; have := HS5.out; have := HSb_y.out; have := HS6.out; have := HS7.out; have := HSb_u.out; have := HS8.out; have := HS9.out; have := HSb_g.out; have := HS10.out; have := HS11.out; have := HS12.out; omega)
  go_wp2_with fail
  refine (mkPo bo_a t_a HF_y.out _ _ 1 _ rfl _ Hy.out HN_y.out HCT_y.out).mono ?_
  rintro e w_13 ⟨rfl, hmk, hon⟩
  replace q_a0 := (cell_only (a := ⟨w.heap.size, 0, none⟩) hon (show w.heap.size ∉ _ from fun hb => NOB_a_y.out hb) (World.block_lt_of_cell? _ _ q_a0)).trans q_a0
  replace q_a1 := (cell_only (a := ⟨w.heap.size, 1, none⟩) hon (show w.heap.size ∉ _ from fun hb => NOB_a_y.out hb) (World.block_lt_of_cell? _ _ q_a1)).trans q_a1
  replace q_a2 := (cell_only (a := ⟨w.heap.size, 2, none⟩) hon (show w.heap.size ∉ _ from fun hb => NOB_a_y.out hb) (World.block_lt_of_cell? _ _ q_a2)).trans q_a2
  replace q_a3 := (cell_only (a := ⟨w.heap.size, 3, none⟩) hon (show w.heap.size ∉ _ from fun hb => NOB_a_y.out hb) (World.block_lt_of_cell? _ _ q_a3)).trans q_a3
  replace q_a4 := (cell_only (a := ⟨w.heap.size, 4, none⟩) hon (show w.heap.size ∉ _ from fun hb => NOB_a_y.out hb) (World.block_lt_of_cell? _ _ q_a4)).trans q_a4
  replace b_a : w.heap.size < w_13.heap.size := World.block_lt_of_cell? _ _ q_a0
  replace q_b0 := (cell_only (a := ⟨w.heap.size + 1, 0, none⟩) hon (show w.heap.size + 1 ∉ _ from fun hb => NOB_b_y.out hb) (World.block_lt_of_cell? _ _ q_b0)).trans q_b0
  replace q_b1 := (cell_only (a := ⟨w.heap.size + 1, 1, none⟩) hon (show w.heap.size + 1 ∉ _ from fun hb => NOB_b_y.out hb) (World.block_lt_of_cell? _ _ q_b1)).trans q_b1
  replace q_b2 := (cell_only (a := ⟨w.heap.size + 1, 2, none⟩) hon (show w.heap.size + 1 ∉ _ from fun hb => NOB_b_y.out hb) (World.block_lt_of_cell? _ _ q_b2)).trans q_b2
  replace q_b3 := (cell_only (a := ⟨w.heap.size + 1, 3, none⟩) hon (show w.heap.size + 1 ∉ _ from fun hb => NOB_b_y.out hb) (World.block_lt_of_cell? _ _ q_b3)).trans q_b3
  replace q_b4 := (cell_only (a := ⟨w.heap.size + 1, 4, none⟩) hon (show w.heap.size + 1 ∉ _ from fun hb => NOB_b_y.out hb) (World.block_lt_of_cell? _ _ q_b4)).trans q_b4
  replace b_b : w.heap.size + 1 < w_13.heap.size := World.block_lt_of_cell? _ _ q_b0
  replace q_q0 := (cell_only (a := ⟨g_q, 0, none⟩) hon (show g_q ∉ _ from fun hb => NOB_q_y.out hb) (World.block_lt_of_cell? _ _ q_q0)).trans q_q0
  replace q_q1 := (cell_only (a := ⟨g_q, 1, none⟩) hon (show g_q ∉ _ from fun hb => NOB_q_y.out hb) (World.block_lt_of_cell? _ _ q_q1)).trans q_q1
  replace q_q2 := (cell_only (a := ⟨g_q, 2, none⟩) hon (show g_q ∉ _ from fun hb => NOB_q_y.out hb) (World.block_lt_of_cell? _ _ q_q2)).trans q_q2
  replace q_q3 := (cell_only (a := ⟨g_q, 3, none⟩) hon (show g_q ∉ _ from fun hb => NOB_q_y.out hb) (World.block_lt_of_cell? _ _ q_q3)).trans q_q3
  replace q_q4 := (cell_only (a := ⟨g_q, 4, none⟩) hon (show g_q ∉ _ from fun hb => NOB_q_y.out hb) (World.block_lt_of_cell? _ _ q_q4)).trans q_q4
  replace b_q : g_q < w_13.heap.size := World.block_lt_of_cell? _ _ q_q0
  replace q_y0 := (cell_only (a := ⟨w_4.heap.size, 0, none⟩) hon (show w_4.heap.size ∉ _ from fun hb => NOB_y_y.out hb) (World.block_lt_of_cell? _ _ q_y0)).trans q_y0
  replace q_y1 := (cell_only (a := ⟨w_4.heap.size, 1, none⟩) hon (show w_4.heap.size ∉ _ from fun hb => NOB_y_y.out hb) (World.block_lt_of_cell? _ _ q_y1)).trans q_y1
  replace q_y2 := (cell_only (a := ⟨w_4.heap.size, 2, none⟩) hon (show w_4.heap.size ∉ _ from fun hb => NOB_y_y.out hb) (World.block_lt_of_cell? _ _ q_y2)).trans q_y2
  replace q_y3 := (cell_only (a := ⟨w_4.heap.size, 3, none⟩) hon (show w_4.heap.size ∉ _ from fun hb => NOB_y_y.out hb) (World.block_lt_of_cell? _ _ q_y3)).trans q_y3
  replace q_y4 := (cell_only (a := ⟨w_4.heap.size, 4, none⟩) hon (show w_4.heap.size ∉ _ from fun hb => NOB_y_y.out hb) (World.block_lt_of_cell? _ _ q_y4)).trans q_y4
  replace b_y : w_4.heap.size < w_13.heap.size := World.block_lt_of_cell? _ _ q_y0
  replace q_u0 := (cell_only (a := ⟨w_6.heap.size, 0, none⟩) hon (show w_6.heap.size ∉ _ from fun hb => NOB_u_y.out hb) (World.block_lt_of_cell? _ _ q_u0)).trans q_u0
  replace q_u1 := (cell_only (a := ⟨w_6.heap.size, 1, none⟩) hon (show w_6.heap.size ∉ _ from fun hb => NOB_u_y.out hb) (World.block_lt_of_cell? _ _ q_u1)).trans q_u1
  replace q_u2 := (cell_only (a := ⟨w_6.heap.size, 2, none⟩) hon (show w_6.heap.size ∉ _ from fun hb => NOB_u_y.out hb) (World.block_lt_of_cell? _ _ q_u2)).trans q_u2
  replace q_u3 := (cell_only (a := ⟨w_6.heap.size, 3, none⟩) hon (show w_6.heap.size ∉ _ from fun hb => NOB_u_y.out hb) (World.block_lt_of_cell? _ _ q_u3)).trans q_u3
  replace q_u4 := (cell_only (a := ⟨w_6.heap.size, 4, none⟩) hon (show w_6.heap.size ∉ _ from fun hb => NOB_u_y.out hb) (World.block_lt_of_cell? _ _ q_u4)).trans q_u4
  replace b_u : w_6.heap.size < w_13.heap.size := World.block_lt_of_cell? _ _ q_u0
  replace q_g0 := (cell_only (a := ⟨w_8.heap.size, 0, none⟩) hon (show w_8.heap.size ∉ _ from fun hb => NOB_g_y.out hb) (World.block_lt_of_cell? _ _ q_g0)).trans q_g0
  replace q_g1 := (cell_only (a := ⟨w_8.heap.size, 1, none⟩) hon (show w_8.heap.size ∉ _ from fun hb => NOB_g_y.out hb) (World.block_lt_of_cell? _ _ q_g1)).trans q_g1
  replace q_g2 := (cell_only (a := ⟨w_8.heap.size, 2, none⟩) hon (show w_8.heap.size ∉ _ from fun hb => NOB_g_y.out hb) (World.block_lt_of_cell? _ _ q_g2)).trans q_g2
  replace q_g3 := (cell_only (a := ⟨w_8.heap.size, 3, none⟩) hon (show w_8.heap.size ∉ _ from fun hb => NOB_g_y.out hb) (World.block_lt_of_cell? _ _ q_g3)).trans q_g3
  replace q_g4 := (cell_only (a := ⟨w_8.heap.size, 4, none⟩) hon (show w_8.heap.size ∉ _ from fun hb => NOB_g_y.out hb) (World.block_lt_of_cell? _ _ q_g4)).trans q_g4
  replace b_g : w_8.heap.size < w_13.heap.size := World.block_lt_of_cell? _ _ q_g0
  have hbk := ownL_back (lo := w.heap.size) HB.out (ownL_mono Hy.out (lo' := w.heap.size) (by have := HS0.out; have := HS1.out; have := HS2.out; have := HS3.out; have := HSb_q.out; have := HSc_q.out; have := HS4.out; have := HS5.out; have := HSb_y.out; have := HS6.out; have := HS7.out; have := HSb_u.out; have := HS8.out; have := HS9.out; have := HSb_g.out; have := HS10.out; have := HS11.out; have := HS12.out; omega) (Nat.le_refl _)) HB.out.size hon
  replace Hq := Lib.hid (ownL_apart Hq.out Hy.out (by have := HS0.out; have := HS1.out; have := HS2.out; have := HS3.out; have := HSb_q.out; have := HSc_q.out; have := HS4.out; have := HS5.out; have := HSb_y.out; have := HS6.out; have := HS7.out; have := HSb_u.out; have := HS8.out; have := HS9.out; have := HSb_g.out; have := HS10.out; have := HS11.out; have := HS12.out; omega) hon)
  replace Hu := Lib.hid (ownL_apart Hu.out Hy.out (by have := HS0.out; have := HS1.out; have := HS2.out; have := HS3.out; have := HSb_q.out; have := HSc_q.out; have := HS4.out; have := HS5.out; have := HSb_y.out; have := HS6.out; have := HS7.out; have := HSb_u.out; have := HS8.out; have := HS9.out; have := HSb_g.out; have := HS10.out; have := HS11.out; have := HS12.out; omega) hon)
  replace Hg := Lib.hid (ownL_apart Hg.out Hy.out (by have := HS0.out; have := HS1.out; have := HS2.out; have := HS3.out; have := HSb_q.out; have := HSc_q.out; have := HS4.out; have := HS5.out; have := HSb_y.out; have := HS6.out; have := HS7.out; have := HSb_u.out; have := HS8.out; have := HS9.out; have := HSb_g.out; have := HS10.out; have := HS11.out; have := HS12.out; omega) hon)
  replace Hy := Lib.hid hmk
  have HS13 := Lib.hid hon.size
  replace HB := Lib.hid hbk
  clear hbk hmk hon
  obtain ⟨m1, hm1⟩ : ∃ m, 1 + countL [y1_y, y2_y, y3_y] = m := ⟨_, rfl⟩
  have HCT_u := Lib.hid (show m1 + countL [y1_u, y2_u, y3_u] ≤ 4611686018427387904 by have h := HCN_y.out; have h2 := HCN_u.out; omega)
  rw [hm1]; clear hm1
  have NOB_a_u := Lib.hid (show w.heap.size ∉ _ from fun hb => by have hh := ownL_lt Hu.out _ hb; have := HS0.out; have := HS1.out; have := HS2.out; have := HS3.out; have := HSb_q.out; have := HSc_q.out; have := HS4.out; have := HS5.out; have := HSb_y.out; have := HS6.out; have := HS7.out; have := HSb_u.out; have := HS8.out; have := HS9.out; have := HSb_g.out; have := HS10.out; have := HS11.out; have := HS12.out; have := HS13.out; omega)
  have NOB_b_u := Lib.hid (show w.heap.size + 1 ∉ _ from fun hb => by have hh := ownL_lt Hu.out _ hb; have := HS0.out; have := HS1.out; have := HS2.out; have := HS3.out; have := HSb_q.out; have := HSc_q.out; have := HS4.out; have := HS5.out; have := HSb_y.out; have := HS6.out; have := HS7.out; have := HSb_u.out; have := HS8.out; have := HS9.out; have := HSb_g.out; have := HS10.out; have := HS11.out; have := HS12.out; have := HS13.out; omega)
  have NOB_q_u := Lib.hid (show g_q ∉ _ from fun hb => by have hh := ownL_lt Hu.out _ hb; have := HS0.out; have := HS1.out; have := HS2.out; have := HS3.out; have := HSb_q.out; have := HSc_q.out; have := HS4.out; have := HS5.out; have := HSb_y.out; have := HS6.out; have := HS7.out; have := HSb_u.out; have := HS8.out; have := HS9.out; have := HSb_g.out; have := HS10.out; have := HS11.out; have := HS12.out; have := HS13.out; omega)
  have NOB_y_u := Lib.hid (show w_4.heap.size ∉ _ from fun hb => by have hh := ownL_lt Hu.out _ hb; have := HS0.out; have := HS1.out; have := HS2.out; have := HS3.out; have := HSb_q.out; have := HSc_q.out; have := HS4.out; have := HS5.out; have := HSb_y.out; have := HS6.out; have := HS7.out; have := HSb_u.out; have := HS8.out; have := HS9.out; have := HSb_g.out; have := HS10.out; have := HS11.out; have := HS12.out; have := HS13.out; omega)
  have NOB_u_u := Lib.hid (show w_6.heap.size ∉ _ from fun hb => by have hh := ownL_lt Hu.out _ hb; have := HS0.out; have := HS1.out; have := HS2.out; have := HS3.out; have := HSb_q.out; have := HSc_q.out; have := HS4.out; have := HS5.out; have := HSb_y.out; have := HS6.out; have := HS7.out; have := HSb_u.out; have := HS8.out; have := HS9.out; have := HSb_g.out; have := HS10.out; have := HS11.out; have := HS12.out; have := HS13.out; omega)
  have NOB_g_u := Lib.hid (show w_8.heap.size ∉ _ from fun hb => by have hh := ownL_lt Hu.out _ hb; have := HS0.out; have := HS1.out; have := HS2.out; have := HS3.out; have := HSb_q.out; have := HSc_q.out; have := HS4.out; have := HS5.out; have := HSb_y.out; have := HS6.out; have := HS7.out; have := HSb_u.out; have := HS8.out; have := HS9.out; have := HSb_g.out; have := HS10.out; have := HS11.out; have := HS12.out; have := HS13.out; omega)
  go_wp2_with fail
  refine (mkPo bo_b t_b HF_u.out _ _ m1 _ rfl _ Hu.out HN_u.out HCT_u.out).mono ?_
  rintro e w_14 ⟨rfl, hmk, hon⟩
  replace q_a0 := (cell_only (a := ⟨w.heap.size, 0, none⟩) hon (show w.heap.size ∉ _ from fun hb => NOB_a_u.out hb) (World.block_lt_of_cell? _ _ q_a0)).trans q_a0
  replace q_a1 := (cell_only (a := ⟨w.heap.size, 1, none⟩) hon (show w.heap.size ∉ _ from fun hb => NOB_a_u.out hb) (World.block_lt_of_cell? _ _ q_a1)).trans q_a1
  replace q_a2 := (cell_only (a := ⟨w.heap.size, 2, none⟩) hon (show w.heap.size ∉ _ from fun hb => NOB_a_u.out hb) (World.block_lt_of_cell? _ _ q_a2)).trans q_a2
  replace q_a3 := (cell_only (a := ⟨w.heap.size, 3, none⟩) hon (show w.heap.size ∉ _ from fun hb => NOB_a_u.out hb) (World.block_lt_of_cell? _ _ q_a3)).trans q_a3
  replace q_a4 := (cell_only (a := ⟨w.heap.size, 4, none⟩) hon (show w.heap.size ∉ _ from fun hb => NOB_a_u.out hb) (World.block_lt_of_cell? _ _ q_a4)).trans q_a4
  replace b_a : w.heap.size < w_14.heap.size := World.block_lt_of_cell? _ _ q_a0
  replace q_b0 := (cell_only (a := ⟨w.heap.size + 1, 0, none⟩) hon (show w.heap.size + 1 ∉ _ from fun hb => NOB_b_u.out hb) (World.block_lt_of_cell? _ _ q_b0)).trans q_b0
  replace q_b1 := (cell_only (a := ⟨w.heap.size + 1, 1, none⟩) hon (show w.heap.size + 1 ∉ _ from fun hb => NOB_b_u.out hb) (World.block_lt_of_cell? _ _ q_b1)).trans q_b1
  replace q_b2 := (cell_only (a := ⟨w.heap.size + 1, 2, none⟩) hon (show w.heap.size + 1 ∉ _ from fun hb => NOB_b_u.out hb) (World.block_lt_of_cell? _ _ q_b2)).trans q_b2
  replace q_b3 := (cell_only (a := ⟨w.heap.size + 1, 3, none⟩) hon (show w.heap.size + 1 ∉ _ from fun hb => NOB_b_u.out hb) (World.block_lt_of_cell? _ _ q_b3)).trans q_b3
  replace q_b4 := (cell_only (a := ⟨w.heap.size + 1, 4, none⟩) hon (show w.heap.size + 1 ∉ _ from fun hb => NOB_b_u.out hb) (World.block_lt_of_cell? _ _ q_b4)).trans q_b4
  replace b_b : w.heap.size + 1 < w_14.heap.size := World.block_lt_of_cell? _ _ q_b0
  replace q_q0 := (cell_only (a := ⟨g_q, 0, none⟩) hon (show g_q ∉ _ from fun hb => NOB_q_u.out hb) (World.block_lt_of_cell? _ _ q_q0)).trans q_q0
  replace q_q1 := (cell_only (a := ⟨g_q, 1, none⟩) hon (show g_q ∉ _ from fun hb => NOB_q_u.out hb) (World.block_lt_of_cell? _ _ q_q1)).trans q_q1
  replace q_q2 := (cell_only (a := ⟨g_q, 2, none⟩) hon (show g_q ∉ _ from fun hb => NOB_q_u.out hb) (World.block_lt_of_cell? _ _ q_q2)).trans q_q2
  replace q_q3 := (cell_only (a := ⟨g_q, 3, none⟩) hon (show g_q ∉ _ from fun hb => NOB_q_u.out hb) (World.block_lt_of_cell? _ _ q_q3)).trans q_q3
  replace q_q4 := (cell_only (a := ⟨g_q, 4, none⟩) hon (show g_q ∉ _ from fun hb => NOB_q_u.out hb) (World.block_lt_of_cell? _ _ q_q4)).trans q_q4
  replace b_q : g_q < w_14.heap.size := World.block_lt_of_cell? _ _ q_q0
  replace q_y0 := (cell_only (a := ⟨w_4.heap.size, 0, none⟩) hon (show w_4.heap.size ∉ _ from fun hb => NOB_y_u.out hb) (World.block_lt_of_cell? _ _ q_y0)).trans q_y0
  replace q_y1 := (cell_only (a := ⟨w_4.heap.size, 1, none⟩) hon (show w_4.heap.size ∉ _ from fun hb => NOB_y_u.out hb) (World.block_lt_of_cell? _ _ q_y1)).trans q_y1
  replace q_y2 := (cell_only (a := ⟨w_4.heap.size, 2, none⟩) hon (show w_4.heap.size ∉ _ from fun hb => NOB_y_u.out hb) (World.block_lt_of_cell? _ _ q_y2)).trans q_y2
  replace q_y3 := (cell_only (a := ⟨w_4.heap.size, 3, none⟩) hon (show w_4.heap.size ∉ _ from fun hb => NOB_y_u.out hb) (World.block_lt_of_cell? _ _ q_y3)).trans q_y3
  replace q_y4 := (cell_only (a := ⟨w_4.heap.size, 4, none⟩) hon (show w_4.heap.size ∉ _ from fun hb => NOB_y_u.out hb) (World.block_lt_of_cell? _ _ q_y4)).trans q_y4
  replace b_y : w_4.heap.size < w_14.heap.size := World.block_lt_of_cell? _ _ q_y0
  replace q_u0 := (cell_only (a := ⟨w_6.heap.size, 0, none⟩) hon (show w_6.heap.size ∉ _ from fun hb => NOB_u_u.out hb) (World.block_lt_of_cell? _ _ q_u0)).trans q_u0
  replace q_u1 := (cell_only (a := ⟨w_6.heap.size, 1, none⟩) hon (show w_6.heap.size ∉ _ from fun hb => NOB_u_u.out hb) (World.block_lt_of_cell? _ _ q_u1)).trans q_u1
  replace q_u2 := (cell_only (a := ⟨w_6.heap.size, 2, none⟩) hon (show w_6.heap.size ∉ _ from fun hb => NOB_u_u.out hb) (World.block_lt_of_cell? _ _ q_u2)).trans q_u2
  replace q_u3 := (cell_only (a := ⟨w_6.heap.size, 3, none⟩) hon (show w_6.heap.size ∉ _ from fun hb => NOB_u_u.out hb) (World.block_lt_of_cell? _ _ q_u3)).trans q_u3
  replace q_u4 := (cell_only (a := ⟨w_6.heap.size, 4, none⟩) hon (show w_6.heap.size ∉ _ from fun hb => NOB_u_u.out hb) (World.block_lt_of_cell? _ _ q_u4)).trans q_u4
  replace b_u : w_6.heap.size < w_14.heap.size := World.block_lt_of_cell? _ _ q_u0
  replace q_g0 := (cell_only (a := ⟨w_8.heap.size, 0, none⟩) hon (show w_8.heap.size ∉ _ from fun hb => NOB_g_u.out hb) (World.block_lt_of_cell? _ _ q_g0)).trans q_g0
  replace q_g1 := (cell_only (a := ⟨w_8.heap.size, 1, none⟩) hon (show w_8.heap.size ∉ _ from fun hb => NOB_g_u.out hb) (World.block_lt_of_cell? _ _ q_g1)).trans q_g1
  replace q_g2 := (cell_only (a := ⟨w_8.heap.size, 2, none⟩) hon (show w_8.heap.size ∉ _ from fun hb => NOB_g_u.out hb) (World.block_lt_of_cell? _ _ q_g2)).trans q_g2
  replace q_g3 := (cell_only (a := ⟨w_8.heap.size, 3, none⟩) hon (show w_8.heap.size ∉ _ from fun hb => NOB_g_u.out hb) (World.block_lt_of_cell? _ _ q_g3)).trans q_g3
  replace q_g4 := (cell_only (a := ⟨w_8.heap.size, 4, none⟩) hon (show w_8.heap.size ∉ _ from fun hb => NOB_g_u.out hb) (World.block_lt_of_cell? _ _ q_g4)).trans q_g4
  replace b_g : w_8.heap.size < w_14.heap.size := World.block_lt_of_cell? _ _ q_g0
  have hbk := ownL_back (lo := w.heap.size) HB.out (ownL_mono Hu.out (lo' := w.heap.size) (by have := HS0.out; have := HS1.out; have := HS2.out; have := HS3.out; have := HSb_q.out; have := HSc_q.out; have := HS4.out; have := HS5.out; have := HSb_y.out; have := HS6.out; have := HS7.out; have := HSb_u.out; have := HS8.out; have := HS9.out; have := HSb_g.out; have := HS10.out; have := HS11.out; have := HS12.out; have := HS13.out; omega) (Nat.le_refl _)) HB.out.size hon
  replace Hq := Lib.hid (ownL_apart Hq.out Hu.out (by have := HS0.out; have := HS1.out; have := HS2.out; have := HS3.out; have := HSb_q.out; have := HSc_q.out; have := HS4.out; have := HS5.out; have := HSb_y.out; have := HS6.out; have := HS7.out; have := HSb_u.out; have := HS8.out; have := HS9.out; have := HSb_g.out; have := HS10.out; have := HS11.out; have := HS12.out; have := HS13.out; omega) hon)
  replace Hy := Lib.hid (ownL_apart Hy.out Hu.out (by have := HS0.out; have := HS1.out; have := HS2.out; have := HS3.out; have := HSb_q.out; have := HSc_q.out; have := HS4.out; have := HS5.out; have := HSb_y.out; have := HS6.out; have := HS7.out; have := HSb_u.out; have := HS8.out; have := HS9.out; have := HSb_g.out; have := HS10.out; have := HS11.out; have := HS12.out; have := HS13.out; omega) hon)
  replace Hg := Lib.hid (ownL_apart Hg.out Hu.out (by have := HS0.out; have := HS1.out; have := HS2.out; have := HS3.out; have := HSb_q.out; have := HSc_q.out; have := HS4.out; have := HS5.out; have := HSb_y.out; have := HS6.out; have := HS7.out; have := HSb_u.out; have := HS8.out; have := HS9.out; have := HSb_g.out; have := HS10.out; have := HS11.out; have := HS12.out; have := HS13.out; omega) hon)
  replace Hu := Lib.hid hmk
  have HS14 := Lib.hid hon.size
  replace HB := Lib.hid hbk
  clear hbk hmk hon
  obtain ⟨m2, hm2⟩ : ∃ m, m1 + countL [y1_u, y2_u, y3_u] = m := ⟨_, rfl⟩
  rw [hm2]; have hm20 : ¬ ((m2 : Int) < 0) := by omega
  clear hm2
  have hm2d : decide ((m2 : Int) < 0) = false := decide_eq_false hm20
  go_wp2_with fail
  refine (eqPo bo_r t_r poF_of poF_of Hg.out Hq.out).mono ?_
  rintro e w_15 ⟨rfl, hg⟩
  have hB := hg.below
  replace q_a0 := (hB.cell (show (⟨w.heap.size, 0, none⟩ : Addr).block < _ from World.block_lt_of_cell? _ _ q_a0)).trans q_a0
  replace q_a1 := (hB.cell (show (⟨w.heap.size, 1, none⟩ : Addr).block < _ from World.block_lt_of_cell? _ _ q_a1)).trans q_a1
  replace q_a2 := (hB.cell (show (⟨w.heap.size, 2, none⟩ : Addr).block < _ from World.block_lt_of_cell? _ _ q_a2)).trans q_a2
  replace q_a3 := (hB.cell (show (⟨w.heap.size, 3, none⟩ : Addr).block < _ from World.block_lt_of_cell? _ _ q_a3)).trans q_a3
  replace q_a4 := (hB.cell (show (⟨w.heap.size, 4, none⟩ : Addr).block < _ from World.block_lt_of_cell? _ _ q_a4)).trans q_a4
  replace b_a : w.heap.size < w_15.heap.size := World.block_lt_of_cell? _ _ q_a0
  replace q_b0 := (hB.cell (show (⟨w.heap.size + 1, 0, none⟩ : Addr).block < _ from World.block_lt_of_cell? _ _ q_b0)).trans q_b0
  replace q_b1 := (hB.cell (show (⟨w.heap.size + 1, 1, none⟩ : Addr).block < _ from World.block_lt_of_cell? _ _ q_b1)).trans q_b1
  replace q_b2 := (hB.cell (show (⟨w.heap.size + 1, 2, none⟩ : Addr).block < _ from World.block_lt_of_cell? _ _ q_b2)).trans q_b2
  replace q_b3 := (hB.cell (show (⟨w.heap.size + 1, 3, none⟩ : Addr).block < _ from World.block_lt_of_cell? _ _ q_b3)).trans q_b3
  replace q_b4 := (hB.cell (show (⟨w.heap.size + 1, 4, none⟩ : Addr).block < _ from World.block_lt_of_cell? _ _ q_b4)).trans q_b4
  replace b_b : w.heap.size + 1 < w_15.heap.size := World.block_lt_of_cell? _ _ q_b0
  replace q_q0 := (hB.cell (show (⟨g_q, 0, none⟩ : Addr).block < _ from World.block_lt_of_cell? _ _ q_q0)).trans q_q0
  replace q_q1 := (hB.cell (show (⟨g_q, 1, none⟩ : Addr).block < _ from World.block_lt_of_cell? _ _ q_q1)).trans q_q1
  replace q_q2 := (hB.cell (show (⟨g_q, 2, none⟩ : Addr).block < _ from World.block_lt_of_cell? _ _ q_q2)).trans q_q2
  replace q_q3 := (hB.cell (show (⟨g_q, 3, none⟩ : Addr).block < _ from World.block_lt_of_cell? _ _ q_q3)).trans q_q3
  replace q_q4 := (hB.cell (show (⟨g_q, 4, none⟩ : Addr).block < _ from World.block_lt_of_cell? _ _ q_q4)).trans q_q4
  replace b_q : g_q < w_15.heap.size := World.block_lt_of_cell? _ _ q_q0
  replace q_y0 := (hB.cell (show (⟨w_4.heap.size, 0, none⟩ : Addr).block < _ from World.block_lt_of_cell? _ _ q_y0)).trans q_y0
  replace q_y1 := (hB.cell (show (⟨w_4.heap.size, 1, none⟩ : Addr).block < _ from World.block_lt_of_cell? _ _ q_y1)).trans q_y1
  replace q_y2 := (hB.cell (show (⟨w_4.heap.size, 2, none⟩ : Addr).block < _ from World.block_lt_of_cell? _ _ q_y2)).trans q_y2
  replace q_y3 := (hB.cell (show (⟨w_4.heap.size, 3, none⟩ : Addr).block < _ from World.block_lt_of_cell? _ _ q_y3)).trans q_y3
  replace q_y4 := (hB.cell (show (⟨w_4.heap.size, 4, none⟩ : Addr).block < _ from World.block_lt_of_cell? _ _ q_y4)).trans q_y4
  replace b_y : w_4.heap.size < w_15.heap.size := World.block_lt_of_cell? _ _ q_y0
  replace q_u0 := (hB.cell (show (⟨w_6.heap.size, 0, none⟩ : Addr).block < _ from World.block_lt_of_cell? _ _ q_u0)).trans q_u0
  replace q_u1 := (hB.cell (show (⟨w_6.heap.size, 1, none⟩ : Addr).block < _ from World.block_lt_of_cell? _ _ q_u1)).trans q_u1
  replace q_u2 := (hB.cell (show (⟨w_6.heap.size, 2, none⟩ : Addr).block < _ from World.block_lt_of_cell? _ _ q_u2)).trans q_u2
  replace q_u3 := (hB.cell (show (⟨w_6.heap.size, 3, none⟩ : Addr).block < _ from World.block_lt_of_cell? _ _ q_u3)).trans q_u3
  replace q_u4 := (hB.cell (show (⟨w_6.heap.size, 4, none⟩ : Addr).block < _ from World.block_lt_of_cell? _ _ q_u4)).trans q_u4
  replace b_u : w_6.heap.size < w_15.heap.size := World.block_lt_of_cell? _ _ q_u0
  replace q_g0 := (hB.cell (show (⟨w_8.heap.size, 0, none⟩ : Addr).block < _ from World.block_lt_of_cell? _ _ q_g0)).trans q_g0
  replace q_g1 := (hB.cell (show (⟨w_8.heap.size, 1, none⟩ : Addr).block < _ from World.block_lt_of_cell? _ _ q_g1)).trans q_g1
  replace q_g2 := (hB.cell (show (⟨w_8.heap.size, 2, none⟩ : Addr).block < _ from World.block_lt_of_cell? _ _ q_g2)).trans q_g2
  replace q_g3 := (hB.cell (show (⟨w_8.heap.size, 3, none⟩ : Addr).block < _ from World.block_lt_of_cell? _ _ q_g3)).trans q_g3
  replace q_g4 := (hB.cell (show (⟨w_8.heap.size, 4, none⟩ : Addr).block < _ from World.block_lt_of_cell? _ _ q_g4)).trans q_g4
  replace b_g : w_8.heap.size < w_15.heap.size := World.block_lt_of_cell? _ _ q_g0
  replace Hq := Lib.hid (ownL_later Hq.out hB)
  replace Hy := Lib.hid (ownL_later Hy.out hB)
  replace Hu := Lib.hid (ownL_later Hu.out hB)
  replace Hg := Lib.hid (ownL_later Hg.out hB)
  have HS15 := Lib.hid hB.size
  replace HB := Lib.hid (HB.out.trans (hB.mono HB.out.size))
  clear hB hg
  have HCT_g := Lib.hid (show 1 + countL [rwSs (.slice xa_g xn_g xc_g) xs_r, rwSs (.slice ya_g yn_g yc_g) ys_r, rwSs (.slice za_g zn_g zc_g) zs_r] ≤ 4611686018427387904 by
    obtain ⟨h1, h2, h3⟩ := HLN.out; (try simp only at h1 h2 h3); rw [countL, countL, countL, countL, rwSs_count, rwSs_count, rwSs_count]; omega)
  have NOB_a_g := Lib.hid (show w.heap.size ∉ _ from fun hb => by have hh := ownL_lt Hg.out _ hb; have := HS0.out; have := HS1.out; have := HS2.out; have := HS3.out; have := HSb_q.out; have := HSc_q.out; have := HS4.out; have := HS5.out; have := HSb_y.out; have := HS6.out; have := HS7.out; have := HSb_u.out; have := HS8.out; have := HS9.out; have := HSb_g.out; have := HS10.out; have := HS11.out; have := HS12.out; have := HS13.out; have := HS14.out; have := HS15.out; omega)
  have NOB_b_g := Lib.hid (show w.heap.size + 1 ∉ _ from fun hb => by have hh := ownL_lt Hg.out _ hb; have := HS0.out; have := HS1.out; have := HS2.out; have := HS3.out; have := HSb_q.out; have := HSc_q.out; have := HS4.out; have := HS5.out; have := HSb_y.out; have := HS6.out; have := HS7.out; have := HSb_u.out; have := HS8.out; have := HS9.out; have := HSb_g.out; have := HS10.out; have := HS11.out; have := HS12.out; have := HS13.out; have := HS14.out; have := HS15.out; omega)
  have NOB_q_g := Lib.hid (show g_q ∉ _ from fun hb => by have hh := ownL_lt Hg.out _ hb; have := HS0.out; have := HS1.out; have := HS2.out; have := HS3.out; have := HSb_q.out; have := HSc_q.out; have := HS4.out; have := HS5.out; have := HSb_y.out; have := HS6.out; have := HS7.out; have := HSb_u.out; have := HS8.out; have := HS9.out; have := HSb_g.out; have := HS10.out; have := HS11.out; have := HS12.out; have := HS13.out; have := HS14.out; have := HS15.out; omega)
  have NOB_y_g := Lib.hid (show w_4.heap.size ∉ _ from fun hb => by have hh := ownL_lt Hg.out _ hb; have := HS0.out; have := HS1.out; have := HS2.out; have := HS3.out; have := HSb_q.out; have := HSc_q.out; have := HS4.out; have := HS5.out; have := HSb_y.out; have := HS6.out; have := HS7.out; have := HSb_u.out; have := HS8.out; have := HS9.out; have := HSb_g.out; have := HS10.out; have := HS11.out; have := HS12.out; have := HS13.out; have := HS14.out; have := HS15.out; omega)
  have NOB_u_g := Lib.hid (show w_6.heap.size ∉ _ from fun hb => by have hh := ownL_lt Hg.out _ hb; have := HS0.out; have := HS1.out; have := HS2.out; have := HS3.out; have := HSb_q.out; have := HSc_q.out; have := HS4.out; have := HS5.out; have := HSb_y.out; have := HS6.out; have := HS7.out; have := HSb_u.out; have := HS8.out; have := HS9.out; have := HSb_g.out; have := HS10.out; have := HS11.out; have := HS12.out; have := HS13.out; have := HS14.out; have := HS15.out; omega)
  have NOB_g_g := Lib.hid (show w_8.heap.size ∉ _ from fun hb => by have hh := ownL_lt Hg.out _ hb; have := HS0.out; have := HS1.out; have := HS2.out; have := HS3.out; have := HSb_q.out; have := HSc_q.out; have := HS4.out; have := HS5.out; have := HSb_y.out; have := HS6.out; have := HS7.out; have := HSb_u.out; have := HS8.out; have := HS9.out; have := HSb_g.out; have := HS10.out; have := HS11.out; have := HS12.out; have := HS13.out; have := HS14.out; have := HS15.out; omega)
  go_wp2_with fail
  refine (mkPo bo_r t_r poF_of _ _ 1 _ rfl _ Hg.out HN_g.out HCT_g.out).mono ?_
  rintro e w_16 ⟨rfl, hmk, hon⟩
  replace q_a0 := (cell_only (a := ⟨w.heap.size, 0, none⟩) hon (show w.heap.size ∉ _ from fun hb => NOB_a_g.out hb) (World.block_lt_of_cell? _ _ q_a0)).trans q_a0
  replace q_a1 := (cell_only (a := ⟨w.heap.size, 1, none⟩) hon (show w.heap.size ∉ _ from fun hb => NOB_a_g.out hb) (World.block_lt_of_cell? _ _ q_a1)).trans q_a1
  replace q_a2 := (cell_only (a := ⟨w.heap.size, 2, none⟩) hon (show w.heap.size ∉ _ from fun hb => NOB_a_g.out hb) (World.block_lt_of_cell? _ _ q_a2)).trans q_a2
  replace q_a3 := (cell_only (a := ⟨w.heap.size, 3, none⟩) hon (show w.heap.size ∉ _ from fun hb => NOB_a_g.out hb) (World.block_lt_of_cell? _ _ q_a3)).trans q_a3
  replace q_a4 := (cell_only (a := ⟨w.heap.size, 4, none⟩) hon (show w.heap.size ∉ _ from fun hb => NOB_a_g.out hb) (World.block_lt_of_cell? _ _ q_a4)).trans q_a4
  replace b_a : w.heap.size < w_16.heap.size := World.block_lt_of_cell? _ _ q_a0
  replace q_b0 := (cell_only (a := ⟨w.heap.size + 1, 0, none⟩) hon (show w.heap.size + 1 ∉ _ from fun hb => NOB_b_g.out hb) (World.block_lt_of_cell? _ _ q_b0)).trans q_b0
  replace q_b1 := (cell_only (a := ⟨w.heap.size + 1, 1, none⟩) hon (show w.heap.size + 1 ∉ _ from fun hb => NOB_b_g.out hb) (World.block_lt_of_cell? _ _ q_b1)).trans q_b1
  replace q_b2 := (cell_only (a := ⟨w.heap.size + 1, 2, none⟩) hon (show w.heap.size + 1 ∉ _ from fun hb => NOB_b_g.out hb) (World.block_lt_of_cell? _ _ q_b2)).trans q_b2
  replace q_b3 := (cell_only (a := ⟨w.heap.size + 1, 3, none⟩) hon (show w.heap.size + 1 ∉ _ from fun hb => NOB_b_g.out hb) (World.block_lt_of_cell? _ _ q_b3)).trans q_b3
  replace q_b4 := (cell_only (a := ⟨w.heap.size + 1, 4, none⟩) hon (show w.heap.size + 1 ∉ _ from fun hb => NOB_b_g.out hb) (World.block_lt_of_cell? _ _ q_b4)).trans q_b4
  replace b_b : w.heap.size + 1 < w_16.heap.size := World.block_lt_of_cell? _ _ q_b0
  replace q_q0 := (cell_only (a := ⟨g_q, 0, none⟩) hon (show g_q ∉ _ from fun hb => NOB_q_g.out hb) (World.block_lt_of_cell? _ _ q_q0)).trans q_q0
  replace q_q1 := (cell_only (a := ⟨g_q, 1, none⟩) hon (show g_q ∉ _ from fun hb => NOB_q_g.out hb) (World.block_lt_of_cell? _ _ q_q1)).trans q_q1
  replace q_q2 := (cell_only (a := ⟨g_q, 2, none⟩) hon (show g_q ∉ _ from fun hb => NOB_q_g.out hb) (World.block_lt_of_cell? _ _ q_q2)).trans q_q2
  replace q_q3 := (cell_only (a := ⟨g_q, 3, none⟩) hon (show g_q ∉ _ from fun hb => NOB_q_g.out hb) (World.block_lt_of_cell? _ _ q_q3)).trans q_q3
  replace q_q4 := (cell_only (a := ⟨g_q, 4, none⟩) hon (show g_q ∉ _ from fun hb => NOB_q_g.out hb) (World.block_lt_of_cell? _ _ q_q4)).trans q_q4
  replace b_q : g_q < w_16.heap.size := World.block_lt_of_cell? _ _ q_q0
  replace q_y0 := (cell_only (a := ⟨w_4.heap.size, 0, none⟩) hon (show w_4.heap.size ∉ _ from fun hb => NOB_y_g.out hb) (World.block_lt_of_cell? _ _ q_y0)).trans q_y0
  replace q_y1 := (cell_only (a := ⟨w_4.heap.size, 1, none⟩) hon (show w_4.heap.size ∉ _ from fun hb => NOB_y_g.out hb) (World.block_lt_of_cell? _ _ q_y1)).trans q_y1
  replace q_y2 := (cell_only (a := ⟨w_4.heap.size, 2, none⟩) hon (show w_4.heap.size ∉ _ from fun hb => NOB_y_g.out hb) (World.block_lt_of_cell? _ _ q_y2)).trans q_y2
  replace q_y3 := (cell_only (a := ⟨w_4.heap.size, 3, none⟩) hon (show w_4.heap.size ∉ _ from fun hb => NOB_y_g.out hb) (World.block_lt_of_cell? _ _ q_y3)).trans q_y3
  replace q_y4 := (cell_only (a := ⟨w_4.heap.size, 4, none⟩) hon (show w_4.heap.size ∉ _ from fun hb => NOB_y_g.out hb) (World.block_lt_of_cell? _ _ q_y4)).trans q_y4
  replace b_y : w_4.heap.size < w_16.heap.size := World.block_lt_of_cell? _ _ q_y0
  replace q_u0 := (cell_only (a := ⟨w_6.heap.size, 0, none⟩) hon (show w_6.heap.size ∉ _ from fun hb => NOB_u_g.out hb) (World.block_lt_of_cell? _ _ q_u0)).trans q_u0
  replace q_u1 := (cell_only (a := ⟨w_6.heap.size, 1, none⟩) hon (show w_6.heap.size ∉ _ from fun hb => NOB_u_g.out hb) (World.block_lt_of_cell? _ _ q_u1)).trans q_u1
  replace q_u2 := (cell_only (a := ⟨w_6.heap.size, 2, none⟩) hon (show w_6.heap.size ∉ _ from fun hb => NOB_u_g.out hb) (World.block_lt_of_cell? _ _ q_u2)).trans q_u2
  replace q_u3 := (cell_only (a := ⟨w_6.heap.size, 3, none⟩) hon (show w_6.heap.size ∉ _ from fun hb => NOB_u_g.out hb) (World.block_lt_of_cell? _ _ q_u3)).trans q_u3
  replace q_u4 := (cell_only (a := ⟨w_6.heap.size, 4, none⟩) hon (show w_6.heap.size ∉ _ from fun hb => NOB_u_g.out hb) (World.block_lt_of_cell? _ _ q_u4)).trans q_u4
  replace b_u : w_6.heap.size < w_16.heap.size := World.block_lt_of_cell? _ _ q_u0
  replace q_g0 := (cell_only (a := ⟨w_8.heap.size, 0, none⟩) hon (show w_8.heap.size ∉ _ from fun hb => NOB_g_g.out hb) (World.block_lt_of_cell? _ _ q_g0)).trans q_g0
  replace q_g1 := (cell_only (a := ⟨w_8.heap.size, 1, none⟩) hon (show w_8.heap.size ∉ _ from fun hb => NOB_g_g.out hb) (World.block_lt_of_cell? _ _ q_g1)).trans q_g1
  replace q_g2 := (cell_only (a := ⟨w_8.heap.size, 2, none⟩) hon (show w_8.heap.size ∉ _ from fun hb => NOB_g_g.out hb) (World.block_lt_of_cell? _ _ q_g2)).trans q_g2
  replace q_g3 := (cell_only (a := ⟨w_8.heap.size, 3, none⟩) hon (show w_8.heap.size ∉ _ from fun hb => NOB_g_g.out hb) (World.block_lt_of_cell? _ _ q_g3)).trans q_g3
  replace q_g4 := (cell_only (a := ⟨w_8.heap.size, 4, none⟩) hon (show w_8.heap.size ∉ _ from fun hb => NOB_g_g.out hb) (World.block_lt_of_cell? _ _ q_g4)).trans q_g4
  replace b_g : w_8.heap.size < w_16.heap.size := World.block_lt_of_cell? _ _ q_g0
  have hbk := ownL_back (lo := w.heap.size) HB.out (ownL_mono Hg.out (lo' := w.heap.size) (by have := HS0.out; have := HS1.out; have := HS2.out; have := HS3.out; have := HSb_q.out; have := HSc_q.out; have := HS4.out; have := HS5.out; have := HSb_y.out; have := HS6.out; have := HS7.out; have := HSb_u.out; have := HS8.out; have := HS9.out; have := HSb_g.out; have := HS10.out; have := HS11.out; have := HS12.out; have := HS13.out; have := HS14.out; have := HS15.out; omega) (Nat.le_refl _)) HB.out.size hon
  replace Hq := Lib.hid (ownL_apart Hq.out Hg.out (by have := HS0.out; have := HS1.out; have := HS2.out; have := HS3.out; have := HSb_q.out; have := HSc_q.out; have := HS4.out; have := HS5.out; have := HSb_y.out; have := HS6.out; have := HS7.out; have := HSb_u.out; have := HS8.out; have := HS9.out; have := HSb_g.out; have := HS10.out; have := HS11.out; have := HS12.out; have := HS13.out; have := HS14.out; have := HS15.out; omega) hon)
  replace Hy := Lib.hid (ownL_apart Hy.out Hg.out (by have := HS0.out; have := HS1.out; have := HS2.out; have := HS3.out; have := HSb_q.out; have := HSc_q.out; have := HS4.out; have := HS5.out; have := HSb_y.out; have := HS6.out; have := HS7.out; have := HSb_u.out; have := HS8.out; have := HS9.out; have := HSb_g.out; have := HS10.out; have := HS11.out; have := HS12.out; have := HS13.out; have := HS14.out; have := HS15.out; omega) hon)
  replace Hu := Lib.hid (ownL_apart Hu.out Hg.out (by have := HS0.out; have := HS1.out; have := HS2.out; have := HS3.out; have := HSb_q.out; have := HSc_q.out; have := HS4.out; have := HS5.out; have := HSb_y.out; have := HS6.out; have := HS7.out; have := HSb_u.out; have := HS8.out; have := HS9.out; have := HSb_g.out; have := HS10.out; have := HS11.out; have := HS12.out; have := HS13.out; have := HS14.out; have := HS15.out; omega) hon)
  replace Hg := Lib.hid hmk
  have HS16 := Lib.hid hon.size
  replace HB := Lib.hid hbk
  clear hbk hmk hon
  obtain ⟨m, hm⟩ : ∃ m, 1 + countL [rwSs (.slice xa_g xn_g xc_g) xs_r, rwSs (.slice ya_g yn_g yc_g) ys_r, rwSs (.slice za_g zn_g zc_g) zs_r] = m := ⟨_, rfl⟩
  rw [hm]; have HM := Lib.hid hm
  have hmq : ((m : Int) == (m : Int)) = true := beq_self_eq_true _
  have hm0 : ¬ ((m : Int) < 0) := by omega
  clear hm
  go_wp2_with fail
  refine (hdPo bo_r t_r poF_of _ 1 _ rfl _ (ownL_read Hg.out (by have := HS0.out; have := HS1.out; have := HS2.out; have := HS3.out; have := HSb_q.out; have := HSc_q.out; have := HS4.out; have := HS5.out; have := HSb_y.out; have := HS6.out; have := HS7.out; have := HSb_u.out; have := HS8.out; have := HS9.out; have := HSb_g.out; have := HS10.out; have := HS11.out; have := HS12.out; have := HS13.out; have := HS14.out; have := HS15.out; have := HS16.out; omega)) (Nat.le_refl _) HCT_g.out).mono ?_
  rintro e w_17 ⟨rfl, hg⟩
  have hB := hg.below
  replace q_a0 := (hB.cell (show (⟨w.heap.size, 0, none⟩ : Addr).block < _ from World.block_lt_of_cell? _ _ q_a0)).trans q_a0
  replace q_a1 := (hB.cell (show (⟨w.heap.size, 1, none⟩ : Addr).block < _ from World.block_lt_of_cell? _ _ q_a1)).trans q_a1
  replace q_a2 := (hB.cell (show (⟨w.heap.size, 2, none⟩ : Addr).block < _ from World.block_lt_of_cell? _ _ q_a2)).trans q_a2
  replace q_a3 := (hB.cell (show (⟨w.heap.size, 3, none⟩ : Addr).block < _ from World.block_lt_of_cell? _ _ q_a3)).trans q_a3
  replace q_a4 := (hB.cell (show (⟨w.heap.size, 4, none⟩ : Addr).block < _ from World.block_lt_of_cell? _ _ q_a4)).trans q_a4
  replace b_a : w.heap.size < w_17.heap.size := World.block_lt_of_cell? _ _ q_a0
  replace q_b0 := (hB.cell (show (⟨w.heap.size + 1, 0, none⟩ : Addr).block < _ from World.block_lt_of_cell? _ _ q_b0)).trans q_b0
  replace q_b1 := (hB.cell (show (⟨w.heap.size + 1, 1, none⟩ : Addr).block < _ from World.block_lt_of_cell? _ _ q_b1)).trans q_b1
  replace q_b2 := (hB.cell (show (⟨w.heap.size + 1, 2, none⟩ : Addr).block < _ from World.block_lt_of_cell? _ _ q_b2)).trans q_b2
  replace q_b3 := (hB.cell (show (⟨w.heap.size + 1, 3, none⟩ : Addr).block < _ from World.block_lt_of_cell? _ _ q_b3)).trans q_b3
  replace q_b4 := (hB.cell (show (⟨w.heap.size + 1, 4, none⟩ : Addr).block < _ from World.block_lt_of_cell? _ _ q_b4)).trans q_b4
  replace b_b : w.heap.size + 1 < w_17.heap.size := World.block_lt_of_cell? _ _ q_b0
  replace q_q0 := (hB.cell (show (⟨g_q, 0, none⟩ : Addr).block < _ from World.block_lt_of_cell? _ _ q_q0)).trans q_q0
  replace q_q1 := (hB.cell (show (⟨g_q, 1, none⟩ : Addr).block < _ from World.block_lt_of_cell? _ _ q_q1)).trans q_q1
  replace q_q2 := (hB.cell (show (⟨g_q, 2, none⟩ : Addr).block < _ from World.block_lt_of_cell? _ _ q_q2)).trans q_q2
  replace q_q3 := (hB.cell (show (⟨g_q, 3, none⟩ : Addr).block < _ from World.block_lt_of_cell? _ _ q_q3)).trans q_q3
  replace q_q4 := (hB.cell (show (⟨g_q, 4, none⟩ : Addr).block < _ from World.block_lt_of_cell? _ _ q_q4)).trans q_q4
  replace b_q : g_q < w_17.heap.size := World.block_lt_of_cell? _ _ q_q0
  replace q_y0 := (hB.cell (show (⟨w_4.heap.size, 0, none⟩ : Addr).block < _ from World.block_lt_of_cell? _ _ q_y0)).trans q_y0
  replace q_y1 := (hB.cell (show (⟨w_4.heap.size, 1, none⟩ : Addr).block < _ from World.block_lt_of_cell? _ _ q_y1)).trans q_y1
  replace q_y2 := (hB.cell (show (⟨w_4.heap.size, 2, none⟩ : Addr).block < _ from World.block_lt_of_cell? _ _ q_y2)).trans q_y2
  replace q_y3 := (hB.cell (show (⟨w_4.heap.size, 3, none⟩ : Addr).block < _ from World.block_lt_of_cell? _ _ q_y3)).trans q_y3
  replace q_y4 := (hB.cell (show (⟨w_4.heap.size, 4, none⟩ : Addr).block < _ from World.block_lt_of_cell? _ _ q_y4)).trans q_y4
  replace b_y : w_4.heap.size < w_17.heap.size := World.block_lt_of_cell? _ _ q_y0
  replace q_u0 := (hB.cell (show (⟨w_6.heap.size, 0, none⟩ : Addr).block < _ from World.block_lt_of_cell? _ _ q_u0)).trans q_u0
  replace q_u1 := (hB.cell (show (⟨w_6.heap.size, 1, none⟩ : Addr).block < _ from World.block_lt_of_cell? _ _ q_u1)).trans q_u1
  replace q_u2 := (hB.cell (show (⟨w_6.heap.size, 2, none⟩ : Addr).block < _ from World.block_lt_of_cell? _ _ q_u2)).trans q_u2
  replace q_u3 := (hB.cell (show (⟨w_6.heap.size, 3, none⟩ : Addr).block < _ from World.block_lt_of_cell? _ _ q_u3)).trans q_u3
  replace q_u4 := (hB.cell (show (⟨w_6.heap.size, 4, none⟩ : Addr).block < _ from World.block_lt_of_cell? _ _ q_u4)).trans q_u4
  replace b_u : w_6.heap.size < w_17.heap.size := World.block_lt_of_cell? _ _ q_u0
  replace q_g0 := (hB.cell (show (⟨w_8.heap.size, 0, none⟩ : Addr).block < _ from World.block_lt_of_cell? _ _ q_g0)).trans q_g0
  replace q_g1 := (hB.cell (show (⟨w_8.heap.size, 1, none⟩ : Addr).block < _ from World.block_lt_of_cell? _ _ q_g1)).trans q_g1
  replace q_g2 := (hB.cell (show (⟨w_8.heap.size, 2, none⟩ : Addr).block < _ from World.block_lt_of_cell? _ _ q_g2)).trans q_g2
  replace q_g3 := (hB.cell (show (⟨w_8.heap.size, 3, none⟩ : Addr).block < _ from World.block_lt_of_cell? _ _ q_g3)).trans q_g3
  replace q_g4 := (hB.cell (show (⟨w_8.heap.size, 4, none⟩ : Addr).block < _ from World.block_lt_of_cell? _ _ q_g4)).trans q_g4
  replace b_g : w_8.heap.size < w_17.heap.size := World.block_lt_of_cell? _ _ q_g0
  replace Hq := Lib.hid (ownL_later Hq.out hB)
  replace Hy := Lib.hid (ownL_later Hy.out hB)
  replace Hu := Lib.hid (ownL_later Hu.out hB)
  replace Hg := Lib.hid (ownL_later Hg.out hB)
  have HS17 := Lib.hid hB.size
  replace HB := Lib.hid (HB.out.trans (hB.mono HB.out.size))
  rw [HM.out]
  clear hB hg
  go_upto_region 31 with (fail)
  go_cut [13] from 75 to 79 (fun c wx => ∃ (g : Nat) (v1 : Option Addr) (m1 k1 : Nat) (v2 : Option Addr) (m2 k2 : Nat) (v3 : Option Addr) (m3 k3 : Nat), c = .pointer (some ⟨g, 0, none⟩) ∧ w_17.heap.size ≤ g ∧ wx.heap[g]? = some (.cells #[.bool bo_r, .slice v1 m1 k1, .slice v2 m2 k2, .slice v3 m3 k3, .string t_r] 26 (0, 0)) ∧ g ∉ blocksL [rwSs (.slice v1 m1 k1) xs_r, rwSs (.slice v2 m2 k2) ys_r, rwSs (.slice v3 m3 k3) zs_r] ∧ Own3 w_17.heap.size wx (.slice v1 m1 k1) (.slice v2 m2 k2) (.slice v3 m3 k3) xs_r ys_r zs_r ∧ Below w_17.heap.size w_17 wx)
  case first =>
    have KEEP := Lib.hid (fun (w' : World) (h : Below w_17.heap.size w_17 w') => show Below w_17.heap.size w_17 w' ∧ w'.cell? ⟨w.heap.size, 0, none⟩ = some (.bool bo_a) ∧ w'.cell? ⟨w.heap.size, 1, none⟩ = some (.slice xa_a xn_a xc_a) ∧ w'.cell? ⟨w.heap.size, 2, none⟩ = some (.slice ya_a yn_a yc_a) ∧ w'.cell? ⟨w.heap.size, 3, none⟩ = some (.slice za_a zn_a zc_a) ∧ w'.cell? ⟨w.heap.size, 4, none⟩ = some (.string t_a) ∧ w'.cell? ⟨w.heap.size + 1, 0, none⟩ = some (.bool bo_b) ∧ w'.cell? ⟨w.heap.size + 1, 1, none⟩ = some (.slice xa_b xn_b xc_b) ∧ w'.cell? ⟨w.heap.size + 1, 2, none⟩ = some (.slice ya_b yn_b yc_b) ∧ w'.cell? ⟨w.heap.size + 1, 3, none⟩ = some (.slice za_b zn_b zc_b) ∧ w'.cell? ⟨w.heap.size + 1, 4, none⟩ = some (.string t_b) from ⟨h, (h.cell (show (⟨w.heap.size, 0, none⟩ : Addr).block < _ from World.block_lt_of_cell? _ _ q_a0)).trans q_a0, (h.cell (show (⟨w.heap.size, 1, none⟩ : Addr).block < _ from World.block_lt_of_cell? _ _ q_a1)).trans q_a1, (h.cell (show (⟨w.heap.size, 2, none⟩ : Addr).block < _ from World.block_lt_of_cell? _ _ q_a2)).trans q_a2, (h.cell (show (⟨w.heap.size, 3, none⟩ : Addr).block < _ from World.block_lt_of_cell? _ _ q_a3)).trans q_a3, (h.cell (show (⟨w.heap.size, 4, none⟩ : Addr).block < _ from World.block_lt_of_cell? _ _ q_a4)).trans q_a4, (h.cell (show (⟨w.heap.size + 1, 0, none⟩ : Addr).block < _ from World.block_lt_of_cell? _ _ q_b0)).trans q_b0, (h.cell (show (⟨w.heap.size + 1, 1, none⟩ : Addr).block < _ from World.block_lt_of_cell? _ _ q_b1)).trans q_b1, (h.cell (show (⟨w.heap.size + 1, 2, none⟩ : Addr).block < _ from World.block_lt_of_cell? _ _ q_b2)).trans q_b2, (h.cell (show (⟨w.heap.size + 1, 3, none⟩ : Addr).block < _ from World.block_lt_of_cell? _ _ q_b3)).trans q_b3, (h.cell (show (⟨w.heap.size + 1, 4, none⟩ : Addr).block < _ from World.block_lt_of_cell? _ _ q_b4)).trans q_b4⟩)
    go_region_held3 (fun w' => Below w_17.heap.size w_17 w' ∧ w'.cell? ⟨w.heap.size, 0, none⟩ = some (.bool bo_a) ∧ w'.cell? ⟨w.heap.size, 1, none⟩ = some (.slice xa_a xn_a xc_a) ∧ w'.cell? ⟨w.heap.size, 2, none⟩ = some (.slice ya_a yn_a yc_a) ∧ w'.cell? ⟨w.heap.size, 3, none⟩ = some (.slice za_a zn_a zc_a) ∧ w'.cell? ⟨w.heap.size, 4, none⟩ = some (.string t_a) ∧ w'.cell? ⟨w.heap.size + 1, 0, none⟩ = some (.bool bo_b) ∧ w'.cell? ⟨w.heap.size + 1, 1, none⟩ = some (.slice xa_b xn_b xc_b) ∧ w'.cell? ⟨w.heap.size + 1, 2, none⟩ = some (.slice ya_b yn_b yc_b) ∧ w'.cell? ⟨w.heap.size + 1, 3, none⟩ = some (.slice za_b zn_b zc_b) ∧ w'.cell? ⟨w.heap.size + 1, 4, none⟩ = some (.string t_b)) (exact KEEP.out _ (by repeat' (first | (with_reducible exact Below.refl _ _) | (with_reducible exact hPN) | (with_reducible exact hPC) | (with_reducible exact hPB) | (with_reducible refine bl_dw ?_) | (with_reducible refine bl_aw ?_ _) | (with_reducible refine bl_s9 ?_ (by first | exact Nat.le_refl _ | exact hPB.size | exact hPC.size | exact hPN.size) _)))) (first | (go_at_call 11; with_reducible refine (toPr_any bo_a t_a HR1_a.out HR2_a.out HR3_a.out HW1_a.out HW2_a.out HW3_a.out (bl_via HB.out HB.out.size (by repeat' (first | (with_reducible exact Below.refl _ _) | (with_reducible exact hPC) | (with_reducible exact hPB) | (with_reducible refine bl_dw ?_) | (with_reducible refine bl_aw ?_ _))))).mono ?_; rintro e wB ⟨xaB, xnB, xcB, yaB, ynB, ycB, zaB, znB, zcB, rfl, hiB, hbB⟩; have hPB := bl_tr (show Below w_17.heap.size w_17 _ from (by repeat' (first | (with_reducible exact Below.refl _ _) | (with_reducible exact hPC) | (with_reducible exact hPB) | (with_reducible refine bl_dw ?_) | (with_reducible refine bl_aw ?_ _)))) hbB; skip) | (go_at_call 11; with_reducible refine (toPr_any bo_b t_b HR1_b.out HR2_b.out HR3_b.out HW1_b.out HW2_b.out HW3_b.out (bl_via HB.out HB.out.size (by repeat' (first | (with_reducible exact Below.refl _ _) | (with_reducible exact hPC) | (with_reducible exact hPB) | (with_reducible refine bl_dw ?_) | (with_reducible refine bl_aw ?_ _))))).mono ?_; rintro e wC ⟨xaC, xnC, xcC, yaC, ynC, ycC, zaC, znC, zcC, rfl, hiC, hbC⟩; have hPC := bl_tr (show Below w_17.heap.size w_17 _ from (by repeat' (first | (with_reducible exact Below.refl _ _) | (with_reducible exact hPC) | (with_reducible exact hPB) | (with_reducible refine bl_dw ?_) | (with_reducible refine bl_aw ?_ _)))) hbC; have hBC := bl_tr (show Below wB.heap.size wB _ from (by repeat' (first | (with_reducible exact Below.refl _ _) | (with_reducible refine bl_dw ?_) | (with_reducible refine bl_aw ?_ _)))) hbC) | (go_at_call 12; refine (HC_impl.out _ _ _ _ _ _ _ _ _ _ _ _ _ _ _ _ _ _ _ (hiB.up (by repeat' (first | (with_reducible exact Below.refl _ _) | (with_reducible exact hBC) | (with_reducible refine bl_dw ?_) | (with_reducible refine bl_aw ?_ _)))) (hiC.up (by repeat' (first | (with_reducible exact Below.refl _ _) | (with_reducible refine bl_dw ?_) | (with_reducible refine bl_aw ?_ _))))).mono ?_; rintro e wN ⟨a1N, n1N, c1N, a2N, n2N, c2N, a3N, n3N, c3N, rfl, hoN, hbN⟩; have hPN := bl_tr (show Below w_17.heap.size w_17 _ from (by repeat' (first | (with_reducible exact Below.refl _ _) | (with_reducible exact hPC) | (with_reducible exact hPB) | (with_reducible refine bl_dw ?_) | (with_reducible refine bl_aw ?_ _)))) hbN; (first | (refine lay9 (w := wN) (c := w_17.heap.size) ?_ ?_; (focus (refine heap_bl9 hbN ?_; (repeat' (first | (with_reducible refine hq_dr ?_) | ((with_reducible refine hq_nw ?_); (first | (with_reducible rfl) | (simp only [size_alloc]; done))) | (with_reducible refine heap_al9 ?_ _) | (with_reducible refine heap_bl9 hbN ?_) | (with_reducible refine heap_bl9 hbC ?_) | (with_reducible refine heap_bl9 hbB ?_))))); intro x0 y0 x1 y1 x2 y2 x3 y3 x4 y4) | (refine lay9 (w := wN) (c := wB.heap.size) ?_ ?_; (focus (refine heap_bl9 hbN ?_; (repeat' (first | (with_reducible refine hq_dr ?_) | ((with_reducible refine hq_nw ?_); (first | (with_reducible rfl) | (simp only [size_alloc]; done))) | (with_reducible refine heap_al9 ?_ _) | (with_reducible refine heap_bl9 hbN ?_) | (with_reducible refine heap_bl9 hbC ?_) | (with_reducible refine heap_bl9 hbB ?_))))); intro x0 y0 x1 y1 x2 y2 x3 y3 x4 y4) | (refine lay9 (w := wN) (c := wC.heap.size) ?_ ?_; (focus (refine heap_bl9 hbN ?_; (repeat' (first | (with_reducible refine hq_dr ?_) | ((with_reducible refine hq_nw ?_); (first | (with_reducible rfl) | (simp only [size_alloc]; done))) | (with_reducible refine heap_al9 ?_ _) | (with_reducible refine heap_bl9 hbN ?_) | (with_reducible refine heap_bl9 hbC ?_) | (with_reducible refine heap_bl9 hbB ?_))))); intro x0 y0 x1 y1 x2 y2 x3 y3 x4 y4) | skip)))
    all_goals
      go_wp2_with fail
      go_meet
    all_goals (refine ⟨_, a1N, n1N, c1N, a2N, n2N, c2N, a3N, n3N, c3N, rfl, ?_⟩)
    · exact finQ1 hoN (Below.size (show Below w_17.heap.size w_17 _ from (by repeat' (first | (with_reducible exact Below.refl _ _) | (with_reducible exact hPC) | (with_reducible exact hPB) | (with_reducible refine bl_dw ?_) | (with_reducible refine bl_aw ?_ _))))) hPN
    all_goals (exact finQ2 (heap_bl9 hbN (by repeat' (first | (with_reducible refine hq_dr ?_) | ((with_reducible refine hq_nw ?_); (first | (with_reducible rfl) | (simp only [size_alloc]; done))) | (with_reducible refine heap_al9 ?_ _) | (with_reducible refine heap_bl9 hbN ?_) | (with_reducible refine heap_bl9 hbC ?_) | (with_reducible refine heap_bl9 hbB ?_)))) (by first | exact Nat.le_refl _ | exact hPB.size | exact hPC.size) (by first | (show _ < (World.alloc _ _).heap.size; rw [size_alloc]; exact Nat.lt_succ_self _) | (refine Nat.lt_of_lt_of_le ?_ (Below.size (show Below wC.heap.size wC _ from (by repeat' (first | (with_reducible exact Below.refl _ _) | (with_reducible refine bl_dw ?_) | (with_reducible refine bl_aw ?_ _))))); show _ < wC.heap.size; refine Nat.lt_of_lt_of_le ?_ hbC.size; show _ < (World.alloc _ _).heap.size; rw [size_alloc]; exact Nat.lt_succ_self _) | (refine Nat.lt_of_lt_of_le ?_ (Below.size (show Below wC.heap.size wC _ from (by repeat' (first | (with_reducible exact Below.refl _ _) | (with_reducible refine bl_dw ?_) | (with_reducible refine bl_aw ?_ _))))); refine Nat.lt_of_lt_of_le ?_ (Nat.le_trans hbB.size (Below.size (show Below wB.heap.size wB wC from (by repeat' (first | (with_reducible exact Below.refl _ _) | (with_reducible exact hBC) | (with_reducible refine bl_dw ?_) | (with_reducible refine bl_aw ?_ _)))))); show _ < (World.alloc _ _).heap.size; rw [size_alloc]; exact Nat.lt_succ_self _)) hoN hPN)
  obtain ⟨g_h, xa_h, xn_h, xc_h, ya_h, yn_h, yc_h, za_h, zn_h, zc_h, rfl, hge, hbx, hnb, how, hB⟩ := hcut
  rename World => w_18
  replace q_a0 := (hB.cell (show (⟨w.heap.size, 0, none⟩ : Addr).block < _ from World.block_lt_of_cell? _ _ q_a0)).trans q_a0
  replace q_a1 := (hB.cell (show (⟨w.heap.size, 1, none⟩ : Addr).block < _ from World.block_lt_of_cell? _ _ q_a1)).trans q_a1
  replace q_a2 := (hB.cell (show (⟨w.heap.size, 2, none⟩ : Addr).block < _ from World.block_lt_of_cell? _ _ q_a2)).trans q_a2
  replace q_a3 := (hB.cell (show (⟨w.heap.size, 3, none⟩ : Addr).block < _ from World.block_lt_of_cell? _ _ q_a3)).trans q_a3
  replace q_a4 := (hB.cell (show (⟨w.heap.size, 4, none⟩ : Addr).block < _ from World.block_lt_of_cell? _ _ q_a4)).trans q_a4
  replace b_a : w.heap.size < w_18.heap.size := World.block_lt_of_cell? _ _ q_a0
  replace q_b0 := (hB.cell (show (⟨w.heap.size + 1, 0, none⟩ : Addr).block < _ from World.block_lt_of_cell? _ _ q_b0)).trans q_b0
  replace q_b1 := (hB.cell (show (⟨w.heap.size + 1, 1, none⟩ : Addr).block < _ from World.block_lt_of_cell? _ _ q_b1)).trans q_b1
  replace q_b2 := (hB.cell (show (⟨w.heap.size + 1, 2, none⟩ : Addr).block < _ from World.block_lt_of_cell? _ _ q_b2)).trans q_b2
  replace q_b3 := (hB.cell (show (⟨w.heap.size + 1, 3, none⟩ : Addr).block < _ from World.block_lt_of_cell? _ _ q_b3)).trans q_b3
  replace q_b4 := (hB.cell (show (⟨w.heap.size + 1, 4, none⟩ : Addr).block < _ from World.block_lt_of_cell? _ _ q_b4)).trans q_b4
  replace b_b : w.heap.size + 1 < w_18.heap.size := World.block_lt_of_cell? _ _ q_b0
  replace q_q0 := (hB.cell (show (⟨g_q, 0, none⟩ : Addr).block < _ from World.block_lt_of_cell? _ _ q_q0)).trans q_q0
  replace q_q1 := (hB.cell (show (⟨g_q, 1, none⟩ : Addr).block < _ from World.block_lt_of_cell? _ _ q_q1)).trans q_q1
  replace q_q2 := (hB.cell (show (⟨g_q, 2, none⟩ : Addr).block < _ from World.block_lt_of_cell? _ _ q_q2)).trans q_q2
  replace q_q3 := (hB.cell (show (⟨g_q, 3, none⟩ : Addr).block < _ from World.block_lt_of_cell? _ _ q_q3)).trans q_q3
  replace q_q4 := (hB.cell (show (⟨g_q, 4, none⟩ : Addr).block < _ from World.block_lt_of_cell? _ _ q_q4)).trans q_q4
  replace b_q : g_q < w_18.heap.size := World.block_lt_of_cell? _ _ q_q0
  replace q_y0 := (hB.cell (show (⟨w_4.heap.size, 0, none⟩ : Addr).block < _ from World.block_lt_of_cell? _ _ q_y0)).trans q_y0
  replace q_y1 := (hB.cell (show (⟨w_4.heap.size, 1, none⟩ : Addr).block < _ from World.block_lt_of_cell? _ _ q_y1)).trans q_y1
  replace q_y2 := (hB.cell (show (⟨w_4.heap.size, 2, none⟩ : Addr).block < _ from World.block_lt_of_cell? _ _ q_y2)).trans q_y2
  replace q_y3 := (hB.cell (show (⟨w_4.heap.size, 3, none⟩ : Addr).block < _ from World.block_lt_of_cell? _ _ q_y3)).trans q_y3
  replace q_y4 := (hB.cell (show (⟨w_4.heap.size, 4, none⟩ : Addr).block < _ from World.block_lt_of_cell? _ _ q_y4)).trans q_y4
  replace b_y : w_4.heap.size < w_18.heap.size := World.block_lt_of_cell? _ _ q_y0
  replace q_u0 := (hB.cell (show (⟨w_6.heap.size, 0, none⟩ : Addr).block < _ from World.block_lt_of_cell? _ _ q_u0)).trans q_u0
  replace q_u1 := (hB.cell (show (⟨w_6.heap.size, 1, none⟩ : Addr).block < _ from World.block_lt_of_cell? _ _ q_u1)).trans q_u1
  replace q_u2 := (hB.cell (show (⟨w_6.heap.size, 2, none⟩ : Addr).block < _ from World.block_lt_of_cell? _ _ q_u2)).trans q_u2
  replace q_u3 := (hB.cell (show (⟨w_6.heap.size, 3, none⟩ : Addr).block < _ from World.block_lt_of_cell? _ _ q_u3)).trans q_u3
  replace q_u4 := (hB.cell (show (⟨w_6.heap.size, 4, none⟩ : Addr).block < _ from World.block_lt_of_cell? _ _ q_u4)).trans q_u4
  replace b_u : w_6.heap.size < w_18.heap.size := World.block_lt_of_cell? _ _ q_u0
  replace q_g0 := (hB.cell (show (⟨w_8.heap.size, 0, none⟩ : Addr).block < _ from World.block_lt_of_cell? _ _ q_g0)).trans q_g0
  replace q_g1 := (hB.cell (show (⟨w_8.heap.size, 1, none⟩ : Addr).block < _ from World.block_lt_of_cell? _ _ q_g1)).trans q_g1
  replace q_g2 := (hB.cell (show (⟨w_8.heap.size, 2, none⟩ : Addr).block < _ from World.block_lt_of_cell? _ _ q_g2)).trans q_g2
  replace q_g3 := (hB.cell (show (⟨w_8.heap.size, 3, none⟩ : Addr).block < _ from World.block_lt_of_cell? _ _ q_g3)).trans q_g3
  replace q_g4 := (hB.cell (show (⟨w_8.heap.size, 4, none⟩ : Addr).block < _ from World.block_lt_of_cell? _ _ q_g4)).trans q_g4
  replace b_g : w_8.heap.size < w_18.heap.size := World.block_lt_of_cell? _ _ q_g0
  replace Hq := Lib.hid (ownL_later Hq.out hB)
  replace Hy := Lib.hid (ownL_later Hy.out hB)
  replace Hu := Lib.hid (ownL_later Hu.out hB)
  replace Hg := Lib.hid (ownL_later Hg.out hB)
  have Hh := Lib.hid (how.1)
  have HS18 := Lib.hid hB.size
  replace HB := Lib.hid (HB.out.trans (hB.mono HB.out.size))
  have q_h0 := box_cell hbx (j := 0) rfl
  have q_h1 := box_cell hbx (j := 1) rfl
  have q_h2 := box_cell hbx (j := 2) rfl
  have q_h3 := box_cell hbx (j := 3) rfl
  have q_h4 := box_cell hbx (j := 4) rfl
  have b_h := heap_lt hbx
  have HN_h := Lib.hid how.2; have HSb_h := Lib.hid b_h; have HSc_h := Lib.hid hge; have HNB_h := Lib.hid hnb
  clear hB hge hbx hnb how
  go_wp2_with fail
  refine (eqPo bo_r t_r poF_of poF_of Hh.out Hq.out).mono ?_
  rintro e w_19 ⟨rfl, hg⟩
  have hB := hg.below
  replace q_a0 := (hB.cell (show (⟨w.heap.size, 0, none⟩ : Addr).block < _ from World.block_lt_of_cell? _ _ q_a0)).trans q_a0
  replace q_a1 := (hB.cell (show (⟨w.heap.size, 1, none⟩ : Addr).block < _ from World.block_lt_of_cell? _ _ q_a1)).trans q_a1
  replace q_a2 := (hB.cell (show (⟨w.heap.size, 2, none⟩ : Addr).block < _ from World.block_lt_of_cell? _ _ q_a2)).trans q_a2
  replace q_a3 := (hB.cell (show (⟨w.heap.size, 3, none⟩ : Addr).block < _ from World.block_lt_of_cell? _ _ q_a3)).trans q_a3
  replace q_a4 := (hB.cell (show (⟨w.heap.size, 4, none⟩ : Addr).block < _ from World.block_lt_of_cell? _ _ q_a4)).trans q_a4
  replace b_a : w.heap.size < w_19.heap.size := World.block_lt_of_cell? _ _ q_a0
  replace q_b0 := (hB.cell (show (⟨w.heap.size + 1, 0, none⟩ : Addr).block < _ from World.block_lt_of_cell? _ _ q_b0)).trans q_b0
  replace q_b1 := (hB.cell (show (⟨w.heap.size + 1, 1, none⟩ : Addr).block < _ from World.block_lt_of_cell? _ _ q_b1)).trans q_b1
  replace q_b2 := (hB.cell (show (⟨w.heap.size + 1, 2, none⟩ : Addr).block < _ from World.block_lt_of_cell? _ _ q_b2)).trans q_b2
  replace q_b3 := (hB.cell (show (⟨w.heap.size + 1, 3, none⟩ : Addr).block < _ from World.block_lt_of_cell? _ _ q_b3)).trans q_b3
  replace q_b4 := (hB.cell (show (⟨w.heap.size + 1, 4, none⟩ : Addr).block < _ from World.block_lt_of_cell? _ _ q_b4)).trans q_b4
  replace b_b : w.heap.size + 1 < w_19.heap.size := World.block_lt_of_cell? _ _ q_b0
  replace q_q0 := (hB.cell (show (⟨g_q, 0, none⟩ : Addr).block < _ from World.block_lt_of_cell? _ _ q_q0)).trans q_q0
  replace q_q1 := (hB.cell (show (⟨g_q, 1, none⟩ : Addr).block < _ from World.block_lt_of_cell? _ _ q_q1)).trans q_q1
  replace q_q2 := (hB.cell (show (⟨g_q, 2, none⟩ : Addr).block < _ from World.block_lt_of_cell? _ _ q_q2)).trans q_q2
  replace q_q3 := (hB.cell (show (⟨g_q, 3, none⟩ : Addr).block < _ from World.block_lt_of_cell? _ _ q_q3)).trans q_q3
  replace q_q4 := (hB.cell (show (⟨g_q, 4, none⟩ : Addr).block < _ from World.block_lt_of_cell? _ _ q_q4)).trans q_q4
  replace b_q : g_q < w_19.heap.size := World.block_lt_of_cell? _ _ q_q0
  replace q_y0 := (hB.cell (show (⟨w_4.heap.size, 0, none⟩ : Addr).block < _ from World.block_lt_of_cell? _ _ q_y0)).trans q_y0
  replace q_y1 := (hB.cell (show (⟨w_4.heap.size, 1, none⟩ : Addr).block < _ from World.block_lt_of_cell? _ _ q_y1)).trans q_y1
  replace q_y2 := (hB.cell (show (⟨w_4.heap.size, 2, none⟩ : Addr).block < _ from World.block_lt_of_cell? _ _ q_y2)).trans q_y2
  replace q_y3 := (hB.cell (show (⟨w_4.heap.size, 3, none⟩ : Addr).block < _ from World.block_lt_of_cell? _ _ q_y3)).trans q_y3
  replace q_y4 := (hB.cell (show (⟨w_4.heap.size, 4, none⟩ : Addr).block < _ from World.block_lt_of_cell? _ _ q_y4)).trans q_y4
  replace b_y : w_4.heap.size < w_19.heap.size := World.block_lt_of_cell? _ _ q_y0
  replace q_u0 := (hB.cell (show (⟨w_6.heap.size, 0, none⟩ : Addr).block < _ from World.block_lt_of_cell? _ _ q_u0)).trans q_u0
  replace q_u1 := (hB.cell (show (⟨w_6.heap.size, 1, none⟩ : Addr).block < _ from World.block_lt_of_cell? _ _ q_u1)).trans q_u1
  replace q_u2 := (hB.cell (show (⟨w_6.heap.size, 2, none⟩ : Addr).block < _ from World.block_lt_of_cell? _ _ q_u2)).trans q_u2
  replace q_u3 := (hB.cell (show (⟨w_6.heap.size, 3, none⟩ : Addr).block < _ from World.block_lt_of_cell? _ _ q_u3)).trans q_u3
  replace q_u4 := (hB.cell (show (⟨w_6.heap.size, 4, none⟩ : Addr).block < _ from World.block_lt_of_cell? _ _ q_u4)).trans q_u4
  replace b_u : w_6.heap.size < w_19.heap.size := World.block_lt_of_cell? _ _ q_u0
  replace q_g0 := (hB.cell (show (⟨w_8.heap.size, 0, none⟩ : Addr).block < _ from World.block_lt_of_cell? _ _ q_g0)).trans q_g0
  replace q_g1 := (hB.cell (show (⟨w_8.heap.size, 1, none⟩ : Addr).block < _ from World.block_lt_of_cell? _ _ q_g1)).trans q_g1
  replace q_g2 := (hB.cell (show (⟨w_8.heap.size, 2, none⟩ : Addr).block < _ from World.block_lt_of_cell? _ _ q_g2)).trans q_g2
  replace q_g3 := (hB.cell (show (⟨w_8.heap.size, 3, none⟩ : Addr).block < _ from World.block_lt_of_cell? _ _ q_g3)).trans q_g3
  replace q_g4 := (hB.cell (show (⟨w_8.heap.size, 4, none⟩ : Addr).block < _ from World.block_lt_of_cell? _ _ q_g4)).trans q_g4
  replace b_g : w_8.heap.size < w_19.heap.size := World.block_lt_of_cell? _ _ q_g0
  replace q_h0 := (hB.cell (show (⟨g_h, 0, none⟩ : Addr).block < _ from World.block_lt_of_cell? _ _ q_h0)).trans q_h0
  replace q_h1 := (hB.cell (show (⟨g_h, 1, none⟩ : Addr).block < _ from World.block_lt_of_cell? _ _ q_h1)).trans q_h1
  replace q_h2 := (hB.cell (show (⟨g_h, 2, none⟩ : Addr).block < _ from World.block_lt_of_cell? _ _ q_h2)).trans q_h2
  replace q_h3 := (hB.cell (show (⟨g_h, 3, none⟩ : Addr).block < _ from World.block_lt_of_cell? _ _ q_h3)).trans q_h3
  replace q_h4 := (hB.cell (show (⟨g_h, 4, none⟩ : Addr).block < _ from World.block_lt_of_cell? _ _ q_h4)).trans q_h4
  replace b_h : g_h < w_19.heap.size := World.block_lt_of_cell? _ _ q_h0
  replace Hq := Lib.hid (ownL_later Hq.out hB)
  replace Hy := Lib.hid (ownL_later Hy.out hB)
  replace Hu := Lib.hid (ownL_later Hu.out hB)
  replace Hg := Lib.hid (ownL_later Hg.out hB)
  replace Hh := Lib.hid (ownL_later Hh.out hB)
  have HS19 := Lib.hid hB.size
  replace HB := Lib.hid (HB.out.trans (hB.mono HB.out.size))
  clear hB hg
  go_wp2_with fail
  refine (hdPo bo_r t_r poF_of _ 1 _ rfl _ (ownL_read Hg.out (by have := HS0.out; have := HS1.out; have := HS2.out; have := HS3.out; have := HSb_q.out; have := HSc_q.out; have := HS4.out; have := HS5.out; have := HSb_y.out; have := HS6.out; have := HS7.out; have := HSb_u.out; have := HS8.out; have := HS9.out; have := HSb_g.out; have := HS10.out; have := HS11.out; have := HS12.out; have := HS13.out; have := HS14.out; have := HS15.out; have := HS16.out; have := HS17.out; have := HS18.out; have := HSb_h.out; have := HSc_h.out; have := HS19.out; omega)) (Nat.le_refl _) HCT_g.out).mono ?_
  rintro e w_20 ⟨rfl, hg⟩
  have hB := hg.below
  replace q_a0 := (hB.cell (show (⟨w.heap.size, 0, none⟩ : Addr).block < _ from World.block_lt_of_cell? _ _ q_a0)).trans q_a0
  replace q_a1 := (hB.cell (show (⟨w.heap.size, 1, none⟩ : Addr).block < _ from World.block_lt_of_cell? _ _ q_a1)).trans q_a1
  replace q_a2 := (hB.cell (show (⟨w.heap.size, 2, none⟩ : Addr).block < _ from World.block_lt_of_cell? _ _ q_a2)).trans q_a2
  replace q_a3 := (hB.cell (show (⟨w.heap.size, 3, none⟩ : Addr).block < _ from World.block_lt_of_cell? _ _ q_a3)).trans q_a3
  replace q_a4 := (hB.cell (show (⟨w.heap.size, 4, none⟩ : Addr).block < _ from World.block_lt_of_cell? _ _ q_a4)).trans q_a4
  replace b_a : w.heap.size < w_20.heap.size := World.block_lt_of_cell? _ _ q_a0
  replace q_b0 := (hB.cell (show (⟨w.heap.size + 1, 0, none⟩ : Addr).block < _ from World.block_lt_of_cell? _ _ q_b0)).trans q_b0
  replace q_b1 := (hB.cell (show (⟨w.heap.size + 1, 1, none⟩ : Addr).block < _ from World.block_lt_of_cell? _ _ q_b1)).trans q_b1
  replace q_b2 := (hB.cell (show (⟨w.heap.size + 1, 2, none⟩ : Addr).block < _ from World.block_lt_of_cell? _ _ q_b2)).trans q_b2
  replace q_b3 := (hB.cell (show (⟨w.heap.size + 1, 3, none⟩ : Addr).block < _ from World.block_lt_of_cell? _ _ q_b3)).trans q_b3
  replace q_b4 := (hB.cell (show (⟨w.heap.size + 1, 4, none⟩ : Addr).block < _ from World.block_lt_of_cell? _ _ q_b4)).trans q_b4
  replace b_b : w.heap.size + 1 < w_20.heap.size := World.block_lt_of_cell? _ _ q_b0
  replace q_q0 := (hB.cell (show (⟨g_q, 0, none⟩ : Addr).block < _ from World.block_lt_of_cell? _ _ q_q0)).trans q_q0
  replace q_q1 := (hB.cell (show (⟨g_q, 1, none⟩ : Addr).block < _ from World.block_lt_of_cell? _ _ q_q1)).trans q_q1
  replace q_q2 := (hB.cell (show (⟨g_q, 2, none⟩ : Addr).block < _ from World.block_lt_of_cell? _ _ q_q2)).trans q_q2
  replace q_q3 := (hB.cell (show (⟨g_q, 3, none⟩ : Addr).block < _ from World.block_lt_of_cell? _ _ q_q3)).trans q_q3
  replace q_q4 := (hB.cell (show (⟨g_q, 4, none⟩ : Addr).block < _ from World.block_lt_of_cell? _ _ q_q4)).trans q_q4
  replace b_q : g_q < w_20.heap.size := World.block_lt_of_cell? _ _ q_q0
  replace q_y0 := (hB.cell (show (⟨w_4.heap.size, 0, none⟩ : Addr).block < _ from World.block_lt_of_cell? _ _ q_y0)).trans q_y0
  replace q_y1 := (hB.cell (show (⟨w_4.heap.size, 1, none⟩ : Addr).block < _ from World.block_lt_of_cell? _ _ q_y1)).trans q_y1
  replace q_y2 := (hB.cell (show (⟨w_4.heap.size, 2, none⟩ : Addr).block < _ from World.block_lt_of_cell? _ _ q_y2)).trans q_y2
  replace q_y3 := (hB.cell (show (⟨w_4.heap.size, 3, none⟩ : Addr).block < _ from World.block_lt_of_cell? _ _ q_y3)).trans q_y3
  replace q_y4 := (hB.cell (show (⟨w_4.heap.size, 4, none⟩ : Addr).block < _ from World.block_lt_of_cell? _ _ q_y4)).trans q_y4
  replace b_y : w_4.heap.size < w_20.heap.size := World.block_lt_of_cell? _ _ q_y0
  replace q_u0 := (hB.cell (show (⟨w_6.heap.size, 0, none⟩ : Addr).block < _ from World.block_lt_of_cell? _ _ q_u0)).trans q_u0
  replace q_u1 := (hB.cell (show (⟨w_6.heap.size, 1, none⟩ : Addr).block < _ from World.block_lt_of_cell? _ _ q_u1)).trans q_u1
  replace q_u2 := (hB.cell (show (⟨w_6.heap.size, 2, none⟩ : Addr).block < _ from World.block_lt_of_cell? _ _ q_u2)).trans q_u2
  replace q_u3 := (hB.cell (show (⟨w_6.heap.size, 3, none⟩ : Addr).block < _ from World.block_lt_of_cell? _ _ q_u3)).trans q_u3
  replace q_u4 := (hB.cell (show (⟨w_6.heap.size, 4, none⟩ : Addr).block < _ from World.block_lt_of_cell? _ _ q_u4)).trans q_u4
  replace b_u : w_6.heap.size < w_20.heap.size := World.block_lt_of_cell? _ _ q_u0
  replace q_g0 := (hB.cell (show (⟨w_8.heap.size, 0, none⟩ : Addr).block < _ from World.block_lt_of_cell? _ _ q_g0)).trans q_g0
  replace q_g1 := (hB.cell (show (⟨w_8.heap.size, 1, none⟩ : Addr).block < _ from World.block_lt_of_cell? _ _ q_g1)).trans q_g1
  replace q_g2 := (hB.cell (show (⟨w_8.heap.size, 2, none⟩ : Addr).block < _ from World.block_lt_of_cell? _ _ q_g2)).trans q_g2
  replace q_g3 := (hB.cell (show (⟨w_8.heap.size, 3, none⟩ : Addr).block < _ from World.block_lt_of_cell? _ _ q_g3)).trans q_g3
  replace q_g4 := (hB.cell (show (⟨w_8.heap.size, 4, none⟩ : Addr).block < _ from World.block_lt_of_cell? _ _ q_g4)).trans q_g4
  replace b_g : w_8.heap.size < w_20.heap.size := World.block_lt_of_cell? _ _ q_g0
  replace q_h0 := (hB.cell (show (⟨g_h, 0, none⟩ : Addr).block < _ from World.block_lt_of_cell? _ _ q_h0)).trans q_h0
  replace q_h1 := (hB.cell (show (⟨g_h, 1, none⟩ : Addr).block < _ from World.block_lt_of_cell? _ _ q_h1)).trans q_h1
  replace q_h2 := (hB.cell (show (⟨g_h, 2, none⟩ : Addr).block < _ from World.block_lt_of_cell? _ _ q_h2)).trans q_h2
  replace q_h3 := (hB.cell (show (⟨g_h, 3, none⟩ : Addr).block < _ from World.block_lt_of_cell? _ _ q_h3)).trans q_h3
  replace q_h4 := (hB.cell (show (⟨g_h, 4, none⟩ : Addr).block < _ from World.block_lt_of_cell? _ _ q_h4)).trans q_h4
  replace b_h : g_h < w_20.heap.size := World.block_lt_of_cell? _ _ q_h0
  replace Hq := Lib.hid (ownL_later Hq.out hB)
  replace Hy := Lib.hid (ownL_later Hy.out hB)
  replace Hu := Lib.hid (ownL_later Hu.out hB)
  replace Hg := Lib.hid (ownL_later Hg.out hB)
  replace Hh := Lib.hid (ownL_later Hh.out hB)
  have HS20 := Lib.hid hB.size
  replace HB := Lib.hid (HB.out.trans (hB.mono HB.out.size))
  rw [HM.out]
  clear hB hg
  go_wp2_with fail
  go_ret
  exact ⟨rfl, HB.out⟩
end Go.Proofs.Ytgcdfkpidcdicaa
