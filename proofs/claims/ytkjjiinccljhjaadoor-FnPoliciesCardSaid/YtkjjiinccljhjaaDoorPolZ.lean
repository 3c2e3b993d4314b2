/- 2 texts in one. -/
import Derived.Test.YtkjjiinccljhjaaDoorDrU
import Derived.Test.YtkjjiinccljhjaaDoorLawPo
import Derived.Test.YtkjjiinccljhjaaDoorPrsM
import Derived.Test.YtkjjiinccljhjaaDoorPrsI
import Derived.Test.YtkjjiinccljhjaaDoorPolA
import Derived.Test.YtkjjiinccljhjaaDoorPrsK
import Derived.Test.YtkjjiinccljhjaaDoorBl
import Derived.Deep.CutRange
import Derived.Test.YtkjjiinccljhjaaDoorPolE
import Derived.Test.YtkjjiinccljhjaaDoorBig
import Derived.Test.YtkjjiinccljhjaaDoorRowOf
import Derived.Test.YtkjjiinccljhjaaDoorRowReads
namespace Go.Proofs.YtkjjiinccljhjaaDoor
/- PolsW -/
open Go.ChangeShapes Go.WideShapes Go.ChangeAt Go.RowKit

theorem mixed9 : Tryd.prog.follows .mixedOrders = true := by kernel_rfl
theorem allows_at (p : Pol) (a1 : Option Addr) (n1 c1 : Nat) (a2 : Option Addr) (n2 c2 : Nat) (a3 : Option Addr) (n3 c3 : Nat) (k : Int) (h : ByteArray) (w : World) (hr : ReadP w.heap.size w (.slice a1 n1 c1) (.slice a2 n2 c2) (.slice a3 n3 c3) p) (n : Nat) (os : Array Obj) :
    Calls Tryd.prog 15 #[.agg #[.bool p.set, .slice a1 n1 c1, .slice a2 n2 c2, .slice a3 n3 c3, .string p.non], .int .i64 k, .string h] (Sort.grow (w.drewN n) os) fun e w' => e = .returned (.bool (alB p k h)) ∧ ∃ q os', w' = Sort.grow ((Sort.grow (w.drewN n) os).drewN q) os' :=
  allows_impl p.set p.scr p.sty p.img p.non a1 n1 c1 a2 n2 c2 a3 n3 c3 k h _ (hr.up (show Grw w _ from ⟨n, os, rfl⟩).below)
theorem inline_at (p : Pol) (a1 : Option Addr) (n1 c1 : Nat) (a2 : Option Addr) (n2 c2 : Nat) (a3 : Option Addr) (n3 c3 : Nat) (h : ByteArray) (w : World) (hr : ReadP w.heap.size w (.slice a1 n1 c1) (.slice a2 n2 c2) (.slice a3 n3 c3) p) (n : Nat) (os : Array Obj) :
    Calls Tryd.prog 16 #[.agg #[.bool p.set, .slice a1 n1 c1, .slice a2 n2 c2, .slice a3 n3 c3, .string p.non], .string h] (Sort.grow (w.drewN n) os) fun e w' => e = .returned (.bool (inlB p h)) ∧ ∃ q os', w' = Sort.grow ((Sort.grow (w.drewN n) os).drewN q) os' :=
  inline_impl p.set p.scr p.sty p.img p.non a1 n1 c1 a2 n2 c2 a3 n3 c3 h _ (hr.up (show Grw w _ from ⟨n, os, rfl⟩).below)
theorem isI_at (p : Pol) (hz : PolSm p) (a1 : Option Addr) (n1 c1 : Nat) (a2 : Option Addr) (n2 c2 : Nat) (a3 : Option Addr) (n3 c3 : Nat) (w : World) (hr : ReadP w.heap.size w (.slice a1 n1 c1) (.slice a2 n2 c2) (.slice a3 n3 c3) p) (n : Nat) (os : Array Obj) :
    Calls Tryd.prog 8 #[.agg #[.bool p.set, .slice a1 n1 c1, .slice a2 n2 c2, .slice a3 n3 c3, .string p.non]] (Sort.grow (w.drewN n) os) fun e w' => e = .returned (.bool (isPol p)) ∧ ∃ q os', w' = Sort.grow ((Sort.grow (w.drewN n) os).drewN q) os' :=
  isPol_impl p.set p.scr p.sty p.img p.non a1 n1 c1 a2 n2 c2 a3 n3 c3 hz _ (hr.up (show Grw w _ from ⟨n, os, rfl⟩).below)
theorem isS_at (p : Pol) (hz : PolSm p) (a1 : Option Addr) (n1 c1 : Nat) (a2 : Option Addr) (n2 c2 : Nat) (a3 : Option Addr) (n3 c3 : Nat) (w : World) (hr : ReadP w.heap.size w (.slice a1 n1 c1) (.slice a2 n2 c2) (.slice a3 n3 c3) p) (n : Nat) (os : Array Obj) :
    Calls Tryd.prog 9 #[.agg #[.bool p.set, .slice a1 n1 c1, .slice a2 n2 c2, .slice a3 n3 c3, .string p.non]] (Sort.grow (w.drewN n) os) fun e w' => e = .returned (.bool (isPol p)) ∧ ∃ q os', w' = Sort.grow ((Sort.grow (w.drewN n) os).drewN q) os' :=
  isPol_spec p.set p.scr p.sty p.img p.non a1 n1 c1 a2 n2 c2 a3 n3 c3 hz _ (hr.up (show Grw w _ from ⟨n, os, rfl⟩).below)
theorem eqP_at (p : Pol) (a1 : Option Addr) (n1 c1 : Nat) (a2 : Option Addr) (n2 c2 : Nat) (a3 : Option Addr) (n3 c3 : Nat) (a1' : Option Addr) (n1' c1' : Nat) (a2' : Option Addr) (n2' c2' : Nat) (a3' : Option Addr) (n3' c3' : Nat) (w : World) (hr : ReadP w.heap.size w (.slice a1 n1 c1) (.slice a2 n2 c2) (.slice a3 n3 c3) p) (hr' : ReadP w.heap.size w (.slice a1' n1' c1') (.slice a2' n2' c2') (.slice a3' n3' c3') p) (n : Nat) (os : Array Obj) :
    Calls Tryd.prog 10 #[.agg #[.bool p.set, .slice a1 n1 c1, .slice a2 n2 c2, .slice a3 n3 c3, .string p.non], .agg #[.bool p.set, .slice a1' n1' c1', .slice a2' n2' c2', .slice a3' n3' c3', .string p.non]] (Sort.grow (w.drewN n) os) fun e w' => e = .returned (.bool true) ∧ ∃ q os', w' = Sort.grow ((Sort.grow (w.drewN n) os).drewN q) os' := by
  have h := eqPol_impl p.set p.scr p.sty p.img p.non a1 n1 c1 a2 n2 c2 a3 n3 c3 p.set p.scr p.sty p.img p.non a1' n1' c1' a2' n2' c2' a3' n3' c3' _ (hr.up (show Grw w _ from ⟨n, os, rfl⟩).below) (hr'.up (show Grw w (Sort.grow (w.drewN n) os) from ⟨n, os, rfl⟩).below)
  have e : eqP p p = true := by simp [eqP]
  exact e ▸ h

set_option maxRecDepth 100000 in
set_option maxHeartbeats 8000000 in
theorem policies_walk (a_c : Option Addr) (len_c cap_c : Nat) (w : World) (hm : Max0 w) (r_c : CodeOk w.heap.size w (.slice a_c len_c cap_c) len_c) (hb_c : ¬ (1048576 : Int) < (len_c : Int)) :
    Calls Tryd.prog 3 #[.slice a_c len_c cap_c] w fun e w' => e = .returned (.bool true) ∧ Below w.heap.size w w' := by
  have HCO := Lib.hid r_c; have HM := Lib.hid hm; clear r_c hm
  go_enter Tryd.func3, Tryd.ntmps3
  go_wp2_with fail
  refine (big_no a_c len_c cap_c _ (by omega)).mono ?_
  rintro e w1 ⟨rfl, rfl⟩
  go_wp2_with fail
  refine (drawFmtPol_any _ len_c _ HCO.out).mono ?_
  rintro e w2 ⟨pb, pa1, pn1, pc1, pa2, pn2, pc2, pa3, pn3, pc3, px, py, pz, pt, rfl, hr1, hr2, hr3, hf, hb2⟩
  have HB := Lib.hid hb2
  have hrp := Rd1.readP hr1 hr2 hr3 pb pt; have HZP := Lib.hid (hf.sm pb); have HFZ := Lib.hid (fmt_few (bo := pb) hf); clear hr1 hr2 hr3 hf hb2
  obtain ⟨W2, hW⟩ : ∃ W, w2.alloc (.cells #[.bool pb, .slice pa1 pn1 pc1, .slice pa2 pn2 pc2, .slice pa3 pn3 pc3, .string pt] 26) = W := ⟨_, rfl⟩
  have hbx : Below w2.heap.size w2 W2 := by rw [← hW]; exact (Below.refl _ _).alloc (Nat.le_refl _) _
  replace HB := Lib.hid (HB.out.trans (hbx.mono HB.out.size))
  have HRp := Lib.hid (ReadP.up hrp hbx)
  have HHp := Lib.hid (show W2.heap[w2.heap.size]? = some (.cells #[.bool pb, .slice pa1 pn1 pc1, .slice pa2 pn2 pc2, .slice pa3 pn3 pc3, .string pt] 26 (0, 0)) by rw [← hW]; exact heap_alloc_new w2 _)
  obtain ⟨pB, hB9⟩ : ∃ c, w2.heap.size = c := ⟨_, rfl⟩
  rw [hB9] at HHp
  clear hbx
  clear hrp
  go_upto_region 4 with (fail)
  try simp only [hB9]
  try rw [hW]
  clear hW hB9
  have q_p0 := box_cell HHp.out (j := 0) rfl
  have q_p1 := box_cell HHp.out (j := 1) rfl
  have q_p2 := box_cell HHp.out (j := 2) rfl
  have q_p3 := box_cell HHp.out (j := 3) rfl
  have q_p4 := box_cell HHp.out (j := 4) rfl
  go_wp2_with fail
  refine (fmtPol_impl pb px py pz pt pa1 pn1 pc1 pa2 pn2 pc2 pa3 pn3 pc3 HZP.out _ HRp.out).mono ?_
  rintro e w3 ⟨rfl, hb3⟩
  clear q_p0 q_p1 q_p2 q_p3 q_p4
  replace HRp := Lib.hid (HRp.out.up hb3); replace HHp := Lib.hid (below_heap hb3 (heap_lt HHp.out) HHp.out)
  replace HB := Lib.hid (HB.out.trans (hb3.mono HB.out.size))
  clear hb3
  go_wp2_with fail
  have HX := Lib.hid (prs_impl (fmtP ⟨pb, px, py, pz, pt⟩) HFZ.out _ (HM.out.on HB.out))
  obtain ⟨xp, xo, hx⟩ : ∃ q o, prsP (fmtP ⟨pb, px, py, pz, pt⟩) = (q, o) := ⟨_, _, rfl⟩
  obtain ⟨xb, xx, xy, xz, xt⟩ := xp
  rw [hx] at HX
  have HXP := Lib.hid hx; clear hx
  refine HX.out.mono ?_
  clear HX
  rintro e w4 ⟨xa1, xn1, xc1, xa2, xn2, xc2, xa3, xn3, xc3, rfl, ho, hb4⟩
  replace HRp := Lib.hid (HRp.out.up hb4); replace HHp := Lib.hid (below_heap hb4 (heap_lt HHp.out) HHp.out)
  replace HB := Lib.hid (HB.out.trans (hb4.mono HB.out.size))
  have hrx := ho.reads (p := ⟨xb, xx, xy, xz, xt⟩); clear ho hb4
  obtain ⟨W4, hW⟩ : ∃ W, w4.alloc (.cells #[.bool xb, .slice xa1 xn1 xc1, .slice xa2 xn2 xc2, .slice xa3 xn3 xc3, .string xt] 26) = W := ⟨_, rfl⟩
  have hbx : Below w4.heap.size w4 W4 := by rw [← hW]; exact (Below.refl _ _).alloc (Nat.le_refl _) _
  replace HRp := Lib.hid (HRp.out.up hbx); replace HHp := Lib.hid (below_heap hbx (heap_lt HHp.out) HHp.out)
  replace HB := Lib.hid (HB.out.trans (hbx.mono HB.out.size))
  have HRx := Lib.hid (ReadP.up hrx hbx)
  have HHx := Lib.hid (show W4.heap[w4.heap.size]? = some (.cells #[.bool xb, .slice xa1 xn1 xc1, .slice xa2 xn2 xc2, .slice xa3 xn3 xc3, .string xt] 26 (0, 0)) by rw [← hW]; exact heap_alloc_new w4 _)
  obtain ⟨xB, hB9⟩ : ∃ c, w4.heap.size = c := ⟨_, rfl⟩
  rw [hB9] at HHx
  clear hbx
  clear hrx
  go_upto_region 5 with (fail)
  try simp only [hB9]
  try rw [hW]
  clear hW hB9
  have q_p0 := box_cell HHp.out (j := 0) rfl
  have q_p1 := box_cell HHp.out (j := 1) rfl
  have q_p2 := box_cell HHp.out (j := 2) rfl
  have q_p3 := box_cell HHp.out (j := 3) rfl
  have q_p4 := box_cell HHp.out (j := 4) rfl
  have q_x0 := box_cell HHx.out (j := 0) rfl
  have q_x1 := box_cell HHx.out (j := 1) rfl
  have q_x2 := box_cell HHx.out (j := 2) rfl
  have q_x3 := box_cell HHx.out (j := 3) rfl
  have q_x4 := box_cell HHx.out (j := 4) rfl
  have g_p0 := cell_grown (World.block_lt_of_cell? _ _ q_p0) q_p0
  have g_p1 := cell_grown (World.block_lt_of_cell? _ _ q_p1) q_p1
  have g_p2 := cell_grown (World.block_lt_of_cell? _ _ q_p2) q_p2
  have g_p3 := cell_grown (World.block_lt_of_cell? _ _ q_p3) q_p3
  have g_p4 := cell_grown (World.block_lt_of_cell? _ _ q_p4) q_p4
  have g_x0 := cell_grown (World.block_lt_of_cell? _ _ q_x0) q_x0
  have g_x1 := cell_grown (World.block_lt_of_cell? _ _ q_x1) q_x1
  have g_x2 := cell_grown (World.block_lt_of_cell? _ _ q_x2) q_x2
  have g_x3 := cell_grown (World.block_lt_of_cell? _ _ q_x3) q_x3
  have g_x4 := cell_grown (World.block_lt_of_cell? _ _ q_x4) q_x4
  clear q_p0 q_p1 q_p2 q_p3 q_p4 q_x0 q_x1 q_x2 q_x3 q_x4
  have HI := Lib.hid (isI_at ⟨pb, px, py, pz, pt⟩ HZP.out _ _ _ _ _ _ _ _ _ W4 HRp.out); have HS := Lib.hid (isS_at ⟨pb, px, py, pz, pt⟩ HZP.out _ _ _ _ _ _ _ _ _ W4 HRp.out)
  go_cut [45] from 27 to 45 (fun c wx => c = .bool false ∧ Below W4.heap.size W4 wx)
  case first =>
    cases hv : isPol ⟨pb, px, py, pz, pt⟩ with
    | false =>
      rw [hv] at HI HS
      clear hv
      refine wp_region_quiet_grown mixed9 (by kernel_rfl) ?_
      iterate 19 (go_big_quiet_step (first | (go_at_call 8; refine Calls.grown_of (HI.out _ _)) | (go_at_call 9; refine Calls.grown_of (HS.out _ _))))
      refine wpQuiet_nil ?_
      intro _ hw'; obtain ⟨⟨nq, osq⟩, hw''⟩ := hw'; subst hw''
      clear g_p0 g_p1 g_p2 g_p3 g_p4 g_x0 g_x1 g_x2 g_x3 g_x4
      have hb5 := (show Grw W4 (Sort.grow (W4.drewN nq) osq) from ⟨nq, osq, rfl⟩).below
      go_wp2_with fail
      go_meet
      exact ⟨rfl, hb5⟩
    | true =>
      rw [hv] at HI HS
      have hxv := HXP.out.symm.trans (prsP_valid hv)
      obtain ⟨hq, rfl⟩ := Prod.mk.inj hxv; obtain ⟨rfl, rfl, rfl, rfl, rfl⟩ := Pol.mk.inj hq; clear hxv hq
      have HE := Lib.hid (eqP_at ⟨xb, xx, xy, xz, xt⟩ _ _ _ _ _ _ _ _ _ _ _ _ _ _ _ _ _ _ W4 HRx.out HRp.out)
      clear hv
      refine wp_region_quiet_grown mixed9 (by kernel_rfl) ?_
      iterate 19 (go_big_quiet_step (first | (go_at_call 8; refine Calls.grown_of (HI.out _ _)) | (go_at_call 9; refine Calls.grown_of (HS.out _ _)) | (go_at_call 10; refine Calls.grown_of (HE.out _ _))))
      refine wpQuiet_nil ?_
      intro _ hw'; obtain ⟨⟨nq, osq⟩, hw''⟩ := hw'; subst hw''
      clear g_p0 g_p1 g_p2 g_p3 g_p4 g_x0 g_x1 g_x2 g_x3 g_x4
      have hb5 := (show Grw W4 (Sort.grow (W4.drewN nq) osq) from ⟨nq, osq, rfl⟩).below
      go_wp2_with fail
      go_meet
      exact ⟨rfl, hb5⟩
  obtain ⟨rfl, hb5⟩ := hcut
  rename World => w_5
  clear g_p0 g_p1 g_p2 g_p3 g_p4 g_x0 g_x1 g_x2 g_x3 g_x4
  replace HB := Lib.hid (HB.out.trans (hb5.mono HB.out.size))
  clear hb5 HI HS HXP HZP HFZ HRp HRx HHp HHx
  go_wp2_with fail
  refine (drawPrsPol_any _ len_c _ (codeOk_later HCO.out HB.out)).mono ?_
  rintro e w6 ⟨s, rfl, hs, hb6⟩
  have HSZ := Lib.hid hs
  replace HB := Lib.hid (HB.out.trans (hb6.mono HB.out.size))
  clear hs hb6
  obtain ⟨yp, yo, hx⟩ : ∃ q o, prsP s = (q, o) := ⟨_, _, rfl⟩
  obtain ⟨yb, yx, yy, yz, yt⟩ := yp
  have HXP := Lib.hid hx; clear hx
  go_wp2_with fail
  have hX := prs_impl s HSZ.out _ (HM.out.on HB.out); rw [HXP.out] at hX
  refine hX.mono ?_
  clear hX
  rintro e w7 ⟨ya1, yn1, yc1, ya2, yn2, yc2, ya3, yn3, yc3, rfl, ho, hb7⟩
  replace HB := Lib.hid (HB.out.trans (hb7.mono HB.out.size))
  have hry := ho.reads (p := ⟨yb, yx, yy, yz, yt⟩); clear ho hb7
  obtain ⟨W7, hW⟩ : ∃ W, w7.alloc (.cells #[.bool yb, .slice ya1 yn1 yc1, .slice ya2 yn2 yc2, .slice ya3 yn3 yc3, .string yt] 26) = W := ⟨_, rfl⟩
  have hbx : Below w7.heap.size w7 W7 := by rw [← hW]; exact (Below.refl _ _).alloc (Nat.le_refl _) _
  replace HB := Lib.hid (HB.out.trans (hbx.mono HB.out.size))
  have HRy := Lib.hid (ReadP.up hry hbx)
  have HHy := Lib.hid (show W7.heap[w7.heap.size]? = some (.cells #[.bool yb, .slice ya1 yn1 yc1, .slice ya2 yn2 yc2, .slice ya3 yn3 yc3, .string yt] 26 (0, 0)) by rw [← hW]; exact heap_alloc_new w7 _)
  obtain ⟨yB, hB9⟩ : ∃ c, w7.heap.size = c := ⟨_, rfl⟩
  rw [hB9] at HHy
  clear hbx
  clear hry
  go_upto_region 9 with (fail)
  try simp only [hB9]
  try rw [hW]
  clear hW hB9
  go_wp2_with fail
  have hX := prs_spec s HSZ.out W7; rw [HXP.out] at hX
  refine hX.mono ?_
  clear hX
  rintro e w8 ⟨za1, zn1, zc1, za2, zn2, zc2, za3, zn3, zc3, rfl, ho, hb8⟩
  replace HRy := Lib.hid (HRy.out.up hb8); replace HHy := Lib.hid (below_heap hb8 (heap_lt HHy.out) HHy.out)
  replace HB := Lib.hid (HB.out.trans (hb8.mono HB.out.size))
  clear ho hb8
  obtain ⟨W8, hW⟩ : ∃ W, w8.alloc (.cells #[.bool yb, .slice za1 zn1 zc1, .slice za2 zn2 zc2, .slice za3 zn3 zc3, .string yt] 26) = W := ⟨_, rfl⟩
  have hbx : Below w8.heap.size w8 W8 := by rw [← hW]; exact (Below.refl _ _).alloc (Nat.le_refl _) _
  replace HRy := Lib.hid (HRy.out.up hbx); replace HHy := Lib.hid (below_heap hbx (heap_lt HHy.out) HHy.out)
  replace HB := Lib.hid (HB.out.trans (hbx.mono HB.out.size))
  clear hbx
  obtain ⟨zB, hB9⟩ : ∃ c, w8.heap.size = c := ⟨_, rfl⟩
  go_upto_region 10 with (fail)
  try simp only [hB9]
  try rw [hW]
  clear hW hB9
  go_cut [69] from 58 to 69 (fun c wx => c = .bool false ∧ Below W8.heap.size W8 wx)
  case first =>
    cases yo with
    | false =>
      go_wp2_with fail
      go_meet
      exact ⟨rfl, Below.refl _ _⟩
    | true =>
      have hfy : fmtP ⟨yb, yx, yy, yz, yt⟩ = s := by have h := prsP_yes (s := s) (by rw [HXP.out]); rw [HXP.out] at h; exact h
      have hzy : PolSm ⟨yb, yx, yy, yz, yt⟩ := by have h := prsP_sm HSZ.out; rw [HXP.out] at h; exact h
      have q_y0 := box_cell HHy.out (j := 0) rfl
      have q_y1 := box_cell HHy.out (j := 1) rfl
      have q_y2 := box_cell HHy.out (j := 2) rfl
      have q_y3 := box_cell HHy.out (j := 3) rfl
      have q_y4 := box_cell HHy.out (j := 4) rfl
      have hF := fmtPol_impl yb yx yy yz yt ya1 yn1 yc1 ya2 yn2 yc2 ya3 yn3 yc3 hzy _ HRy.out
      rw [hfy] at hF
      have HF := Lib.hid hF; clear hF hfy hzy
      go_wp2_with fail
      refine HF.out.mono ?_
      rintro e w9 ⟨rfl, hb9⟩
      have HB9 := Lib.hid hb9; clear hb9
      go_wp2_with fail
      go_meet
      exact ⟨rfl, HB9.out⟩
  obtain ⟨rfl, hb9⟩ := hcut
  rename World => w_9
  replace HB := Lib.hid (HB.out.trans (hb9.mono HB.out.size))
  clear hb9 HXP HSZ HRy HHy
  go_wp2_with fail
  refine (drawNarPol_any _ len_c _ (codeOk_later HCO.out HB.out)).mono ?_
  rintro e w10 ⟨ub, ua1, un1, uc1, ua2, un2, uc2, ua3, un3, uc3, ux, uy, uz, ut, vb, va1, vn1, vc1, va2, vn2, vc2, va3, vn3, vc3, vx, vy, vz, vt, rfl, hr1, hr2, hr3, hf, hs1, hs2, hs3, hg, hb10⟩
  replace HB := Lib.hid (HB.out.trans (hb10.mono HB.out.size))
  clear hb10
  have hru := Rd1.readP hr1 hr2 hr3 ub ut; have hrv := Rd1.readP hs1 hs2 hs3 vb vt; have HZu := Lib.hid (hf.sm ub); have HZv := Lib.hid (hg.sm vb); clear hr1 hr2 hr3 hs1 hs2 hs3 hf hg
  go_upto_region 13 with (fail)
  obtain ⟨WA, hWA⟩ : ∃ W, w10.alloc (.cells #[.bool ub, .slice ua1 un1 uc1, .slice ua2 un2 uc2, .slice ua3 un3 uc3, .string ut] 26) = W := ⟨_, rfl⟩
  have hba : Below w10.heap.size w10 WA := by rw [← hWA]; exact (Below.refl _ _).alloc (Nat.le_refl _) _
  have hsz : WA.heap.size = w10.heap.size + 1 := by rw [← hWA, size_alloc]
  have hha : WA.heap[w10.heap.size]? = some (.cells #[.bool ub, .slice ua1 un1 uc1, .slice ua2 un2 uc2, .slice ua3 un3 uc3, .string ut] 26 (0, 0)) := by rw [← hWA]; exact heap_alloc_new w10 _
  rw [hWA]
  obtain ⟨WB, hWB⟩ : ∃ W, WA.alloc (.cells #[.bool vb, .slice va1 vn1 vc1, .slice va2 vn2 vc2, .slice va3 vn3 vc3, .string vt] 26) = W := ⟨_, rfl⟩
  have hbb : Below WA.heap.size WA WB := by rw [← hWB]; exact (Below.refl _ _).alloc (Nat.le_refl _) _
  rw [hWB]
  have HHu := Lib.hid (below_heap hbb (heap_lt hha) hha)
  have HHv := Lib.hid (show WB.heap[w10.heap.size + 1]? = some (.cells #[.bool vb, .slice va1 vn1 vc1, .slice va2 vn2 vc2, .slice va3 vn3 vc3, .string vt] 26 (0, 0)) by have h := heap_alloc_new WA (.cells #[.bool vb, .slice va1 vn1 vc1, .slice va2 vn2 vc2, .slice va3 vn3 vc3, .string vt] 26); rw [hWB, hsz] at h; exact h)
  have HRu := Lib.hid ((hru.up hba).up hbb); have HRv := Lib.hid ((hrv.up hba).up hbb)
  replace HB := Lib.hid ((HB.out.trans (hba.mono HB.out.size)).trans (hbb.mono (Nat.le_trans HB.out.size hba.size)))
  clear hru hrv hba hbb hha hsz hWA hWB
  obtain ⟨uB, hB9⟩ : ∃ c, w10.heap.size = c := ⟨_, rfl⟩
  rw [hB9] at HHu HHv
  try simp only [hB9]
  clear hB9
  have q_u0 := box_cell HHu.out (j := 0) rfl
  have q_u1 := box_cell HHu.out (j := 1) rfl
  have q_u2 := box_cell HHu.out (j := 2) rfl
  have q_u3 := box_cell HHu.out (j := 3) rfl
  have q_u4 := box_cell HHu.out (j := 4) rfl
  have q_v0 := box_cell HHv.out (j := 0) rfl
  have q_v1 := box_cell HHv.out (j := 1) rfl
  have q_v2 := box_cell HHv.out (j := 2) rfl
  have q_v3 := box_cell HHv.out (j := 3) rfl
  have q_v4 := box_cell HHv.out (j := 4) rfl
  have hX := narrow_impl ub ux uy uz ut ua1 un1 uc1 ua2 un2 uc2 ua3 un3 uc3 vb vx vy vz vt va1 vn1 vc1 va2 vn2 vc2 va3 vn3 vc3 WB HZu.out HZv.out HRu.out HRv.out
  obtain ⟨np, hnp⟩ : ∃ q, nrP ⟨ub, ux, uy, uz, ut⟩ ⟨vb, vx, vy, vz, vt⟩ = q := ⟨_, rfl⟩
  rw [hnp] at hX
  obtain ⟨nb, nx, ny, nz, nt⟩ := np
  have HNP := Lib.hid hnp; have HX := Lib.hid hX; clear hnp hX
  go_wp2_with fail
  refine HX.out.mono ?_
  clear HX
  clear q_u0 q_u1 q_u2 q_u3 q_u4 q_v0 q_v1 q_v2 q_v3 q_v4
  rintro e w11 ⟨na1, nn1, nc1, na2, nn2, nc2, na3, nn3, nc3, rfl, ho, hb11⟩
  replace HRu := Lib.hid (HRu.out.up hb11); replace HHu := Lib.hid (below_heap hb11 (heap_lt HHu.out) HHu.out)
  replace HRv := Lib.hid (HRv.out.up hb11); replace HHv := Lib.hid (below_heap hb11 (heap_lt HHv.out) HHv.out)
  replace HB := Lib.hid (HB.out.trans (hb11.mono HB.out.size))
  have hrn := own3_reads (p := ⟨nb, nx, ny, nz, nt⟩) ho; clear ho hb11
  obtain ⟨W11, hW⟩ : ∃ W, w11.alloc (.cells #[.bool nb, .slice na1 nn1 nc1, .slice na2 nn2 nc2, .slice na3 nn3 nc3, .string nt] 26) = W := ⟨_, rfl⟩
  have hbx : Below w11.heap.size w11 W11 := by rw [← hW]; exact (Below.refl _ _).alloc (Nat.le_refl _) _
  replace HRu := Lib.hid (HRu.out.up hbx); replace HHu := Lib.hid (below_heap hbx (heap_lt HHu.out) HHu.out)
  replace HRv := Lib.hid (HRv.out.up hbx); replace HHv := Lib.hid (below_heap hbx (heap_lt HHv.out) HHv.out)
  replace HB := Lib.hid (HB.out.trans (hbx.mono HB.out.size))
  have HRn := Lib.hid (ReadP.up hrn hbx)
  have HHn := Lib.hid (show W11.heap[w11.heap.size]? = some (.cells #[.bool nb, .slice na1 nn1 nc1, .slice na2 nn2 nc2, .slice na3 nn3 nc3, .string nt] 26 (0, 0)) by rw [← hW]; exact heap_alloc_new w11 _)
  obtain ⟨nB, hB9⟩ : ∃ c, w11.heap.size = c := ⟨_, rfl⟩
  rw [hB9] at HHn
  clear hbx
  clear hrn HZu HZv
  go_upto_region 14 with (fail)
  try simp only [hB9]
  try rw [hW]
  clear hW hB9
  go_wp2_with fail
  go_loopw [14] (fun i wr => ∃ k : Nat, 1 ≤ k ∧ k ≤ 6 ∧ i = .int .i64 k ∧ Below W11.heap.size W11 wr) (fun i _ => 6 - (intOf i).toNat)
  case atStart => exact ⟨1, Nat.le_refl _, by omega, rfl, Below.refl _ _⟩
  case round =>
    obtain ⟨k, hk1, hk6, rfl, hb⟩ := hrel
    have HBR := Lib.hid hb; clear hb
    by_cases hlt : (k : Int) ≤ (5 : Int)
    · go_wp2_with fail
      obtain ⟨Wl, hWl⟩ : ∃ W, wr.alloc (.cells #[.string ⟨#[104, 111, 109, 101]⟩, .string ⟨#[99, 100, 110]⟩, .string ⟨#[101, 118, 105, 108]⟩, .string ⟨#[111, 116, 104, 101, 114]⟩] 9) = W := ⟨_, rfl⟩
      rw [hWl]
      have HBL := Lib.hid (show Below wr.heap.size wr Wl by rw [← hWl]; exact (Below.refl _ _).alloc (Nat.le_refl _) _)
      have HHl := Lib.hid (show Wl.heap[wr.heap.size]? = some (.cells #[.string ⟨#[104, 111, 109, 101]⟩, .string ⟨#[99, 100, 110]⟩, .string ⟨#[101, 118, 105, 108]⟩, .string ⟨#[111, 116, 104, 101, 114]⟩] 9 (0, 0)) by rw [← hWl]; exact heap_alloc_new wr _)
      obtain ⟨lB, hB9⟩ : ∃ c, wr.heap.size = c := ⟨_, rfl⟩
      rw [hB9] at HHl; try simp only [hB9]
      clear hB9 hWl
      have HBK := Lib.hid (HBR.out.trans (HBL.out.mono HBR.out.size)); clear HBL HBR
      go_loopw [84] (fun i wr => ∃ j : Nat, j ≤ 4 ∧ i = .int .i64 j ∧ Grw Wl wr) (fun i _ => 4 - (intOf i).toNat)
      case atStart => exact ⟨0, by omega, rfl, Grw.refl _⟩
      case round =>
        obtain ⟨j, hj4, rfl, hg⟩ := hrel
        have HG := Lib.hid hg; clear hg
        by_cases hlj : (j : Int) < (4 : Int)
        · obtain ⟨h, hh⟩ : ∃ h, wr.cell? ⟨lB, j, none⟩ = some (.string h) := by
            have hw : j < 4 := by omega
            have hx := below_heap HG.out.below (heap_lt HHl.out) HHl.out
            match j, hw with
            | 0, _ => exact ⟨_, box_cell hx (j := 0) rfl⟩
            | 1, _ => exact ⟨_, box_cell hx (j := 1) rfl⟩
            | 2, _ => exact ⟨_, box_cell hx (j := 2) rfl⟩
            | 3, _ => exact ⟨_, box_cell hx (j := 3) rfl⟩
          have HGB := Lib.hid (HBK.out.trans (HG.out.below.mono HBK.out.size))
          have HRu' := Lib.hid (HRu.out.up HGB.out); have HHu' := below_heap HGB.out (heap_lt HHu.out) HHu.out
          have HRv' := Lib.hid (HRv.out.up HGB.out); have HHv' := below_heap HGB.out (heap_lt HHv.out) HHv.out
          have HRn' := Lib.hid (HRn.out.up HGB.out); have HHn' := below_heap HGB.out (heap_lt HHn.out) HHn.out
          have q_u0 := box_cell HHu' (j := 0) rfl; have g_u0 := cell_grown (World.block_lt_of_cell? _ _ q_u0) q_u0
          have q_u1 := box_cell HHu' (j := 1) rfl; have g_u1 := cell_grown (World.block_lt_of_cell? _ _ q_u1) q_u1
          have q_u2 := box_cell HHu' (j := 2) rfl; have g_u2 := cell_grown (World.block_lt_of_cell? _ _ q_u2) q_u2
          have q_u3 := box_cell HHu' (j := 3) rfl; have g_u3 := cell_grown (World.block_lt_of_cell? _ _ q_u3) q_u3
          have q_u4 := box_cell HHu' (j := 4) rfl; have g_u4 := cell_grown (World.block_lt_of_cell? _ _ q_u4) q_u4
          have q_v0 := box_cell HHv' (j := 0) rfl; have g_v0 := cell_grown (World.block_lt_of_cell? _ _ q_v0) q_v0
          have q_v1 := box_cell HHv' (j := 1) rfl; have g_v1 := cell_grown (World.block_lt_of_cell? _ _ q_v1) q_v1
          have q_v2 := box_cell HHv' (j := 2) rfl; have g_v2 := cell_grown (World.block_lt_of_cell? _ _ q_v2) q_v2
          have q_v3 := box_cell HHv' (j := 3) rfl; have g_v3 := cell_grown (World.block_lt_of_cell? _ _ q_v3) q_v3
          have q_v4 := box_cell HHv' (j := 4) rfl; have g_v4 := cell_grown (World.block_lt_of_cell? _ _ q_v4) q_v4
          have q_n0 := box_cell HHn' (j := 0) rfl; have g_n0 := cell_grown (World.block_lt_of_cell? _ _ q_n0) q_n0
          have q_n1 := box_cell HHn' (j := 1) rfl; have g_n1 := cell_grown (World.block_lt_of_cell? _ _ q_n1) q_n1
          have q_n2 := box_cell HHn' (j := 2) rfl; have g_n2 := cell_grown (World.block_lt_of_cell? _ _ q_n2) q_n2
          have q_n3 := box_cell HHn' (j := 3) rfl; have g_n3 := cell_grown (World.block_lt_of_cell? _ _ q_n3) q_n3
          have q_n4 := box_cell HHn' (j := 4) rfl; have g_n4 := cell_grown (World.block_lt_of_cell? _ _ q_n4) q_n4
          clear q_u0 q_u1 q_u2 q_u3 q_u4 q_v0 q_v1 q_v2 q_v3 q_v4 q_n0 q_n1 q_n2 q_n3 q_n4 HHu' HHv' HHn'
          have HIN := Lib.hid (allows_at ⟨nb, nx, ny, nz, nt⟩ _ _ _ _ _ _ _ _ _ k h wr HRn'.out); have HIU := Lib.hid (allows_at ⟨ub, ux, uy, uz, ut⟩ _ _ _ _ _ _ _ _ _ k h wr HRu'.out); have HIV := Lib.hid (allows_at ⟨vb, vx, vy, vz, vt⟩ _ _ _ _ _ _ _ _ _ k h wr HRv'.out)
          have he := alB_nr ⟨ub, ux, uy, uz, ut⟩ ⟨vb, vx, vy, vz, vt⟩ k h; rw [HNP.out] at he; have HE := Lib.hid he; clear he
          go_upto_region 20 with (fail)
          cases hu : alB ⟨ub, ux, uy, uz, ut⟩ k h <;> cases hv : alB ⟨vb, vx, vy, vz, vt⟩ k h
          all_goals
            have he := HE.out; rw [hu, hv] at he; simp only [Bool.and_true, Bool.and_false] at he; rw [he] at HIN; rw [hu] at HIU; rw [hv] at HIV; clear he hu hv HE hh
            refine wp_region_quiet_grown mixed9 (by kernel_rfl) ?_
            iterate 15 (go_big_quiet_step (first | (go_at_call 15; with_reducible refine Calls.grown_of (HIN.out _ _)) | (go_at_call 15; with_reducible refine Calls.grown_of (HIU.out _ _)) | (go_at_call 15; with_reducible refine Calls.grown_of (HIV.out _ _))))
            refine wpQuiet_nil ?_
            intro _ hw'; obtain ⟨⟨nq, osq⟩, hw''⟩ := hw'; subst hw''
            clear g_u0 g_u1 g_u2 g_u3 g_u4 g_v0 g_v1 g_v2 g_v3 g_v4 g_n0 g_n1 g_n2 g_n3 g_n4
            go_wp2_with fail
            go_roundw
            case rel => exact ⟨j + 1, by omega, by go_num, HG.out.trans ⟨_, _, rfl⟩⟩
            case measure => simp [intOf]; omega
        · have hlf : decide ((j : Int) < (4 : Int)) = false := decide_eq_false hlj
          have HGB := Lib.hid (HBK.out.trans (HG.out.below.mono HBK.out.size)); clear HG HBK
          go_wp2_with fail
          go_roundw
          case rel => exact ⟨k + 1, by omega, by omega, by go_num, HGB.out⟩
          case measure => simp [intOf]; omega
    · have hlf : decide ((k : Int) ≤ (5 : Int)) = false := decide_eq_false hlt
      have HRu' := Lib.hid (HRu.out.up HBR.out); have HHu' := below_heap HBR.out (heap_lt HHu.out) HHu.out
      have HRv' := Lib.hid (HRv.out.up HBR.out); have HHv' := below_heap HBR.out (heap_lt HHv.out) HHv.out
      have HRn' := Lib.hid (HRn.out.up HBR.out); have HHn' := below_heap HBR.out (heap_lt HHn.out) HHn.out
      have q_u0 := box_cell HHu' (j := 0) rfl; have g_u0 := cell_grown (World.block_lt_of_cell? _ _ q_u0) q_u0
      have q_u1 := box_cell HHu' (j := 1) rfl; have g_u1 := cell_grown (World.block_lt_of_cell? _ _ q_u1) q_u1
      have q_u2 := box_cell HHu' (j := 2) rfl; have g_u2 := cell_grown (World.block_lt_of_cell? _ _ q_u2) q_u2
      have q_u3 := box_cell HHu' (j := 3) rfl; have g_u3 := cell_grown (World.block_lt_of_cell? _ _ q_u3) q_u3
      have q_u4 := box_cell HHu' (j := 4) rfl; have g_u4 := cell_grown (World.block_lt_of_cell? _ _ q_u4) q_u4
      have q_v0 := box_cell HHv' (j := 0) rfl; have g_v0 := cell_grown (World.block_lt_of_cell? _ _ q_v0) q_v0
      have q_v1 := box_cell HHv' (j := 1) rfl; have g_v1 := cell_grown (World.block_lt_of_cell? _ _ q_v1) q_v1
      have q_v2 := box_cell HHv' (j := 2) rfl; have g_v2 := cell_grown (World.block_lt_of_cell? _ _ q_v2) q_v2
      have q_v3 := box_cell HHv' (j := 3) rfl; have g_v3 := cell_grown (World.block_lt_of_cell? _ _ q_v3) q_v3
      have q_v4 := box_cell HHv' (j := 4) rfl; have g_v4 := cell_grown (World.block_lt_of_cell? _ _ q_v4) q_v4
      have q_n0 := box_cell HHn' (j := 0) rfl; have g_n0 := cell_grown (World.block_lt_of_cell? _ _ q_n0) q_n0
      have q_n1 := box_cell HHn' (j := 1) rfl; have g_n1 := cell_grown (World.block_lt_of_cell? _ _ q_n1) q_n1
      have q_n2 := box_cell HHn' (j := 2) rfl; have g_n2 := cell_grown (World.block_lt_of_cell? _ _ q_n2) q_n2
      have q_n3 := box_cell HHn' (j := 3) rfl; have g_n3 := cell_grown (World.block_lt_of_cell? _ _ q_n3) q_n3
      have q_n4 := box_cell HHn' (j := 4) rfl; have g_n4 := cell_grown (World.block_lt_of_cell? _ _ q_n4) q_n4
      clear q_u0 q_u1 q_u2 q_u3 q_u4 q_v0 q_v1 q_v2 q_v3 q_v4 q_n0 q_n1 q_n2 q_n3 q_n4 HHu' HHv' HHn'
      have HIN := Lib.hid (inline_at ⟨nb, nx, ny, nz, nt⟩ _ _ _ _ _ _ _ _ _ ⟨#[110, 55]⟩ wr HRn'.out); have HIU := Lib.hid (inline_at ⟨ub, ux, uy, uz, ut⟩ _ _ _ _ _ _ _ _ _ ⟨#[110, 55]⟩ wr HRu'.out); have HIV := Lib.hid (inline_at ⟨vb, vx, vy, vz, vt⟩ _ _ _ _ _ _ _ _ _ ⟨#[110, 55]⟩ wr HRv'.out)
      have he := inlB_nr ⟨ub, ux, uy, uz, ut⟩ ⟨vb, vx, vy, vz, vt⟩ ⟨#[110, 55]⟩; rw [HNP.out] at he; have HE := Lib.hid he; clear he
      go_upto_region 23 with (fail)
      cases hu : inlB ⟨ub, ux, uy, uz, ut⟩ ⟨#[110, 55]⟩ <;> cases hv : inlB ⟨vb, vx, vy, vz, vt⟩ ⟨#[110, 55]⟩
      all_goals
        have he := HE.out; rw [hu, hv] at he; simp only [Bool.and_true, Bool.and_false] at he; rw [he] at HIN; rw [hu] at HIU; rw [hv] at HIV; clear he hu hv HE
        refine wp_region_quiet_grown mixed9 (by kernel_rfl) ?_
        iterate 10 (go_big_quiet_step (first | (go_at_call 16; with_reducible refine Calls.grown_of (HIN.out _ _)) | (go_at_call 16; with_reducible refine Calls.grown_of (HIU.out _ _)) | (go_at_call 16; with_reducible refine Calls.grown_of (HIV.out _ _))))
        refine wpQuiet_nil ?_
        intro _ hw'; obtain ⟨⟨nq, osq⟩, hw''⟩ := hw'; subst hw''
        clear g_u0 g_u1 g_u2 g_u3 g_u4 g_v0 g_v1 g_v2 g_v3 g_v4 g_n0 g_n1 g_n2 g_n3 g_n4
        have hb5 := (show Grw wr (Sort.grow (wr.drewN nq) osq) from ⟨nq, osq, rfl⟩).below
        go_wp2_with fail
        go_ret
        exact ⟨rfl, (HB.out.trans (HBR.out.mono HB.out.size)).trans (hb5.mono (Nat.le_trans HB.out.size HBR.out.size))⟩

/- PolsE -/
open Go.ChangeShapes Go.WideShapes Go.ChangeAt Go.RowKit

theorem policies_all (a : Option Addr) (len cap : Nat) (zs : List Int) (w : World) (hm : Max0 w) (h : IsRow .u8 w a len cap zs) :
    Calls Tryd.prog 3 #[.slice a len cap] w fun e w' => e = .returned (.bool true) ∧ Below w.heap.size w w' := by
  by_cases hb : (1048576 : Int) < (len : Int)
  · go_enter Tryd.func3, Tryd.ntmps3
    go_wp2_with fail
    refine (big_yes a len cap _ hb).mono ?_
    rintro e w1 ⟨rfl, rfl⟩
    go_wp2
    go_ret
    exact ⟨rfl, Below.refl _ _⟩
  · exact policies_walk a len cap w hm (code_of_row h (by omega)) hb
end Go.Proofs.YtkjjiinccljhjaaDoor
