/- Helper contracts over the functions with which the laws copy, compare, measure and mark slices, by program (deep.py). Asked: what lies in memory is as named. -/
import Derived.Test.YtgcdfkpidcdicaaDoorDpStr
import Derived.Test.YtgcdfkpidcdicaaDoorRawL
import Derived.Shelf.SlSortCmp.QuietGrown
namespace Go.Proofs.YtgcdfkpidcdicaaDoor
open Go.ChangeShapes Go.WideShapes Go.ChangeAt Go.RowKit

set_option maxHeartbeats 2000000 in
theorem eq_Policy (a0 : Bool) (a1 b1 : Rw) (a2 b2 : Rw) (a3 b3 : Rw) (a4 : ByteArray) (w : World) (hx1 : IsStringS a1) (hy1 : IsStringS b1) (hd1 : a1.data = b1.data) (rx1 : a1.ReadR w.heap.size w) (ry1 : b1.ReadR w.heap.size w) (hx2 : IsStringS a2) (hy2 : IsStringS b2) (hd2 : a2.data = b2.data) (rx2 : a2.ReadR w.heap.size w) (ry2 : b2.ReadR w.heap.size w) (hx3 : IsStringS a3) (hy3 : IsStringS b3) (hd3 : a3.data = b3.data) (rx3 : a3.ReadR w.heap.size w) (ry3 : b3.ReadR w.heap.size w) :
    Calls Tryd.prog 20 #[.agg #[.bool a0, a1.cell, a2.cell, a3.cell, .string a4], .agg #[.bool a0, b1.cell, b2.cell, b3.cell, .string a4]] w fun e w' => e = .returned (.bool true) ∧ Grw w w' := by
  have e4 : (a4.toList == a4.toList) = true := beqL_yes rfl
  go_enter Tryd.func20, Tryd.ntmps20
  go_wp2_with fail
  obtain ⟨w0, hw0⟩ : ∃ x, ((w.alloc (.cells #[.bool a0, a1.cell, a2.cell, a3.cell, .string a4] 26)).alloc (.cells #[.bool a0, b1.cell, b2.cell, b3.cell, .string a4] 26)) = x := ⟨_, rfl⟩
  rw [hw0]
  have HG0 := Lib.hid (show Grw w w0 by rw [← hw0]; exact ((Grw.refl w).alloc _).alloc _)
  have qa2 : w0.cell? ⟨w.heap.size, 2, none⟩ = some (a2.cell) := by rw [← hw0]; simp
  have qb2 : w0.cell? ⟨w.heap.size + 1, 2, none⟩ = some (b2.cell) := by rw [← hw0]; simp
  have qa3 : w0.cell? ⟨w.heap.size, 3, none⟩ = some (a3.cell) := by rw [← hw0]; simp
  have qb3 : w0.cell? ⟨w.heap.size + 1, 3, none⟩ = some (b3.cell) := by rw [← hw0]; simp
  have qa4 : w0.cell? ⟨w.heap.size, 4, none⟩ = some (.string a4) := by rw [← hw0]; simp
  have qb4 : w0.cell? ⟨w.heap.size + 1, 4, none⟩ = some (.string a4) := by rw [← hw0]; simp
  clear hw0
  refine (eq_StringS a1 b1 hx1 hy1 hd1 _ (rx1.up HG0.out) (ry1.up HG0.out)).mono ?_
  rintro e w1 ⟨rfl, hg1⟩
  replace qa2 := (hg1.below.cell (show (⟨w.heap.size, 2, none⟩ : Addr).block < _ from World.block_lt_of_cell? _ _ qa2)).trans qa2
  replace qb2 := (hg1.below.cell (show (⟨w.heap.size + 1, 2, none⟩ : Addr).block < _ from World.block_lt_of_cell? _ _ qb2)).trans qb2
  replace qa3 := (hg1.below.cell (show (⟨w.heap.size, 3, none⟩ : Addr).block < _ from World.block_lt_of_cell? _ _ qa3)).trans qa3
  replace qb3 := (hg1.below.cell (show (⟨w.heap.size + 1, 3, none⟩ : Addr).block < _ from World.block_lt_of_cell? _ _ qb3)).trans qb3
  replace qa4 := (hg1.below.cell (show (⟨w.heap.size, 4, none⟩ : Addr).block < _ from World.block_lt_of_cell? _ _ qa4)).trans qa4
  replace qb4 := (hg1.below.cell (show (⟨w.heap.size + 1, 4, none⟩ : Addr).block < _ from World.block_lt_of_cell? _ _ qb4)).trans qb4
  have HG1 := Lib.hid (HG0.out.trans hg1); clear hg1
  go_wp2_with fail
  refine (eq_StringS a2 b2 hx2 hy2 hd2 _ (rx2.up HG1.out) (ry2.up HG1.out)).mono ?_
  rintro e w2 ⟨rfl, hg2⟩
  replace qa3 := (hg2.below.cell (show (⟨w.heap.size, 3, none⟩ : Addr).block < _ from World.block_lt_of_cell? _ _ qa3)).trans qa3
  replace qb3 := (hg2.below.cell (show (⟨w.heap.size + 1, 3, none⟩ : Addr).block < _ from World.block_lt_of_cell? _ _ qb3)).trans qb3
  replace qa4 := (hg2.below.cell (show (⟨w.heap.size, 4, none⟩ : Addr).block < _ from World.block_lt_of_cell? _ _ qa4)).trans qa4
  replace qb4 := (hg2.below.cell (show (⟨w.heap.size + 1, 4, none⟩ : Addr).block < _ from World.block_lt_of_cell? _ _ qb4)).trans qb4
  have HG2 := Lib.hid (HG1.out.trans hg2); clear hg2
  go_wp2_with fail
  refine (eq_StringS a3 b3 hx3 hy3 hd3 _ (rx3.up HG2.out) (ry3.up HG2.out)).mono ?_
  rintro e w3 ⟨rfl, hg3⟩
  replace qa4 := (hg3.below.cell (show (⟨w.heap.size, 4, none⟩ : Addr).block < _ from World.block_lt_of_cell? _ _ qa4)).trans qa4
  replace qb4 := (hg3.below.cell (show (⟨w.heap.size + 1, 4, none⟩ : Addr).block < _ from World.block_lt_of_cell? _ _ qb4)).trans qb4
  have HG3 := Lib.hid (HG2.out.trans hg3); clear hg3
  go_wp2_with fail
  go_ret
  exact ⟨rfl, HG3.out⟩

def SzPolicy (a1 : Rw) (a2 : Rw) (a3 : Rw) (a4 : ByteArray) (left : Int) (w : World) (e : Ending) (w' : World) : Prop :=
  ∃ r : Int, e = .returned (.int .i64 r) ∧ -1 ≤ r ∧ (0 ≤ r → r + (a1.weight : Nat) + (a2.weight : Nat) + (a3.weight : Nat) + (a4.size : Nat) = left) ∧ Grw w w'
set_option maxRecDepth 100000 in
set_option maxHeartbeats 4000000 in
theorem mkL_Policy (a0 : Bool) (a1 : Rw) (a2 : Rw) (a3 : Rw) (a4 : ByteArray) (hx1 : IsStringS a1) (hx2 : IsStringS a2) (hx3 : IsStringS a3) (lo hi k0 : Nat) (q : Int) (hq : q = k0) (w : World) (ho : OwnRL lo hi w [a1, a2, a3]) (hd : (blocksL [a1, a2, a3]).Nodup) (hk : k0 + countL [a1, a2, a3] ≤ 4611686018427387904) :
    Calls Tryd.prog 21 #[.agg #[.bool a0, a1.cell, a2.cell, a3.cell, .string a4], .int .i64 q] w fun e w' => e = .returned (.int .i64 ((k0 + countL [a1, a2, a3] : Nat) : Int)) ∧ OwnRL lo hi w' (markL [a1, a2, a3] k0) ∧ OnlyB (blocksL [a1, a2, a3]) w w' := by
  subst hq
  simp only [countL, Nat.add_zero] at hk ⊢
  simp only [markL, blocksL, List.append_nil] at hd ⊢
  have hg := (Grw.refl w).alloc (.cells #[.bool a0, a1.cell, a2.cell, a3.cell, .string a4] 26)
  have HO1 := Lib.hid ((ownRL_iff.1 ho a1 (by simp)).later hg.below); have HL1 := Lib.hid (Rw.OwnR.lt _ (ownRL_iff.1 ho a1 (by simp)))
  have HO2 := Lib.hid ((ownRL_iff.1 ho a2 (by simp)).later hg.below); have HL2 := Lib.hid (Rw.OwnR.lt _ (ownRL_iff.1 ho a2 (by simp)))
  have HO3 := Lib.hid ((ownRL_iff.1 ho a3 (by simp)).later hg.below); have HL3 := Lib.hid (Rw.OwnR.lt _ (ownRL_iff.1 ho a3 (by simp)))
  have HG := Lib.hid hg; have HD := Lib.hid hd; clear ho hg hd
  obtain ⟨W, hW⟩ : ∃ W, w.alloc (.cells #[.bool a0, a1.cell, a2.cell, a3.cell, .string a4] 26) = W := ⟨_, rfl⟩
  have q1 : W.cell? ⟨w.heap.size, 1, none⟩ = some (a1.cell) := by rw [← hW]; simp
  have q2 : W.cell? ⟨w.heap.size, 2, none⟩ = some (a2.cell) := by rw [← hW]; simp
  have q3 : W.cell? ⟨w.heap.size, 3, none⟩ = some (a3.cell) := by rw [← hW]; simp
  rw [hW] at HG HO1 HO2 HO3
  go_enter Tryd.func21, Tryd.ntmps21
  go_wp2_with fail
  clear hW
  refine (mk_StringS a1 hx1 lo hi (k0) _ rfl _ HO1.out (List.nodup_append.1 HD.out).1 (by omega)).mono ?_
  rintro e w1 ⟨rfl, hoi, hon⟩
  replace q2 := (cell_only hon (show w.heap.size ∉ _ from fun hb => by have := (HL1.out _ hb).2.2; omega) (World.block_lt_of_cell? _ _ q2)).trans q2
  replace HO2 := Lib.hid (Rw.OwnR.only hon a2 HO2.out fun b hbs hbt => (List.nodup_append.1 HD.out).2.2 b hbt b (by simp [hbs]) rfl)
  replace q3 := (cell_only hon (show w.heap.size ∉ _ from fun hb => by have := (HL1.out _ hb).2.2; omega) (World.block_lt_of_cell? _ _ q3)).trans q3
  replace HO3 := Lib.hid (Rw.OwnR.only hon a3 HO3.out fun b hbs hbt => (List.nodup_append.1 HD.out).2.2 b hbt b (by simp [hbs]) rfl)
  have HM1 := Lib.hid hoi
  have HON1 := Lib.hid (show OnlyB (a1.blocks ++ (a2.blocks ++ a3.blocks)) w w1 from (OnlyB.of_below HG.out.below _).trans (OnlyB.mono hon (fun i hi => by simp [hi])))
  clear hoi hon
  obtain ⟨r1, hr1⟩ : ∃ r, k0 + a1.count = r := ⟨_, rfl⟩
  rw [hr1]
  have HR1 := Lib.hid hr1
  go_wp2_with fail
  refine (mk_StringS a2 hx2 lo hi (r1) _ (by omega) _ HO2.out (List.nodup_append.1 (List.nodup_append.1 HD.out).2.1).1 (by omega)).mono ?_
  rintro e w2 ⟨rfl, hoi, hon⟩
  replace q3 := (cell_only hon (show w.heap.size ∉ _ from fun hb => by have := (HL2.out _ hb).2.2; omega) (World.block_lt_of_cell? _ _ q3)).trans q3
  replace HO3 := Lib.hid (Rw.OwnR.only hon a3 HO3.out fun b hbs hbt => (List.nodup_append.1 (List.nodup_append.1 HD.out).2.1).2.2 b hbt b (by simp [hbs]) rfl)
  replace HM1 := Lib.hid (Rw.OwnR.only hon _ HM1.out fun b hbs hbt => by rw [mark_blocks] at hbs; exact (List.nodup_append.1 HD.out).2.2 b hbs b (by simp [hbt]) rfl)
  have HM2 := Lib.hid hoi
  have HON2 := Lib.hid (show OnlyB (a1.blocks ++ (a2.blocks ++ a3.blocks)) w w2 from (HON1.out).trans (OnlyB.mono hon (fun i hi => by simp [hi])))
  clear hoi hon
  obtain ⟨r2, hr2⟩ : ∃ r, r1 + a2.count = r := ⟨_, rfl⟩
  rw [hr2]
  have HR2 := Lib.hid hr2
  go_wp2_with fail
  refine (mk_StringS a3 hx3 lo hi (r2) _ (by omega) _ HO3.out (List.nodup_append.1 (List.nodup_append.1 HD.out).2.1).2.1 (by omega)).mono ?_
  rintro e w3 ⟨rfl, hoi, hon⟩
  replace HM1 := Lib.hid (Rw.OwnR.only hon _ HM1.out fun b hbs hbt => by rw [mark_blocks] at hbs; exact (List.nodup_append.1 HD.out).2.2 b hbs b (by simp [hbt]) rfl)
  replace HM2 := Lib.hid (Rw.OwnR.only hon _ HM2.out fun b hbs hbt => by rw [mark_blocks] at hbs; exact (List.nodup_append.1 (List.nodup_append.1 HD.out).2.1).2.2 b hbs b (by simp [hbt]) rfl)
  have HM3 := Lib.hid hoi
  have HON3 := Lib.hid (show OnlyB (a1.blocks ++ (a2.blocks ++ a3.blocks)) w w3 from (HON2.out).trans (OnlyB.mono hon (fun i hi => by simp [hi])))
  clear hoi hon
  obtain ⟨r3, hr3⟩ : ∃ r, r2 + a3.count = r := ⟨_, rfl⟩
  rw [hr3]
  have HR3 := Lib.hid hr3
  go_wp2_with fail
  go_ret
  refine ⟨by rw [show k0 + (a1.count + (a2.count + a3.count)) = r3 by omega]; rfl, ownRL_iff.2 fun c hc => ?_, HON3.out⟩
  simp only [List.mem_cons, List.mem_nil_iff, or_false] at hc
  rcases hc with rfl | rfl | rfl
  · exact HM1.out
  · (try simp only [HR1.out]); exact HM2.out
  · (try simp only [HR1.out, HR2.out]); exact HM3.out

set_option maxRecDepth 100000 in
set_option maxHeartbeats 4000000 in
theorem hdL_Policy (a0 : Bool) (a1 : Rw) (a2 : Rw) (a3 : Rw) (a4 : ByteArray) (hx1 : IsStringS a1) (hx2 : IsStringS a2) (hx3 : IsStringS a3) (hi k0 : Nat) (q : Int) (hq : q = k0) (w : World) (hr : ReadRL hi w (markL [a1, a2, a3] k0)) (hh : hi ≤ w.heap.size) (hk : k0 + countL [a1, a2, a3] ≤ 4611686018427387904) :
    Calls Tryd.prog 22 #[.agg #[.bool a0, a1.cell, a2.cell, a3.cell, .string a4], .int .i64 q] w fun e w' => e = .returned (.int .i64 ((k0 + countL [a1, a2, a3] : Nat) : Int)) ∧ Grw w w' := by
  subst hq
  simp only [countL, Nat.add_zero] at hk ⊢
  simp only [markL] at hr
  have hg := (Grw.refl w).alloc (.cells #[.bool a0, a1.cell, a2.cell, a3.cell, .string a4] 26)
  have HR1 := Lib.hid ((readRL_iff.1 hr (a1.mark (k0)) (by simp)).grw hh hg)
  have HR2 := Lib.hid ((readRL_iff.1 hr (a2.mark (k0 + a1.count)) (by simp)).grw hh hg)
  have HR3 := Lib.hid ((readRL_iff.1 hr (a3.mark (k0 + a1.count + a2.count)) (by simp)).grw hh hg)
  have HG := Lib.hid hg; have HH := Lib.hid (Nat.le_trans hh hg.below.size); clear hr hg
  obtain ⟨W, hW⟩ : ∃ W, w.alloc (.cells #[.bool a0, a1.cell, a2.cell, a3.cell, .string a4] 26) = W := ⟨_, rfl⟩
  have q1 : W.cell? ⟨w.heap.size, 1, none⟩ = some (a1.cell) := by rw [← hW]; simp
  have q2 : W.cell? ⟨w.heap.size, 2, none⟩ = some (a2.cell) := by rw [← hW]; simp
  have q3 : W.cell? ⟨w.heap.size, 3, none⟩ = some (a3.cell) := by rw [← hW]; simp
  rw [hW] at HG HH HR1 HR2 HR3
  go_enter Tryd.func22, Tryd.ntmps22
  go_wp2_with fail
  clear hW
  refine (hd_StringS a1 hx1 hi (k0) _ rfl _ (HR1.out) (Nat.le_trans HH.out (Nat.le_refl _)) (by omega)).mono ?_
  rintro e w1 ⟨rfl, hg1⟩
  replace q2 := (hg1.below.cell (show (⟨w.heap.size, 2, none⟩ : Addr).block < _ from World.block_lt_of_cell? _ _ q2)).trans q2
  replace HR2 := Lib.hid (HR2.out.grw HH.out hg1)
  replace q3 := (hg1.below.cell (show (⟨w.heap.size, 3, none⟩ : Addr).block < _ from World.block_lt_of_cell? _ _ q3)).trans q3
  replace HR3 := Lib.hid (HR3.out.grw HH.out hg1)
  replace HH := Lib.hid (Nat.le_trans HH.out hg1.below.size)
  replace HG := Lib.hid (HG.out.trans hg1); clear hg1
  obtain ⟨r1, hr1⟩ : ∃ r, k0 + a1.count = r := ⟨_, rfl⟩
  rw [hr1]
  rw [hr1] at HR2
  rw [hr1] at HR3
  have hn1 : ¬ ((r1 : Int) < 0) := by omega
  go_wp2_with fail
  refine (hd_StringS a2 hx2 hi (r1) _ rfl _ (HR2.out) (Nat.le_trans HH.out (Nat.le_refl _)) (by omega)).mono ?_
  rintro e w2 ⟨rfl, hg2⟩
  replace q3 := (hg2.below.cell (show (⟨w.heap.size, 3, none⟩ : Addr).block < _ from World.block_lt_of_cell? _ _ q3)).trans q3
  replace HR3 := Lib.hid (HR3.out.grw HH.out hg2)
  replace HH := Lib.hid (Nat.le_trans HH.out hg2.below.size)
  replace HG := Lib.hid (HG.out.trans hg2); clear hg2
  obtain ⟨r2, hr2⟩ : ∃ r, r1 + a2.count = r := ⟨_, rfl⟩
  rw [hr2]
  rw [hr2] at HR3
  have hn2 : ¬ ((r2 : Int) < 0) := by omega
  go_wp2_with fail
  refine (hd_StringS a3 hx3 hi (r2) _ rfl _ (HR3.out) (Nat.le_trans HH.out (Nat.le_refl _)) (by omega)).mono ?_
  rintro e w3 ⟨rfl, hg3⟩
  replace HH := Lib.hid (Nat.le_trans HH.out hg3.below.size)
  replace HG := Lib.hid (HG.out.trans hg3); clear hg3
  obtain ⟨r3, hr3⟩ : ∃ r, r2 + a3.count = r := ⟨_, rfl⟩
  rw [hr3]
  have hn3 : ¬ ((r3 : Int) < 0) := by omega
  go_wp2_with fail
  go_ret
  exact ⟨by rw [show k0 + (a1.count + (a2.count + a3.count)) = r3 by omega]; rfl, HG.out⟩

theorem eqV_Policy (a0 : Bool) (a1 b1 : Rw) (a2 b2 : Rw) (a3 b3 : Rw) (a4 : ByteArray) (u1 u2 u3 v1 v2 v3 : Value) (e1 : a1.cell = u1) (f1 : b1.cell = v1) (e2 : a2.cell = u2) (f2 : b2.cell = v2) (e3 : a3.cell = u3) (f3 : b3.cell = v3) (w : World) (hx1 : IsStringS a1) (hy1 : IsStringS b1) (hd1 : a1.data = b1.data) (rx1 : a1.ReadR w.heap.size w) (ry1 : b1.ReadR w.heap.size w) (hx2 : IsStringS a2) (hy2 : IsStringS b2) (hd2 : a2.data = b2.data) (rx2 : a2.ReadR w.heap.size w) (ry2 : b2.ReadR w.heap.size w) (hx3 : IsStringS a3) (hy3 : IsStringS b3) (hd3 : a3.data = b3.data) (rx3 : a3.ReadR w.heap.size w) (ry3 : b3.ReadR w.heap.size w) :
    Calls Tryd.prog 20 #[.agg #[.bool a0, u1, u2, u3, .string a4], .agg #[.bool a0, v1, v2, v3, .string a4]] w fun e w' => e = .returned (.bool true) ∧ Grw w w' := by
  subst e1; subst f1; subst e2; subst f2; subst e3; subst f3
  exact eq_Policy a0 a1 b1 a2 b2 a3 b3 a4 w hx1 hy1 hd1 rx1 ry1 hx2 hy2 hd2 rx2 ry2 hx3 hy3 hd3 rx3 ry3

theorem mkV_Policy (a0 : Bool) (a1 : Rw) (a2 : Rw) (a3 : Rw) (a4 : ByteArray) (u1 u2 u3 : Value) (e1 : a1.cell = u1) (e2 : a2.cell = u2) (e3 : a3.cell = u3) (hx1 : IsStringS a1) (hx2 : IsStringS a2) (hx3 : IsStringS a3) (lo hi k0 : Nat) (q : Int) (hq : q = k0) (w : World) (ho : OwnRL lo hi w [a1, a2, a3]) (hd : (blocksL [a1, a2, a3]).Nodup) (hk : k0 + countL [a1, a2, a3] ≤ 4611686018427387904) :
    Calls Tryd.prog 21 #[.agg #[.bool a0, u1, u2, u3, .string a4], .int .i64 q] w fun e w' => e = .returned (.int .i64 ((k0 + countL [a1, a2, a3] : Nat) : Int)) ∧ OwnRL lo hi w' (markL [a1, a2, a3] k0) ∧ OnlyB (blocksL [a1, a2, a3]) w w' := by
  subst e1; subst e2; subst e3
  exact mkL_Policy a0 a1 a2 a3 a4 hx1 hx2 hx3 lo hi k0 q hq w ho hd hk

theorem hdV_Policy (a0 : Bool) (a1 : Rw) (a2 : Rw) (a3 : Rw) (a4 : ByteArray) (u1 u2 u3 : Value) (e1 : a1.cell = u1) (e2 : a2.cell = u2) (e3 : a3.cell = u3) (hx1 : IsStringS a1) (hx2 : IsStringS a2) (hx3 : IsStringS a3) (hi k0 : Nat) (q : Int) (hq : q = k0) (w : World) (hr : ReadRL hi w (markL [a1, a2, a3] k0)) (hh : hi ≤ w.heap.size) (hk : k0 + countL [a1, a2, a3] ≤ 4611686018427387904) :
    Calls Tryd.prog 22 #[.agg #[.bool a0, u1, u2, u3, .string a4], .int .i64 q] w fun e w' => e = .returned (.int .i64 ((k0 + countL [a1, a2, a3] : Nat) : Int)) ∧ Grw w w' := by
  subst e1; subst e2; subst e3
  exact hdL_Policy a0 a1 a2 a3 a4 hx1 hx2 hx3 hi k0 q hq w hr hh hk
end Go.Proofs.YtgcdfkpidcdicaaDoor
