/- The walk of the law FnExactFindAttr: it returns true, and writes nothing that was there. -/
import Derived.Test.YtbegfdfdilnjdaaLawsP
namespace Go.Proofs.Ytbegfdfdilnjdaa
open Go.ChangeShapes Go.WideShapes Go.ChangeAt Go.RowKit

set_option maxRecDepth 100000 in
set_option maxHeartbeats 4000000 in
theorem walkFindAttr (a_l : Option Addr) (len_l cap_l : Nat) (xs_l : List At) (a_n : ByteArray) (w : World) (r_l : IsAts w a_l len_l cap_l xs_l) (r_n : a_n.size ≤ 9223372036854775807) :
    Calls Try.prog 6 #[.slice a_l len_l cap_l, .string a_n] w fun e w' => e = .returned (.bool true) ∧ Below w.heap.size w w' := by
  have hrn := r_n; clear hrn
  by_cases big_n : (1048576 : Int) < (a_n.size : Int)
  · go_enter Try.func6, Try.ntmps6
    go_wp2_with fail
    go_ret
    exact ⟨rfl, by first | exact Below.refl _ _ | exact (Below.refl _ _).alloc (Nat.le_refl _) _⟩
  obtain ⟨rd_l, rl_l, ok_l⟩ := r_l
  have HA := Lib.hid rd_l; have HOK := Lib.hid (rwA_small (v := .slice a_l len_l cap_l) ok_l); clear rd_l ok_l rl_l
  obtain ⟨V, Bv, hV⟩ : ∃ V Bv, findV xs_l a_n = .tuple #[.string V, .bool Bv] := by unfold findV; split <;> exact ⟨_, _, rfl⟩
  have HFS := Lib.hid (fun v hi W hr hh => (hV ▸ find_spec v hi xs_l a_n W hr hh : Calls Try.prog 22 #[v, .string a_n] W fun e w' => e = .returned (.tuple #[.string V, .bool Bv]) ∧ Grw W w'))
  have HFI := Lib.hid (fun v hi W hr hh => (hV ▸ find_impl v hi xs_l a_n W hr hh : Calls Try.prog 24 #[v, .string a_n] W fun e w' => e = .returned (.tuple #[.string V, .bool Bv]) ∧ Grw W w'))
  have hvv : (V.toList == V.toList) = true := beq_self_eq_true _
  have hbb : (Bv == Bv) = true := beq_self_eq_true _
  clear hV
  go_enter Try.func6, Try.ntmps6
  have HB := Lib.hid (Below.refl w.heap.size w)
  go_wp2_with fail
  refine (sz_AttrS (rwA (.slice a_l len_l cap_l) xs_l) (rwA_is _ _) 1048576 (by omega) (by omega) _ (rwA_reads ((HA.out.below HB.out (Nat.le_refl _)).mono HB.out.size)) HOK.out).mono ?_
  rintro e w_1 ⟨r, rfl, lo_r, hi_r, hg⟩
  have hB := hg.below
  have HS1 := Lib.hid hB.size
  replace HB := Lib.hid (HB.out.trans (hB.mono HB.out.size))
  clear hB hg
  by_cases neg_r : r < 0
  · go_wp2_with fail
    go_ret
    exact ⟨rfl, HB.out⟩
  have HW := Lib.hid (show (rwA (.slice a_l len_l cap_l) xs_l).weight ≤ 4398046511104 by have := hi_r (by omega); omega)
  clear hi_r
  go_wp2_with fail
  refine (to_AttrS (rwA (.slice a_l len_l cap_l) xs_l) (rwA_is _ _) _ (rwA_reads ((HA.out.below HB.out (Nat.le_refl _)).mono HB.out.size)) HW.out).mono ?_
  rintro e w_2 ⟨y_x, rfl, is_x, dt_x, _, ho, hb⟩
  have hB := hb
  have Hx := Lib.hid (ho)
  have HS2 := Lib.hid hB.size
  replace HB := Lib.hid (HB.out.trans (hB.mono HB.out.size))
  have HD_x := Lib.hid dt_x; have HI_x := Lib.hid is_x
  clear hB ho hb dt_x is_x
  go_wp2_with fail
  refine (HFS.out y_x.cell _ _ (attrs_of_data HD_x.out (own_read Hx.out (Nat.le_refl _))) (Nat.le_refl _)).mono ?_
  rintro e w_3 ⟨rfl, hg⟩
  have hB := hg.below
  replace Hx := Lib.hid (Hx.out.later hB)
  have HS3 := Lib.hid hB.size
  replace HB := Lib.hid (HB.out.trans (hB.mono HB.out.size))
  clear hB hg
  go_wp2_with fail
  refine (to_AttrS (rwA (.slice a_l len_l cap_l) xs_l) (rwA_is _ _) _ (rwA_reads ((HA.out.below HB.out (Nat.le_refl _)).mono HB.out.size)) HW.out).mono ?_
  rintro e w_4 ⟨y_y, rfl, is_y, dt_y, _, ho, hb⟩
  have hB := hb
  replace Hx := Lib.hid (Hx.out.later hB)
  have Hy := Lib.hid (ho)
  have HS4 := Lib.hid hB.size
  replace HB := Lib.hid (HB.out.trans (hB.mono HB.out.size))
  have HD_y := Lib.hid dt_y; have HI_y := Lib.hid is_y
  clear hB ho hb dt_y is_y
  go_wp2_with fail
  refine (HFI.out y_y.cell _ _ (attrs_of_data HD_y.out (own_read Hy.out (Nat.le_refl _))) (Nat.le_refl _)).mono ?_
  rintro e w_5 ⟨rfl, hg⟩
  have hB := hg.below
  replace Hx := Lib.hid (Hx.out.later hB)
  replace Hy := Lib.hid (Hy.out.later hB)
  have HS5 := Lib.hid hB.size
  replace HB := Lib.hid (HB.out.trans (hB.mono HB.out.size))
  clear hB hg
  go_wp2_with fail
  refine (to_AttrS (rwA (.slice a_l len_l cap_l) xs_l) (rwA_is _ _) _ (rwA_reads ((HA.out.below HB.out (Nat.le_refl _)).mono HB.out.size)) HW.out).mono ?_
  rintro e w_6 ⟨y_z, rfl, is_z, dt_z, _, ho, hb⟩
  have hB := hb
  replace Hx := Lib.hid (Hx.out.later hB)
  replace Hy := Lib.hid (Hy.out.later hB)
  have Hz := Lib.hid (ho)
  have HS6 := Lib.hid hB.size
  replace HB := Lib.hid (HB.out.trans (hB.mono HB.out.size))
  have HD_z := Lib.hid dt_z; have HI_z := Lib.hid is_z
  clear hB ho hb dt_z is_z
  go_wp2_with fail
  refine (eq_AttrS y_y y_z HI_y.out HI_z.out (HD_y.out.trans HD_z.out.symm) _ (own_read Hy.out (by have := HS1.out; have := HS2.out; have := HS3.out; have := HS4.out; have := HS5.out; have := HS6.out; omega)) (own_read Hz.out (Nat.le_refl _))).mono ?_
  rintro e w_7 ⟨rfl, hg⟩
  have hB := hg.below
  replace Hx := Lib.hid (Hx.out.later hB)
  replace Hy := Lib.hid (Hy.out.later hB)
  replace Hz := Lib.hid (Hz.out.later hB)
  have HS7 := Lib.hid hB.size
  replace HB := Lib.hid (HB.out.trans (hB.mono HB.out.size))
  clear hB hg
  go_wp2_with fail
  go_ret
  exact ⟨rfl, HB.out⟩
end Go.Proofs.Ytbegfdfdilnjdaa
