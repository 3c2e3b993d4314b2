/- The walk of the law FnExactEqualInts: it returns true, and writes nothing that was there. -/
import Derived.Test.YtemoegnijnhigaaEqs
import Derived.Test.YtemoegnijnhigaaHelpI
import Derived.Test.YtemoegnijnhigaaRowReads
namespace Go.Proofs.Ytemoegnijnhigaa
open Go.ChangeShapes Go.WideShapes Go.ChangeAt Go.RowKit

set_option maxRecDepth 100000 in
set_option maxHeartbeats 4000000 in
theorem walkEqualInts (a_a : Option Addr) (len_a cap_a : Nat) (z_a : List Int) (a_b : Option Addr) (len_b cap_b : Nat) (z_b : List Int) (w : World) (r_a : IsRow .i64 w a_a len_a cap_a z_a) (r_b : IsRow .i64 w a_b len_b cap_b z_b) :
    Calls Try.prog 12 #[.slice a_a len_a cap_a, .slice a_b len_b cap_b] w fun e w' => e = .returned (.bool true) ∧ Below w.heap.size w w' := by
  by_cases big_a : (1048576 : Int) < (len_a : Int)
  · go_enter Try.func12, Try.ntmps12
    go_wp2_with fail
    go_ret
    exact ⟨rfl, Below.refl _ _⟩
  by_cases big_b : (1048576 : Int) < (len_b : Int)
  · go_enter Try.func12, Try.ntmps12
    go_wp2_with fail
    go_ret
    exact ⟨rfl, Below.refl _ _⟩
  obtain ⟨rd_a, rl_a, rw_a⟩ := reads_of_row r_a
  obtain ⟨zs_a, ez_a⟩ : ∃ zs, z_a.take len_a = zs := ⟨_, rfl⟩
  rw [ez_a] at rd_a rl_a rw_a
  have HA_a := Lib.hid rd_a; have HN_a := Lib.hid (show zs_a.length ≤ 1048576 by omega); have HW_a := Lib.hid (ints_of_wf rw_a)
  clear rd_a rl_a rw_a ez_a r_a z_a
  obtain ⟨rd_b, rl_b, rw_b⟩ := reads_of_row r_b
  obtain ⟨zs_b, ez_b⟩ : ∃ zs, z_b.take len_b = zs := ⟨_, rfl⟩
  rw [ez_b] at rd_b rl_b rw_b
  have HA_b := Lib.hid rd_b; have HN_b := Lib.hid (show zs_b.length ≤ 1048576 by omega); have HW_b := Lib.hid (ints_of_wf rw_b)
  clear rd_b rl_b rw_b ez_b r_b z_b
  have HB := Lib.hid (Below.refl w.heap.size w)
  go_enter Try.func12, Try.ntmps12
  go_wp2_with fail
  refine (to64_any _ w.heap.size _ _ (HA_a.out.below HB.out (Nat.le_refl _)) HB.out.size (by have := HN_a.out; omega)).mono ?_
  rintro e w_1 ⟨v_c, rfl, ho, hb⟩
  have Hc := Lib.hid ho
  have HS1 := Lib.hid (hb.size)
  replace HB := Lib.hid (HB.out.trans (hb.mono HB.out.size))
  clear ho hb
  go_wp2_with fail
  refine (to64_any _ w.heap.size _ _ (HA_b.out.below HB.out (Nat.le_refl _)) HB.out.size (by have := HN_b.out; omega)).mono ?_
  rintro e w_2 ⟨v_d, rfl, ho, hb⟩
  replace Hc := Lib.hid (Hc.out.later hb)
  have Hd := Lib.hid ho
  have HS2 := Lib.hid (hb.size)
  replace HB := Lib.hid (HB.out.trans (hb.mono HB.out.size))
  clear ho hb
  go_wp2_with fail
  refine (specEqI_any _ _ _ _ _ _ _ Hc.out.reads Hd.out.reads HW_a.out HW_b.out).mono ?_
  rintro e w_3 ⟨rfl, hs⟩
  have hb := hs.below w_2.heap.size
  replace Hc := Lib.hid (Hc.out.later hb)
  replace Hd := Lib.hid (Hd.out.later hb)
  have HS3 := Lib.hid (hb.size)
  have HE3 := Lib.hid (congrArg Array.size hs.heap)
  replace HB := Lib.hid (HB.out.trans (hs.below _))
  clear hs hb
  go_wp2_with fail
  refine (to64_any _ w.heap.size _ _ (HA_a.out.below HB.out (Nat.le_refl _)) HB.out.size (by have := HN_a.out; omega)).mono ?_
  rintro e w_4 ⟨v_x, rfl, ho, hb⟩
  replace Hc := Lib.hid (Hc.out.later hb)
  replace Hd := Lib.hid (Hd.out.later hb)
  have Hx := Lib.hid ho
  have HS4 := Lib.hid (hb.size)
  replace HB := Lib.hid (HB.out.trans (hb.mono HB.out.size))
  clear ho hb
  go_wp2_with fail
  refine (to64_any _ w.heap.size _ _ (HA_b.out.below HB.out (Nat.le_refl _)) HB.out.size (by have := HN_b.out; omega)).mono ?_
  rintro e w_5 ⟨v_y, rfl, ho, hb⟩
  replace Hc := Lib.hid (Hc.out.later hb)
  replace Hd := Lib.hid (Hd.out.later hb)
  replace Hx := Lib.hid (Hx.out.later hb)
  have Hy := Lib.hid ho
  have HS5 := Lib.hid (hb.size)
  replace HB := Lib.hid (HB.out.trans (hb.mono HB.out.size))
  clear ho hb
  go_wp2_with fail
  refine (implEqI_any _ _ _ _ _ _ _ Hx.out.reads Hy.out.reads HW_a.out HW_b.out).mono ?_
  rintro e w_6 ⟨rfl, hs⟩
  have hb := hs.below w_5.heap.size
  replace Hc := Lib.hid (Hc.out.later hb)
  replace Hd := Lib.hid (Hd.out.later hb)
  replace Hx := Lib.hid (Hx.out.later hb)
  replace Hy := Lib.hid (Hy.out.later hb)
  have HS6 := Lib.hid (hb.size)
  have HE6 := Lib.hid (congrArg Array.size hs.heap)
  replace HB := Lib.hid (HB.out.trans (hs.below _))
  clear hs hb
  go_wp2_with fail
  refine (to64_any _ w.heap.size _ _ (HA_a.out.below HB.out (Nat.le_refl _)) HB.out.size (by have := HN_a.out; omega)).mono ?_
  rintro e w_7 ⟨v_p, rfl, ho, hb⟩
  replace Hc := Lib.hid (Hc.out.later hb)
  replace Hd := Lib.hid (Hd.out.later hb)
  replace Hx := Lib.hid (Hx.out.later hb)
  replace Hy := Lib.hid (Hy.out.later hb)
  have Hp := Lib.hid ho
  have HS7 := Lib.hid (hb.size)
  replace HB := Lib.hid (HB.out.trans (hb.mono HB.out.size))
  clear ho hb
  go_wp2_with fail
  refine (eq64_any _ _ _ _ _ _ Hx.out.reads Hp.out.reads).mono ?_
  rintro e w_8 ⟨rfl, hs⟩
  have hb := hs.below w_7.heap.size
  replace Hc := Lib.hid (Hc.out.later hb)
  replace Hd := Lib.hid (Hd.out.later hb)
  replace Hx := Lib.hid (Hx.out.later hb)
  replace Hy := Lib.hid (Hy.out.later hb)
  replace Hp := Lib.hid (Hp.out.later hb)
  have HS8 := Lib.hid (hb.size)
  have HE8 := Lib.hid (congrArg Array.size hs.heap)
  replace HB := Lib.hid (HB.out.trans (hs.below _))
  clear hs hb
  go_wp2_with fail
  refine (to64_any _ w.heap.size _ _ (HA_b.out.below HB.out (Nat.le_refl _)) HB.out.size (by have := HN_b.out; omega)).mono ?_
  rintro e w_9 ⟨v_q, rfl, ho, hb⟩
  replace Hc := Lib.hid (Hc.out.later hb)
  replace Hd := Lib.hid (Hd.out.later hb)
  replace Hx := Lib.hid (Hx.out.later hb)
  replace Hy := Lib.hid (Hy.out.later hb)
  replace Hp := Lib.hid (Hp.out.later hb)
  have Hq := Lib.hid ho
  have HS9 := Lib.hid (hb.size)
  replace HB := Lib.hid (HB.out.trans (hb.mono HB.out.size))
  clear ho hb
  go_wp2_with fail
  refine (eq64_any _ _ _ _ _ _ Hy.out.reads Hq.out.reads).mono ?_
  rintro e w_10 ⟨rfl, hs⟩
  have hb := hs.below w_9.heap.size
  replace Hc := Lib.hid (Hc.out.later hb)
  replace Hd := Lib.hid (Hd.out.later hb)
  replace Hx := Lib.hid (Hx.out.later hb)
  replace Hy := Lib.hid (Hy.out.later hb)
  replace Hp := Lib.hid (Hp.out.later hb)
  replace Hq := Lib.hid (Hq.out.later hb)
  have HS10 := Lib.hid (hb.size)
  have HE10 := Lib.hid (congrArg Array.size hs.heap)
  replace HB := Lib.hid (HB.out.trans (hs.below _))
  clear hs hb
  go_wp2_with fail
  go_ret
  exact ⟨rfl, HB.out⟩
end Go.Proofs.Ytemoegnijnhigaa
