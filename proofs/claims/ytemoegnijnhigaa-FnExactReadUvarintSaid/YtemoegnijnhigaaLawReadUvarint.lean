/- The walk of the law FnExactReadUvarint: it returns true, and writes nothing that was there. -/
import Derived.Test.YtemoegnijnhigaaReadI
import Derived.Test.YtemoegnijnhigaaRowReads
namespace Go.Proofs.Ytemoegnijnhigaa
open Go.ChangeShapes Go.WideShapes Go.ChangeAt Go.RowKit

set_option maxRecDepth 100000 in
set_option maxHeartbeats 4000000 in
theorem walkReadUvarint (a_b : Option Addr) (len_b cap_b : Nat) (z_b : List Int) (a_o : Int) (w : World) (r_b : IsRow .u8 w a_b len_b cap_b z_b) (r_o : (Lit.int .i64 a_o).wf = true) :
    Calls Try.prog 6 #[.slice a_b len_b cap_b, .int .i64 a_o] w fun e w' => e = .returned (.bool true) ∧ Below w.heap.size w w' := by
  by_cases big_b : (1048576 : Int) < (len_b : Int)
  · go_enter Try.func6, Try.ntmps6
    go_wp2_with fail
    go_ret
    exact ⟨rfl, Below.refl _ _⟩
  obtain ⟨rd_b, rl_b, rw_b⟩ := reads_of_row r_b
  obtain ⟨zs_b, ez_b⟩ : ∃ zs, z_b.take len_b = zs := ⟨_, rfl⟩
  rw [ez_b] at rd_b rl_b rw_b
  have HA_b := Lib.hid rd_b; have HN_b := Lib.hid (show zs_b.length ≤ 1048576 by omega); have HW_b := Lib.hid (bytes_of_wf rw_b)
  clear rd_b rl_b rw_b ez_b r_b z_b
  obtain ⟨lo_o, hi_o⟩ := int_range r_o
  clear r_o
  have HB := Lib.hid (Below.refl w.heap.size w)
  go_enter Try.func6, Try.ntmps6
  obtain ⟨q1, q2, q3, hq⟩ : ∃ q1 q2 q3, uval a_o (readU zs_b a_o) = .tuple #[.int .i64 q1, .int .i64 q2, .bool q3] := ⟨_, _, _, rfl⟩
  have HQ := Lib.hid hq; clear hq
  go_wp2_with fail
  refine (to8_any _ w.heap.size _ _ (HA_b.out.below HB.out (Nat.le_refl _)) HB.out.size (by have := HN_b.out; omega)).mono ?_
  rintro e w_1 ⟨v_c, rfl, ho, hb⟩
  have Hc := Lib.hid ho
  have HS1 := Lib.hid (hb.size)
  replace HB := Lib.hid (HB.out.trans (hb.mono HB.out.size))
  clear ho hb
  go_wp2_with fail
  refine (specRead_any _ _ _ _ _ Hc.out.reads HW_b.out lo_o hi_o (by have := HN_b.out; omega)).mono ?_
  rintro e w_2 ⟨he, hb⟩
  rw [HQ.out] at he
  subst he
  replace Hc := Lib.hid (Hc.out.later hb)
  have HS2 := Lib.hid (hb.size)
  replace HB := Lib.hid (HB.out.trans (hb.mono HB.out.size))
  clear hb
  go_wp2_with fail
  refine (to8_any _ w.heap.size _ _ (HA_b.out.below HB.out (Nat.le_refl _)) HB.out.size (by have := HN_b.out; omega)).mono ?_
  rintro e w_3 ⟨v_x, rfl, ho, hb⟩
  replace Hc := Lib.hid (Hc.out.later hb)
  have Hx := Lib.hid ho
  have HS3 := Lib.hid (hb.size)
  replace HB := Lib.hid (HB.out.trans (hb.mono HB.out.size))
  clear ho hb
  go_wp2_with fail
  refine (implRead_any _ _ _ _ _ Hx.out.reads (Nat.le_refl _) HW_b.out (by have := HN_b.out; omega)).mono ?_
  rintro e w_4 ⟨he, hb⟩
  rw [HQ.out] at he
  subst he
  replace Hc := Lib.hid (Hc.out.later hb)
  replace Hx := Lib.hid (Hx.out.later hb)
  have HS4 := Lib.hid (hb.size)
  replace HB := Lib.hid (HB.out.trans (hb.mono HB.out.size))
  clear hb
  go_wp2_with fail
  refine (to8_any _ w.heap.size _ _ (HA_b.out.below HB.out (Nat.le_refl _)) HB.out.size (by have := HN_b.out; omega)).mono ?_
  rintro e w_5 ⟨v_y, rfl, ho, hb⟩
  replace Hc := Lib.hid (Hc.out.later hb)
  replace Hx := Lib.hid (Hx.out.later hb)
  have Hy := Lib.hid ho
  have HS5 := Lib.hid (hb.size)
  replace HB := Lib.hid (HB.out.trans (hb.mono HB.out.size))
  clear ho hb
  go_wp2_with fail
  refine (eq8_any _ _ _ _ _ _ Hx.out.reads Hy.out.reads).mono ?_
  rintro e w_6 ⟨rfl, hs⟩
  have hb := hs.below w_5.heap.size
  replace Hc := Lib.hid (Hc.out.later hb)
  replace Hx := Lib.hid (Hx.out.later hb)
  replace Hy := Lib.hid (Hy.out.later hb)
  have HS6 := Lib.hid (hb.size)
  have HE6 := Lib.hid (congrArg Array.size hs.heap)
  replace HB := Lib.hid (HB.out.trans (hs.below _))
  clear hs hb
  go_wp2_with fail
  go_ret
  exact ⟨rfl, HB.out⟩
end Go.Proofs.Ytemoegnijnhigaa
