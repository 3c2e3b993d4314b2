/- The walk of the law FnExactHash: it returns true, and writes nothing that was there. -/
import Derived.Test.YtlehahpgdafnoaaHash
import Derived.Test.YtlehahpgdafnoaaRowReads
namespace Go.Proofs.Ytlehahpgdafnoaa
open Go.ChangeShapes Go.WideShapes Go.ChangeAt Go.RowKit

set_option maxRecDepth 100000 in
set_option maxHeartbeats 4000000 in
theorem walkHash (a_v : Option Addr) (len_v cap_v : Nat) (z_v : List Int) (w : World) (r_v : IsRow .i64 w a_v len_v cap_v z_v) :
    Calls Try.prog 5 #[.slice a_v len_v cap_v] w fun e w' => e = .returned (.bool true) ∧ Below w.heap.size w w' := by
  by_cases big_v : (1048576 : Int) < (len_v : Int)
  · go_enter Try.func5, Try.ntmps5
    go_wp2_with fail
    go_ret
    exact ⟨rfl, Below.refl _ _⟩
  obtain ⟨rd_v, rl_v, rw_v⟩ := reads_of_row r_v
  obtain ⟨zs_v, ez_v⟩ : ∃ zs, z_v.take len_v = zs := ⟨_, rfl⟩
  rw [ez_v] at rd_v rl_v rw_v
  have HA_v := Lib.hid rd_v; have HN_v := Lib.hid (show zs_v.length ≤ 1048576 by omega); have HW_v := Lib.hid (ints_of_wf rw_v)
  clear rd_v rl_v rw_v ez_v r_v z_v
  have HB := Lib.hid (Below.refl w.heap.size w)
  go_enter Try.func5, Try.ntmps5
  go_wp2_with fail
  refine (to64_any _ w.heap.size _ _ (HA_v.out.below HB.out (Nat.le_refl _)) HB.out.size (by have := HN_v.out; omega)).mono ?_
  rintro e w_1 ⟨v_c, rfl, ho, hb⟩
  have Hc := Lib.hid ho
  have HS1 := Lib.hid (hb.size)
  replace HB := Lib.hid (HB.out.trans (hb.mono HB.out.size))
  clear ho hb
  go_wp2_with fail
  refine (specHash_any _ _ _ _ Hc.out.reads).mono ?_
  rintro e wq ⟨rfl, rfl⟩
  go_wp2_with fail
  refine (to64_any _ w.heap.size _ _ (HA_v.out.below HB.out (Nat.le_refl _)) HB.out.size (by have := HN_v.out; omega)).mono ?_
  rintro e w_2 ⟨v_x, rfl, ho, hb⟩
  replace Hc := Lib.hid (Hc.out.later hb)
  have Hx := Lib.hid ho
  have HS2 := Lib.hid (hb.size)
  replace HB := Lib.hid (HB.out.trans (hb.mono HB.out.size))
  clear ho hb
  go_wp2_with fail
  refine (implHash_any _ _ _ _ Hx.out.reads).mono ?_
  rintro e wq ⟨rfl, rfl⟩
  go_wp2_with fail
  refine (to64_any _ w.heap.size _ _ (HA_v.out.below HB.out (Nat.le_refl _)) HB.out.size (by have := HN_v.out; omega)).mono ?_
  rintro e w_3 ⟨v_y, rfl, ho, hb⟩
  replace Hc := Lib.hid (Hc.out.later hb)
  replace Hx := Lib.hid (Hx.out.later hb)
  have Hy := Lib.hid ho
  have HS3 := Lib.hid (hb.size)
  replace HB := Lib.hid (HB.out.trans (hb.mono HB.out.size))
  clear ho hb
  go_wp2_with fail
  refine (eq64_any _ _ _ _ _ _ Hx.out.reads Hy.out.reads).mono ?_
  rintro e w_4 ⟨rfl, hs⟩
  have hb := hs.below w_3.heap.size
  replace Hc := Lib.hid (Hc.out.later hb)
  replace Hx := Lib.hid (Hx.out.later hb)
  replace Hy := Lib.hid (Hy.out.later hb)
  have HS4 := Lib.hid (hb.size)
  have HE4 := Lib.hid (congrArg Array.size hs.heap)
  replace HB := Lib.hid (HB.out.trans (hs.below _))
  clear hs hb
  go_wp2_with fail
  go_ret
  exact ⟨rfl, HB.out⟩
end Go.Proofs.Ytlehahpgdafnoaa
