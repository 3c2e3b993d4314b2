/- Helper contracts: EndText of the program and of the model answer the same tokens, in new memory. No conditions beyond the types. -/
import Derived.Test.YtbegfdfdilnjdaaDoorFeedP
import Derived.Test.YtbegfdfdilnjdaaDoorTkX
namespace Go.Proofs.YtbegfdfdilnjdaaDoor
open Go.ChangeShapes Go.WideShapes Go.ChangeAt Go.RowKit

set_option maxRecDepth 100000 in
set_option maxHeartbeats 1000000 in
theorem end_spec (r : ByteArray) (w : World) : Calls Tryd.prog 47 #[.agg #[.string r]] w (ToksOut (endB r.data.toList) w) := by
  have HB := Lib.hid ((Below.refl w.heap.size w).alloc (Nat.le_refl _) (.cells #[.string r] 38))
  by_cases h0 : 0 < r.size
  · have hne : (r.toList == []) = false := by
      rw [ByteArray.toList_eq]
      refine beq_eq_false_iff_ne.2 fun e => ?_
      have := size_list r
      rw [e] at this; simp at this; omega
    have hnn : r.data.toList ≠ [] := fun e => by have := size_list r; rw [e] at this; simp at this; omega
    by_cases h6 : r[0] = 60
    · have hb : ((r[0].toNat : Int) == 60) = true := by rw [h6]; rfl
      have HE := Lib.hid (endB_tag (byte_eq h0 h6))
      clear h6
      go_enter Tryd.func47, Tryd.ntmps47
      go_wp2_with fail
      go_ret
      have hm := MineT.empty w (w.alloc (.cells #[.string r] 38)) w.heap.size HB.out (by rw [size_alloc]; omega)
      rw [size_alloc] at hm
      exact ⟨_, [], rfl, by rw [HE.out]; rfl, hm⟩
    · have hb : ((r[0].toNat : Int) == 60) = false := (u8_beq r[0] 60).trans (decide_eq_false h6)
      have HE := Lib.hid (endB_text hnn (byte_ne fun _ => h6))
      clear h6 hnn
      go_enter Tryd.func47, Tryd.ntmps47
      go_wp2_with fail
      go_ret
      have hm := mineT_lit (w0 := w) (w := w.alloc (.cells #[.string r] 38)) (tokText r, svNil) (w.heap.size + 1) (size_alloc _ _) (by rw [size_alloc]; omega) HB.out rfl rfl rfl rfl (ownK_nil _ _ _ _ _ _)
      exact ⟨_, [(tokText r, svNil)], rfl, by rw [HE.out, ofL_of]; rfl, hm⟩
  · obtain rfl : r = ⟨#[]⟩ := by
      have := size_list r
      refine bytesEq (List.eq_nil_of_length_eq_zero (by omega))
    go_enter Tryd.func47, Tryd.ntmps47
    go_wp2_with fail
    go_ret
    have hm := MineT.empty w (w.alloc (.cells #[.string ⟨#[]⟩] 38)) w.heap.size HB.out (by rw [size_alloc]; omega)
    rw [size_alloc] at hm
    exact ⟨_, [], rfl, by rw [endB_nil]; rfl, hm⟩

set_option maxRecDepth 100000 in
set_option maxHeartbeats 1000000 in
theorem end_impl (r : ByteArray) (w : World) : Calls Tryd.prog 21 #[.agg #[.string r]] w (ToksOut (endB r.data.toList) w) := by
  have HB := Lib.hid ((Below.refl w.heap.size w).alloc (Nat.le_refl _) (.cells #[.string r] 38))
  by_cases h0 : 0 < r.size
  · have hne : (r.toList == []) = false := by
      rw [ByteArray.toList_eq]
      refine beq_eq_false_iff_ne.2 fun e => ?_
      have := size_list r
      rw [e] at this; simp at this; omega
    have hnn : r.data.toList ≠ [] := fun e => by have := size_list r; rw [e] at this; simp at this; omega
    by_cases h6 : r[0] = 60
    · have hb : ((r[0].toNat : Int) == 60) = true := by rw [h6]; rfl
      have HE := Lib.hid (endB_tag (byte_eq h0 h6))
      clear h6
      go_enter Tryd.func21, Tryd.ntmps21
      go_wp2_with fail
      go_ret
      have hm := MineT.empty w (w.alloc (.cells #[.string r] 38)) w.heap.size HB.out (by rw [size_alloc]; omega)
      rw [size_alloc] at hm
      exact ⟨_, [], rfl, by rw [HE.out]; rfl, hm⟩
    · have hb : ((r[0].toNat : Int) == 60) = false := (u8_beq r[0] 60).trans (decide_eq_false h6)
      have HE := Lib.hid (endB_text hnn (byte_ne fun _ => h6))
      clear h6 hnn
      go_enter Tryd.func21, Tryd.ntmps21
      go_wp2_with fail
      refine (tkText_any r _).mono ?_
      rintro e w1 ⟨rfl, hg1⟩
      have HB1 := Lib.hid (HB.out.trans (hg1.below.mono (by rw [size_alloc]; omega)))
      have HS1 := Lib.hid hg1.below.size
      clear hg1
      go_wp2_with fail
      go_ret
      have hm := mineT_lit (w0 := w) (w := w1) (tokText r, svNil) w1.heap.size rfl (by have := HS1.out; rw [size_alloc] at this; omega) HB1.out rfl rfl rfl rfl (ownK_nil _ _ _ _ _ _)
      exact ⟨_, [(tokText r, svNil)], rfl, by rw [HE.out, ofL_of]; rfl, hm⟩
  · obtain rfl : r = ⟨#[]⟩ := by
      have := size_list r
      refine bytesEq (List.eq_nil_of_length_eq_zero (by omega))
    go_enter Tryd.func21, Tryd.ntmps21
    go_wp2_with fail
    go_ret
    have hm := MineT.empty w (w.alloc (.cells #[.string ⟨#[]⟩] 38)) w.heap.size HB.out (by rw [size_alloc]; omega)
    rw [size_alloc] at hm
    exact ⟨_, [], rfl, by rw [endB_nil]; rfl, hm⟩
end Go.Proofs.YtbegfdfdilnjdaaDoor
