/- Helper contracts: TokensOf of the program and of the model answer the same tokens, in new memory. Asked: the string is no longer than 2^29 bytes. -/
import Derived.Test.YtbegfdfdilnjdaaDoorFeedS
import Derived.Test.YtbegfdfdilnjdaaDoorFeedI
import Derived.Test.YtbegfdfdilnjdaaDoorEnd
namespace Go.Proofs.YtbegfdfdilnjdaaDoor
open Go.ChangeShapes Go.WideShapes Go.ChangeAt Go.RowKit

set_option maxRecDepth 100000 in
set_option maxHeartbeats 2000000 in
theorem toks_spec (s : ByteArray) (hs : s.size ≤ 536870912) (w : World) : Calls Tryd.prog 18 #[.string s] w (ToksOut (tokensB s.data.toList) w) := by
  have HFD := Lib.hid (fun W => feedS_any ⟨#[]⟩ s (by show 0 + s.size ≤ _; omega) W)
  have HSZ := Lib.hid (feed_size s.data.toList)
  have HSL := Lib.hid (size_list s)
  have HS := Lib.hid hs; clear hs
  go_enter Tryd.func18, Tryd.ntmps18
  go_wp2_with fail
  refine (HFD.out _).mono ?_
  rintro e w1 ⟨v1, ts1, rfl, hts1, hM1⟩
  rw [show (⟨#[]⟩ : ByteArray).data.toList ++ s.data.toList = s.data.toList from rfl] at hts1 ⊢
  obtain ⟨R, hR⟩ : ∃ R, ofL (feedB s.data.toList).2 = R := ⟨_, rfl⟩
  rw [hR]
  have HR := Lib.hid (show R.data.toList = (feedB s.data.toList).2 by rw [← hR]; rfl)
  have HM1 := Lib.hid hM1; have HT1 := Lib.hid hts1
  clear hM1 hts1 hR
  go_wp2_with fail
  refine (end_spec R _).mono ?_
  rintro e w2 ⟨v2, ts2, rfl, hts2, hM2⟩
  rw [HR.out] at hts2
  have HM2 := Lib.hid hM2; have HT2 := Lib.hid hts2
  have HB2 := Lib.hid (show Below w1.heap.size w1 w2 from ((Below.refl _ w1).alloc (Nat.le_refl _) _).trans (hM2.row.below.mono (by rw [size_alloc]; omega)))
  have HM3 := Lib.hid (HM1.out.later HB2.out)
  have HL := Lib.hid (show ts1.length + ts2.length ≤ 536870914 by
    have h1 := congrArg List.length HT1.out
    have h2 := congrArg List.length HT2.out
    rw [List.length_map] at h1 h2
    have h3 := HSZ.out.1
    have h4 : (endB (feedB s.data.toList).2).length ≤ 1 := by unfold endB; split <;> simp
    have := HSL.out; have := HS.out
    omega)
  have HND := Lib.hid (show (insB ts1 ++ insB ts2).Nodup from List.nodup_append.2 ⟨HM1.out.nod, HM2.out.nod, fun a ha b hb e => by
    have h1 := (HM1.out.lt a ha).2
    have h2 := (HM2.out.lt b hb).1
    rw [size_alloc] at h2
    omega⟩)
  have HSB := Lib.hid (show w.heap.size ≤ w1.heap.size + 1 by have := HM1.out.row.size; omega)
  clear hM2 hts2
  go_wp2_with (at_builtin; refine wpList_appT rfl _ _ rfl w.heap.size w _ ts1 rfl HM3.out _ _ ts2 rfl (readsT_of HM2.out (Nat.le_refl _)) ?ci HND.out ?cl ?_)
  case ci => intro p hp; exact (HM2.out.inn p hp).mono (by rw [size_alloc]; exact HSB.out) (Nat.le_refl _)
  case cl => have := HL.out; omega
  intro v3 w3 hm3
  have HM4 := Lib.hid hm3; clear hm3
  go_wp2_with fail
  go_ret
  exact ⟨_, ts1 ++ ts2, rfl, by rw [List.map_append, HT1.out, HT2.out]; rfl, HM4.out⟩

set_option maxRecDepth 100000 in
set_option maxHeartbeats 2000000 in
theorem toks_impl (s : ByteArray) (hs : s.size ≤ 536870912) (w : World) : Calls Tryd.prog 13 #[.string s] w (ToksOut (tokensB s.data.toList) w) := by
  have HFD := Lib.hid (fun W => feedI_any ⟨#[]⟩ s (by show 0 + s.size ≤ _; omega) W)
  have HSZ := Lib.hid (feed_size s.data.toList)
  have HSL := Lib.hid (size_list s)
  have HS := Lib.hid hs; clear hs
  go_enter Tryd.func13, Tryd.ntmps13
  go_wp2_with fail
  refine (HFD.out _).mono ?_
  rintro e w1 ⟨v1, ts1, rfl, hts1, hM1⟩
  rw [show (⟨#[]⟩ : ByteArray).data.toList ++ s.data.toList = s.data.toList from rfl] at hts1 ⊢
  obtain ⟨R, hR⟩ : ∃ R, ofL (feedB s.data.toList).2 = R := ⟨_, rfl⟩
  rw [hR]
  have HR := Lib.hid (show R.data.toList = (feedB s.data.toList).2 by rw [← hR]; rfl)
  have HM1 := Lib.hid hM1; have HT1 := Lib.hid hts1
  clear hM1 hts1 hR
  go_wp2_with fail
  refine (end_impl R _).mono ?_
  rintro e w2 ⟨v2, ts2, rfl, hts2, hM2⟩
  rw [HR.out] at hts2
  have HM2 := Lib.hid hM2; have HT2 := Lib.hid hts2
  have HB2 := Lib.hid (show Below w1.heap.size w1 w2 from ((Below.refl _ w1).alloc (Nat.le_refl _) _).trans (hM2.row.below.mono (by rw [size_alloc]; omega)))
  have HM3 := Lib.hid (HM1.out.later HB2.out)
  have HL := Lib.hid (show ts1.length + ts2.length ≤ 536870914 by
    have h1 := congrArg List.length HT1.out
    have h2 := congrArg List.length HT2.out
    rw [List.length_map] at h1 h2
    have h3 := HSZ.out.1
    have h4 : (endB (feedB s.data.toList).2).length ≤ 1 := by unfold endB; split <;> simp
    have := HSL.out; have := HS.out
    omega)
  have HND := Lib.hid (show (insB ts1 ++ insB ts2).Nodup from List.nodup_append.2 ⟨HM1.out.nod, HM2.out.nod, fun a ha b hb e => by
    have h1 := (HM1.out.lt a ha).2
    have h2 := (HM2.out.lt b hb).1
    rw [size_alloc] at h2
    omega⟩)
  have HSB := Lib.hid (show w.heap.size ≤ w1.heap.size + 1 by have := HM1.out.row.size; omega)
  clear hM2 hts2
  go_wp2_with (at_builtin; refine wpList_appT rfl _ _ rfl w.heap.size w _ ts1 rfl HM3.out _ _ ts2 rfl (readsT_of HM2.out (Nat.le_refl _)) ?ci HND.out ?cl ?_)
  case ci => intro p hp; exact (HM2.out.inn p hp).mono (by rw [size_alloc]; exact HSB.out) (Nat.le_refl _)
  case cl => have := HL.out; omega
  intro v3 w3 hm3
  have HM4 := Lib.hid hm3; clear hm3
  go_wp2_with fail
  go_ret
  exact ⟨_, ts1 ++ ts2, rfl, by rw [List.map_append, HT1.out, HT2.out]; rfl, HM4.out⟩
end Go.Proofs.YtbegfdfdilnjdaaDoor
