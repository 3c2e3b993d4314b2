/- Helper contracts: DigestOf of the program and of the model answer alike. Asked: the body is no longer than 2^20. -/
import Derived.Test.YtgcdfkpidcdicaaDoorDerive
namespace Go.Proofs.YtgcdfkpidcdicaaDoor
open Go.ChangeShapes Go.WideShapes Go.ChangeAt Go.RowKit

/-- The digest: the fold of the label and the body's bytes with their number. -/
def digL (s : ByteArray) : List Int := 151 :: b2i (sbytes s)
def digN (s : ByteArray) : Int := hashL (digL s) (digL s).length
theorem digN_bd (s : ByteArray) : 0 ≤ digN s ∧ digN s < 2147483647 := hashL_bd _ _

set_option maxRecDepth 100000 in
set_option maxHeartbeats 2000000 in
theorem dig_spec (s : ByteArray) (w : World) (hl : s.size ≤ 1048576) :
    Calls Tryd.prog 53 #[.string s] w fun e w' => e = .returned (.int .i64 (digN s)) ∧ Below w.heap.size w w' := by
  obtain ⟨i0, hi0, hz0, hz1, hz2⟩ := info_parts info64
  have HK := Lib.hid (show digN s = hashL (151 :: b2i (sbytes s)) (151 :: b2i (sbytes s)).length from rfl)
  have HM0 := Lib.hid (Mine.lit (k := .i64) (e := 3) 151 (Below.refl w.heap.size w) (Nat.le_refl _))
  obtain ⟨W0, hW0⟩ : ∃ x, w.alloc (.cells #[.int .i64 151] 3) = x := ⟨_, rfl⟩
  have hs0 : W0.heap.size = w.heap.size + 1 := by rw [← hW0]; simp
  rw [hW0] at HM0
  have hcv := run_bytes_of_string (P := Tryd.prog) W0 9 22 5 s Tryd.underlying9 Tryd.underlying22 Tryd.underlying5
  have hc1 : s.size ≤ grownCap W0 s.size 0 5 := grownCap_ge _ _ _ _
  have hc2 : grownCap W0 s.size 0 5 ≤ maxLen := grownCap_le_maxLen _ _ _ _ (by unfold maxLen; omega)
  unfold maxLen at hc2
  obtain ⟨c, hc⟩ : ∃ c, grownCap W0 s.size 0 5 = c := ⟨_, rfl⟩
  rw [hc] at hcv hc1 hc2
  have HRD := Lib.hid (reads_conv_of s W0.drew c ((bytesRow s c).size, (bytesRow s c).size + 1) hc1 hc2)
  have HBD := Lib.hid (conv_below W0 (.cells (bytesRow s c) 5 ((bytesRow s c).size, (bytesRow s c).size + 1)))
  obtain ⟨w1, hw1⟩ : ∃ w1, W0.drew.alloc (.cells (bytesRow s c) 5 ((bytesRow s c).size, (bytesRow s c).size + 1)) = w1 := ⟨_, rfl⟩
  have hs1 : w1.heap.size = W0.heap.size + 1 := by rw [← hw1]; show (W0.heap.push _).size = _; simp
  have HS1 := Lib.hid (show w1.heap.size = w.heap.size + 1 + 1 by rw [hs1, hs0])
  have HRE := Lib.hid (show Reads .u8 (w.heap.size + 1 + 1) w1 (.slice (some ⟨w.heap.size + 1, 0, none⟩) s.size c) (sbytes s) by have h := HRD.out; rw [hw1] at h; rw [← hs0]; exact h)
  rw [hw1] at hcv HBD
  rw [hs0, ← hW0] at hcv
  have HM1 := Lib.hid (HM0.out.later HBD.out)
  clear hc hw1 hs1 hW0 hs0 HRD
  go_enter Tryd.func53, Tryd.ntmps53
  go_wp2_with fail
  refine (specB2I_any _ (w.heap.size + 1 + 1) (sbytes s) w1 HRE.out (by rw [HS1.out]; exact Nat.le_refl _) (sbytes_bytes s) (by rw [sbytes_len]; omega)).mono ?_
  rintro e w2 ⟨v2, rfl, ho2, hb2⟩
  have HO2 := Lib.hid ho2; have HM2 := Lib.hid (HM1.out.later hb2); clear ho2 hb2
  go_wp2_with (at_builtin; refine wpList_app rfl _ _ 79 rfl .i64 3 i0 (.int .i64 0) 8 Tryd.underlying79 hi0 hz0 hz1 hz2 rfl w.heap.size w _ [151] rfl HM2.out _ _ (b2i (sbytes s)) rfl HO2.out.reads (by decide) ?c3 ?_)
  case c3 => rw [b2i_len, sbytes_len]; simp; omega
  intro v3 w3 hm3
  have HM3 := Lib.hid hm3; clear hm3
  go_wp2_with fail
  refine (specHash_any _ w3.heap.size (151 :: b2i (sbytes s)) w3 HM3.out.own.reads).mono ?_
  rintro e w4 ⟨rfl, rfl⟩
  rw [← HK.out]
  go_wp2
  go_ret
  exact ⟨rfl, HM3.out.below⟩

set_option maxRecDepth 100000 in
set_option maxHeartbeats 2000000 in
theorem dig_impl (s : ByteArray) (w : World) (hl : s.size ≤ 1048576) :
    Calls Tryd.prog 55 #[.string s] w fun e w' => e = .returned (.int .i64 (digN s)) ∧ Below w.heap.size w w' := by
  obtain ⟨i0, hi0, hz0, hz1, hz2⟩ := info_parts info64
  have HK := Lib.hid (show digN s = hashL (151 :: b2i (sbytes s)) (151 :: b2i (sbytes s)).length from rfl)
  have HM0 := Lib.hid (Mine.lit (k := .i64) (e := 3) 151 (Below.refl w.heap.size w) (Nat.le_refl _))
  obtain ⟨W0, hW0⟩ : ∃ x, w.alloc (.cells #[.int .i64 151] 3) = x := ⟨_, rfl⟩
  have hs0 : W0.heap.size = w.heap.size + 1 := by rw [← hW0]; simp
  rw [hW0] at HM0
  have hcv := run_bytes_of_string (P := Tryd.prog) W0 9 22 5 s Tryd.underlying9 Tryd.underlying22 Tryd.underlying5
  have hc1 : s.size ≤ grownCap W0 s.size 0 5 := grownCap_ge _ _ _ _
  have hc2 : grownCap W0 s.size 0 5 ≤ maxLen := grownCap_le_maxLen _ _ _ _ (by unfold maxLen; omega)
  unfold maxLen at hc2
  obtain ⟨c, hc⟩ : ∃ c, grownCap W0 s.size 0 5 = c := ⟨_, rfl⟩
  rw [hc] at hcv hc1 hc2
  have HRD := Lib.hid (reads_conv_of s W0.drew c ((bytesRow s c).size, (bytesRow s c).size + 1) hc1 hc2)
  have HBD := Lib.hid (conv_below W0 (.cells (bytesRow s c) 5 ((bytesRow s c).size, (bytesRow s c).size + 1)))
  obtain ⟨w1, hw1⟩ : ∃ w1, W0.drew.alloc (.cells (bytesRow s c) 5 ((bytesRow s c).size, (bytesRow s c).size + 1)) = w1 := ⟨_, rfl⟩
  have hs1 : w1.heap.size = W0.heap.size + 1 := by rw [← hw1]; show (W0.heap.push _).size = _; simp
  have HS1 := Lib.hid (show w1.heap.size = w.heap.size + 1 + 1 by rw [hs1, hs0])
  have HRE := Lib.hid (show Reads .u8 (w.heap.size + 1 + 1) w1 (.slice (some ⟨w.heap.size + 1, 0, none⟩) s.size c) (sbytes s) by have h := HRD.out; rw [hw1] at h; rw [← hs0]; exact h)
  rw [hw1] at hcv HBD
  rw [hs0, ← hW0] at hcv
  have HM1 := Lib.hid (HM0.out.later HBD.out)
  clear hc hw1 hs1 hW0 hs0 HRD
  go_enter Tryd.func55, Tryd.ntmps55
  go_wp2_with fail
  refine (implB2I_any _ (w.heap.size + 1 + 1) (sbytes s) w1 HRE.out (by rw [HS1.out]; exact Nat.le_refl _) (sbytes_bytes s) (by rw [sbytes_len]; omega)).mono ?_
  rintro e w2 ⟨v2, rfl, ho2, hb2⟩
  have HO2 := Lib.hid ho2; have HM2 := Lib.hid (HM1.out.later hb2); clear ho2 hb2
  go_wp2_with (at_builtin; refine wpList_app rfl _ _ 79 rfl .i64 3 i0 (.int .i64 0) 8 Tryd.underlying79 hi0 hz0 hz1 hz2 rfl w.heap.size w _ [151] rfl HM2.out _ _ (b2i (sbytes s)) rfl HO2.out.reads (by decide) ?c3 ?_)
  case c3 => rw [b2i_len, sbytes_len]; simp; omega
  intro v3 w3 hm3
  have HM3 := Lib.hid hm3; clear hm3
  go_wp2_with fail
  refine (implHash_any _ w3.heap.size (151 :: b2i (sbytes s)) w3 HM3.out.own.reads).mono ?_
  rintro e w4 ⟨rfl, rfl⟩
  rw [← HK.out]
  go_wp2
  go_ret
  exact ⟨rfl, HM3.out.below⟩

end Go.Proofs.YtgcdfkpidcdicaaDoor
