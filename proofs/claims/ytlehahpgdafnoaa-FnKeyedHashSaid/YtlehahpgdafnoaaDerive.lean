/- Helper contracts: DeriveFromString of the program and of the model answer alike. Asked: the string is no longer than 2^20. -/
import Derived.Test.YtlehahpgdafnoaaKeyed
import Derived.Laws.IdiomStrings
namespace Go.Proofs.Ytlehahpgdafnoaa
open Go.ChangeShapes Go.WideShapes Go.ChangeAt Go.RowKit

/-- A string's bytes as numbers. -/
def sbytes (s : ByteArray) : List Int := s.data.toList.map fun b => (b.toNat : Int)
theorem sbytes_len (s : ByteArray) : (sbytes s).length = s.size := by
  simp [sbytes]
theorem sbytes_bytes (s : ByteArray) : Bytes (sbytes s) := by
  intro z hz
  simp only [sbytes, List.mem_map] at hz
  obtain ⟨b, _, rfl⟩ := hz
  have := b.toNat_lt
  omega
theorem reads_conv_of (s : ByteArray) (w : World) (c : Nat) (f : Nat × Nat) (h1 : s.size ≤ c) (h2 : c ≤ 9223372036854775807) :
    Reads .u8 (w.heap.size + 1) (w.alloc (.cells (bytesRow s c) 5 f)) (.slice (some ⟨w.heap.size, 0, none⟩) s.size c) (sbytes s) := by
  refine ⟨some ⟨w.heap.size, 0, none⟩, c, by rw [sbytes_len], by rw [sbytes_len]; exact h1, h2, (fun h => by cases h), Or.inr ⟨w.heap.size, 0, rfl, by omega, fun j hj => ?_⟩⟩
  rw [sbytes_len] at hj
  have h3 : (w.alloc (.cells (bytesRow s c) 5 f)).heap[w.heap.size]? = some (.cells (bytesRow s c) 5 f) := by
    show (w.heap.push _)[w.heap.size]? = _
    simp
  have hj2 : j < s.data.size := hj
  have h4 : (bytesRow s c)[j]? = some (.int .u8 (s.data[j].toNat : Int)) := by
    unfold bytesRow
    rw [Array.getElem?_append_left (by simpa using hj2), Array.getElem?_map, Array.getElem?_eq_getElem hj2]
    rfl
  have h5 : (sbytes s).getD j 0 = (s.data[j].toNat : Int) := by
    rw [List.getD_eq_getElem?_getD]
    simp only [sbytes, List.getElem?_map, Array.getElem?_toList, Array.getElem?_eq_getElem hj2]
    rfl
  rw [h5, Nat.zero_add]
  unfold World.cell?
  rw [h3]
  simpa using h4

/-- A string's bytes in a new slice: of what lay in memory nothing is written. -/
theorem conv_below (w : World) (o : Obj) : Below w.heap.size w (w.drew.alloc o) := (Below.refl _ _).drew.alloc (Nat.le_refl _) _

def derive (k : Int) (s : ByteArray) : Int := maxI 1 (kh k (b2i (sbytes s)))
theorem derive_zero {k : Int} {s : ByteArray} (h : kh k (b2i (sbytes s)) = 0) : derive k s = 1 := by unfold derive maxI; rw [h]; rfl
theorem derive_else {k : Int} {s : ByteArray} (h : ¬ kh k (b2i (sbytes s)) = 0) : derive k s = kh k (b2i (sbytes s)) := by
  have := kh_bd k (b2i (sbytes s))
  unfold derive maxI
  split <;> omega
theorem derive_bd (k : Int) (s : ByteArray) : 1 ≤ derive k s ∧ derive k s ≤ 2147483646 := by
  have := kh_bd k (b2i (sbytes s))
  unfold derive maxI
  split <;> omega

set_option maxHeartbeats 1000000 in
theorem specDer_any (k : Int) (s : ByteArray) (w : World) (hl : s.size ≤ 1048576) :
    Calls Try.prog 40 #[.int .i64 k, .string s] w fun e w' => e = .returned (.int .i64 (derive k s)) ∧ Below w.heap.size w w' := by
  have hcv := run_bytes_of_string (P := Try.prog) w 9 22 5 s Try.underlying9 Try.underlying22 Try.underlying5
  have hc1 : s.size ≤ grownCap w s.size 0 5 := grownCap_ge _ _ _ _
  have hc2 : grownCap w s.size 0 5 ≤ maxLen := grownCap_le_maxLen _ _ _ _ (by unfold maxLen; omega)
  unfold maxLen at hc2
  obtain ⟨c, hc⟩ : ∃ c, grownCap w s.size 0 5 = c := ⟨_, rfl⟩
  rw [hc] at hcv hc1 hc2
  have HRD := Lib.hid (reads_conv_of s w.drew c ((bytesRow s c).size, (bytesRow s c).size + 1) hc1 hc2)
  have HBD := Lib.hid (conv_below w (.cells (bytesRow s c) 5 ((bytesRow s c).size, (bytesRow s c).size + 1)))
  obtain ⟨w1, hw1⟩ : ∃ w1, w.drew.alloc (.cells (bytesRow s c) 5 ((bytesRow s c).size, (bytesRow s c).size + 1)) = w1 := ⟨_, rfl⟩
  have hs1 : w1.heap.size = w.heap.size + 1 := by rw [← hw1]; show (w.heap.push _).size = _; simp
  have HS1 := Lib.hid hs1
  rw [hw1] at hcv HRD HBD
  clear hc hw1 hs1
  go_enter Try.func40, Try.ntmps40
  go_wp2_with fail
  refine (specB2I_any _ (w.heap.size + 1) (sbytes s) w1 HRD.out (by rw [HS1.out]; exact Nat.le_refl _) (sbytes_bytes s) (by rw [sbytes_len]; omega)).mono ?_
  rintro e w2 ⟨v2, rfl, ho2, hb2⟩
  have HO2 := Lib.hid ho2; have HB2 := Lib.hid (HBD.out.trans (hb2.mono HBD.out.size)); clear ho2 hb2
  go_wp2_with fail
  refine (specKH_any k _ w2.heap.size (b2i (sbytes s)) w2 HO2.out.reads (Nat.le_refl _) (by rw [b2i_len, sbytes_len]; omega)).mono ?_
  rintro e w3 ⟨rfl, hb3⟩
  have HB3 := Lib.hid (HB2.out.trans (hb3.mono HB2.out.size)); clear hb3
  go_wp2_with fail
  refine (max_spec _ _ _).mono ?_
  rintro e w4 ⟨rfl, rfl⟩
  go_wp2
  go_ret
  exact ⟨rfl, HB3.out⟩

set_option maxHeartbeats 1000000 in
theorem implDer_any (k : Int) (s : ByteArray) (w : World) (hl : s.size ≤ 1048576) :
    Calls Try.prog 24 #[.int .i64 k, .string s] w fun e w' => e = .returned (.int .i64 (derive k s)) ∧ Below w.heap.size w w' := by
  have hcv := run_bytes_of_string (P := Try.prog) w 9 22 5 s Try.underlying9 Try.underlying22 Try.underlying5
  have hc1 : s.size ≤ grownCap w s.size 0 5 := grownCap_ge _ _ _ _
  have hc2 : grownCap w s.size 0 5 ≤ maxLen := grownCap_le_maxLen _ _ _ _ (by unfold maxLen; omega)
  unfold maxLen at hc2
  obtain ⟨c, hc⟩ : ∃ c, grownCap w s.size 0 5 = c := ⟨_, rfl⟩
  rw [hc] at hcv hc1 hc2
  have HRD := Lib.hid (reads_conv_of s w.drew c ((bytesRow s c).size, (bytesRow s c).size + 1) hc1 hc2)
  have HBD := Lib.hid (conv_below w (.cells (bytesRow s c) 5 ((bytesRow s c).size, (bytesRow s c).size + 1)))
  obtain ⟨w1, hw1⟩ : ∃ w1, w.drew.alloc (.cells (bytesRow s c) 5 ((bytesRow s c).size, (bytesRow s c).size + 1)) = w1 := ⟨_, rfl⟩
  have hs1 : w1.heap.size = w.heap.size + 1 := by rw [← hw1]; show (w.heap.push _).size = _; simp
  have HS1 := Lib.hid hs1
  rw [hw1] at hcv HRD HBD
  clear hc hw1 hs1
  have HD0 := Lib.hid (fun h => derive_zero (k := k) (s := s) h); have HD1 := Lib.hid (fun h => derive_else (k := k) (s := s) h)
  obtain ⟨D, hD⟩ : ∃ D, derive k s = D := ⟨_, rfl⟩
  rw [hD] at HD0 HD1 ⊢
  clear hD
  go_enter Try.func24, Try.ntmps24
  go_wp2_with fail
  refine (implB2I_any _ (w.heap.size + 1) (sbytes s) w1 HRD.out (by rw [HS1.out]; exact Nat.le_refl _) (sbytes_bytes s) (by rw [sbytes_len]; omega)).mono ?_
  rintro e w2 ⟨v2, rfl, ho2, hb2⟩
  have HO2 := Lib.hid ho2; have HB2 := Lib.hid (HBD.out.trans (hb2.mono HBD.out.size)); clear ho2 hb2
  go_wp2_with fail
  refine (implKH_any k _ w2.heap.size (b2i (sbytes s)) w2 HO2.out.reads (Nat.le_refl _) (by rw [b2i_len, sbytes_len]; omega)).mono ?_
  rintro e w3 ⟨rfl, hb3⟩
  have HB3 := Lib.hid (HB2.out.trans (hb3.mono HB2.out.size)); clear hb3
  obtain ⟨q, hq⟩ : ∃ q, kh k (b2i (sbytes s)) = q := ⟨_, rfl⟩
  rw [hq] at HD0 HD1 ⊢
  clear hq
  by_cases h0 : q = 0
  · have hD := HD0.out h0
    subst h0
    subst hD
    go_wp2_with fail
    go_ret
    exact ⟨rfl, HB3.out⟩
  · have hD := HD1.out h0
    subst hD
    go_wp2_with fail
    go_ret
    exact ⟨rfl, HB3.out⟩
end Go.Proofs.Ytlehahpgdafnoaa
