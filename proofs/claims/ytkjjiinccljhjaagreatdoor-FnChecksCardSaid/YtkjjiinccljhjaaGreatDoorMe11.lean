/- Helper contracts: DigestOf of the program and of the model answer alike. Asked: the body is no longer than 2^20. Helper contract over the model's FormatInt: for every int it returns the decimal numeral; it only makes new blocks of memory. Helper contracts over the functions with which the laws copy, measure and compare one response. No conditions beyond the types. Helper contracts: FitsKind, SizeResponse and NotFound of the program and of the model answer alike. -/
import Derived.Test.YtkjjiinccljhjaaGreatDoorMe10
import Derived.Test.YtkjjiinccljhjaaGreatDoorRows
import Derived.WalkKit
import Derived.ProofKit
import Derived.OpenShut
import Derived.LoopTactic
import Derived.Lib.Hide
import Derived.Lib.ItoaNum
import Derived.Below
import Derived.Laws.IdiomStrings
import Derived.Test.YtkjjiinccljhjaaGreatDoorMe1
import Derived.Test.YtkjjiinccljhjaaGreatDoorMe2
namespace Go.Proofs.YtkjjiinccljhjaaGreatDoor

open Go.ChangeShapes Go.WideShapes Go.ChangeAt Go.RowKit

/-- The digest: the fold of the label and the body's bytes with their number. -/
def digL (s : ByteArray) : List Int := 151 :: b2i (sbytes s)
def digN (s : ByteArray) : Int := hashL (digL s) (digL s).length
theorem digN_bd (s : ByteArray) : 0 ≤ digN s ∧ digN s < 2147483647 := hashL_bd _ _

set_option maxRecDepth 100000 in
set_option maxHeartbeats 2000000 in
theorem dig_spec (s : ByteArray) (w : World) (hl : s.size ≤ 1048576) :
    Calls Tryz.prog 20 #[.string s] w fun e w' => e = .returned (.int .i64 (digN s)) ∧ Below w.heap.size w w' := by
  obtain ⟨i0, hi0, hz0, hz1, hz2⟩ := info_parts info64
  have HK := Lib.hid (show digN s = hashL (151 :: b2i (sbytes s)) (151 :: b2i (sbytes s)).length from rfl)
  have HM0 := Lib.hid (Mine.lit (k := .i64) (e := 3) 151 (Below.refl w.heap.size w) (Nat.le_refl _))
  obtain ⟨W0, hW0⟩ : ∃ x, w.alloc (.cells #[.int .i64 151] 3) = x := ⟨_, rfl⟩
  have hs0 : W0.heap.size = w.heap.size + 1 := by rw [← hW0]; simp
  rw [hW0] at HM0
  have hcv := run_bytes_of_string (P := Tryz.prog) W0 9 22 5 s Tryz.underlying9 Tryz.underlying22 Tryz.underlying5
  have hc1 : s.size ≤ grownCap W0 s.size 0 5 := grownCap_ge _ _ _ _
  have hc2 : grownCap W0 s.size 0 5 ≤ maxLen := grownCap_le_maxLen _ _ _ _ (by unfold maxLen; omega)
  unfold maxLen at hc2
  obtain ⟨c, hc⟩ : ∃ c, grownCap W0 s.size 0 5 = c := ⟨_, rfl⟩
  rw [hc] at hcv hc1 hc2
  have HRD := Lib.hid (reads_conv_of s W0.drew c ((bytesRow s c).size, (bytesRow s c).size + 1) hc1 hc2)
  have HBD := Lib.hid (conv_below W0 (.cells (bytesRow s c) 5 ((bytesRow s c).size, (bytesRow s c).size + 1)))
  obtain ⟨w1, hw1⟩ : ∃ w1, W0.drew.alloc (.cells (bytesRow s c) 5 ((bytesRow s c).size, (bytesRow s c).size + 1)) = w1 := ⟨_, rfl⟩
  have hs1 : w1.heap.size = W0.heap.size + 1 := by rw [← hw1]; show (W0.heap.push _).size = _; simp
  have HS1 := Lib.hid (show w1.heap.size = w.heap.size + 1 + 1 by rw [hs1, hs0])
  have HRE := Lib.hid (show Reads .u8 (w.heap.size + 1 + 1) w1 (.slice (some ⟨w.heap.size + 1, 0, none⟩) s.size c) (sbytes s) by have h := HRD.out; rw [hw1] at h; rw [← hs0]; exact h)
  rw [hw1] at hcv HBD
  rw [hs0, ← hW0] at hcv
  have HM1 := Lib.hid (HM0.out.later HBD.out)
  clear hc hw1 hs1 hW0 hs0 HRD
  go_enter Tryz.func20, Tryz.ntmps20
  go_wp2_with fail
  refine (specB2I_any _ (w.heap.size + 1 + 1) (sbytes s) w1 HRE.out (by rw [HS1.out]; exact Nat.le_refl _) (sbytes_bytes s) (by rw [sbytes_len]; omega)).mono ?_
  rintro e w2 ⟨v2, rfl, ho2, hb2⟩
  have HO2 := Lib.hid ho2; have HM2 := Lib.hid (HM1.out.later hb2); clear ho2 hb2
  go_wp2_with (at_builtin; refine wpList_app rfl _ _ 71 rfl .i64 3 i0 (.int .i64 0) 8 Tryz.underlying71 hi0 hz0 hz1 hz2 rfl w.heap.size w _ [151] rfl HM2.out _ _ (b2i (sbytes s)) rfl HO2.out.reads (by decide) ?c3 ?_)
  case c3 => rw [b2i_len, sbytes_len]; simp; omega
  intro v3 w3 hm3
  have HM3 := Lib.hid hm3; clear hm3
  go_wp2_with fail
  refine (specHash_any _ w3.heap.size (151 :: b2i (sbytes s)) w3 HM3.out.own.reads).mono ?_
  rintro e w4 ⟨rfl, rfl⟩
  rw [← HK.out]
  go_wp2
  go_ret
  exact ⟨rfl, HM3.out.below⟩

set_option maxRecDepth 100000 in
set_option maxHeartbeats 2000000 in
theorem dig_impl (s : ByteArray) (w : World) (hl : s.size ≤ 1048576) :
    Calls Tryz.prog 35 #[.string s] w fun e w' => e = .returned (.int .i64 (digN s)) ∧ Below w.heap.size w w' := by
  obtain ⟨i0, hi0, hz0, hz1, hz2⟩ := info_parts info64
  have HK := Lib.hid (show digN s = hashL (151 :: b2i (sbytes s)) (151 :: b2i (sbytes s)).length from rfl)
  have HM0 := Lib.hid (Mine.lit (k := .i64) (e := 3) 151 (Below.refl w.heap.size w) (Nat.le_refl _))
  obtain ⟨W0, hW0⟩ : ∃ x, w.alloc (.cells #[.int .i64 151] 3) = x := ⟨_, rfl⟩
  have hs0 : W0.heap.size = w.heap.size + 1 := by rw [← hW0]; simp
  rw [hW0] at HM0
  have hcv := run_bytes_of_string (P := Tryz.prog) W0 9 22 5 s Tryz.underlying9 Tryz.underlying22 Tryz.underlying5
  have hc1 : s.size ≤ grownCap W0 s.size 0 5 := grownCap_ge _ _ _ _
  have hc2 : grownCap W0 s.size 0 5 ≤ maxLen := grownCap_le_maxLen _ _ _ _ (by unfold maxLen; omega)
  unfold maxLen at hc2
  obtain ⟨c, hc⟩ : ∃ c, grownCap W0 s.size 0 5 = c := ⟨_, rfl⟩
  rw [hc] at hcv hc1 hc2
  have HRD := Lib.hid (reads_conv_of s W0.drew c ((bytesRow s c).size, (bytesRow s c).size + 1) hc1 hc2)
  have HBD := Lib.hid (conv_below W0 (.cells (bytesRow s c) 5 ((bytesRow s c).size, (bytesRow s c).size + 1)))
  obtain ⟨w1, hw1⟩ : ∃ w1, W0.drew.alloc (.cells (bytesRow s c) 5 ((bytesRow s c).size, (bytesRow s c).size + 1)) = w1 := ⟨_, rfl⟩
  have hs1 : w1.heap.size = W0.heap.size + 1 := by rw [← hw1]; show (W0.heap.push _).size = _; simp
  have HS1 := Lib.hid (show w1.heap.size = w.heap.size + 1 + 1 by rw [hs1, hs0])
  have HRE := Lib.hid (show Reads .u8 (w.heap.size + 1 + 1) w1 (.slice (some ⟨w.heap.size + 1, 0, none⟩) s.size c) (sbytes s) by have h := HRD.out; rw [hw1] at h; rw [← hs0]; exact h)
  rw [hw1] at hcv HBD
  rw [hs0, ← hW0] at hcv
  have HM1 := Lib.hid (HM0.out.later HBD.out)
  clear hc hw1 hs1 hW0 hs0 HRD
  go_enter Tryz.func35, Tryz.ntmps35
  go_wp2_with fail
  refine (implB2I_any _ (w.heap.size + 1 + 1) (sbytes s) w1 HRE.out (by rw [HS1.out]; exact Nat.le_refl _) (sbytes_bytes s) (by rw [sbytes_len]; omega)).mono ?_
  rintro e w2 ⟨v2, rfl, ho2, hb2⟩
  have HO2 := Lib.hid ho2; have HM2 := Lib.hid (HM1.out.later hb2); clear ho2 hb2
  go_wp2_with (at_builtin; refine wpList_app rfl _ _ 71 rfl .i64 3 i0 (.int .i64 0) 8 Tryz.underlying71 hi0 hz0 hz1 hz2 rfl w.heap.size w _ [151] rfl HM2.out _ _ (b2i (sbytes s)) rfl HO2.out.reads (by decide) ?c3 ?_)
  case c3 => rw [b2i_len, sbytes_len]; simp; omega
  intro v3 w3 hm3
  have HM3 := Lib.hid hm3; clear hm3
  go_wp2_with fail
  refine (implHash_any _ w3.heap.size (151 :: b2i (sbytes s)) w3 HM3.out.own.reads).mono ?_
  rintro e w4 ⟨rfl, rfl⟩
  rw [← HK.out]
  go_wp2
  go_ret
  exact ⟨rfl, HM3.out.below⟩

end Go.Proofs.YtkjjiinccljhjaaGreatDoor
namespace Go.Proofs.YtkjjiinccljhjaaGreatDoor
open Go.ChangeShapes Go.WideShapes Go.ChangeAt Go.RowKit

def digF (u : Nat) : UInt8 := UInt8.ofNat (48 + u % 10)
def ddF (u : Nat) : List UInt8 := if u = 0 then [] else Lib.decDigits u
theorem dd_zeroF : ddF 0 = [] := rfl
theorem dd_posF {u : Nat} (h : u ≠ 0) : ddF u = Lib.decDigits u := by unfold ddF; rw [if_neg h]
theorem dd_stepF {u : Nat} (h : u ≠ 0) : ddF u = ddF (u / 10) ++ [digF u] := by
  rw [dd_posF h, Lib.decDigits]
  by_cases h1 : u < 10
  · rw [dif_pos h1, show u / 10 = 0 by omega, dd_zeroF]; unfold digF; rw [show u % 10 = u by omega]; rfl
  · rw [dif_neg h1, dd_posF (by omega)]; rfl
theorem dec_lenF (u : Nat) (h : u < 18446744073709551616) : (Lib.decDigits u).length ≤ 20 := by
  rw [Lib.decDigits_length]
  by_cases h0 : u = 0
  · subst h0; rw [Lib.nDigits_small (by decide)]; decide
  · have h1 := Lib.nDigits_unique
    have h2 : Lib.nDigits u ≤ 20 := by
      have hp := Lib.nDigits_pos u
      by_cases h3 : Lib.nDigits u ≤ 20
      · exact h3
      · exfalso
        have := (Lib.numDigits_eq u (by omega) h)
        obtain ⟨e, l⟩ := this
        split at e <;> omega
    exact h2
theorem conv1F (W : World) (c : Int) (h0 : 0 ≤ c) (h1 : c < 256) :
    (convert 22 9 (.slice (some ⟨W.heap.size, 0, none⟩) 1 1)).run Tryz.prog (W.alloc (.cells #[.int .u8 c] 5)) = .ok (.string ⟨#[UInt8.ofNat c.toNat]⟩) (W.alloc (.cells #[.int .u8 c] 5)) := by
  have := run_convert_bytes_back (P := Tryz.prog) (W.alloc (.cells #[.int .u8 c] 5)) 22 9 5 ⟨W.heap.size, 0, none⟩ 1 [UInt8.ofNat c.toNat] Tryz.underlying22 Tryz.underlying5 Tryz.underlying9 (by
    intro j hj
    simp at hj
    subst hj
    have h2 : ((UInt8.ofNat c.toNat).toNat : Int) = c := by
      simp; omega
    simp only [Addr.add, List.getElem_cons_zero, h2]
    simp [go_sem])
  simpa using this

theorem digit_eqF (u : Nat) : UInt8.ofNat (48 + (u : Int) % 10).toNat = digF u := by
  rw [show (48 + (u : Int) % 10).toNat = 48 + u % 10 from by omega]; rfl
theorem digit_eq' (u : Nat) (h : u % 10 = 0) : UInt8.ofNat (48 + -((u : Int) % 10)).toNat = digF u := by
  rw [show (48 + -((u : Int) % 10)).toNat = 48 + u % 10 from by omega]; rfl
theorem cat1F (c : UInt8) (t : List UInt8) : (ByteArray.mk #[c] ++ ByteArray.mk t.toArray) = ByteArray.mk (c :: t).toArray := by
  apply ByteArray.ext; simp [ByteArray.data_append]
theorem len_tF {m u : Nat} {t : List UInt8} (h : ddF u ++ t = Lib.decDigits m) (hm : m < 18446744073709551616) : t.length ≤ 20 := by
  have h1 := dec_lenF m hm
  rw [← h, List.length_append] at h1
  omega

set_option maxRecDepth 100000 in
set_option maxHeartbeats 2000000 in
theorem fmt_pos (m : Nat) (hm : m ≠ 0) (hb : m ≤ 9223372036854775807) (w : World) :
    Calls Tryz.prog 19 #[.int .i64 m] w fun e w' => e = .returned (.string ⟨(Lib.decDigits m).toArray⟩) ∧ Below w.heap.size w w' := by
  have h0 : ((m : Int) == 0) = false := by simp; omega
  go_enter Tryz.func19, Tryz.ntmps19
  go_wp2
  go_loopw [3, 4] (fun s x wr => ∃ (u : Nat) (t : List UInt8), x = .int .i64 u ∧ s = .string ⟨t.toArray⟩ ∧ ddF u ++ t = Lib.decDigits m ∧ u ≤ m ∧ Below w.heap.size w wr) (fun _ x _ => (intOf x).toNat)
  case atStart => exact ⟨m, [], rfl, rfl, by rw [dd_posF hm]; simp, Nat.le_refl _, Below.refl _ _⟩
  case round =>
    obtain ⟨u, t, rfl, rfl, ht, hu, hbl⟩ := hrel
    have htl := len_tF ht (by omega)
    by_cases hz : u = 0
    · subst hz
      rw [dd_zeroF, List.nil_append] at ht
      have HT := Lib.hid ht; clear ht
      go_wp2
      go_ret
      exact ⟨by rw [HT.out]; rfl, hbl⟩
    · rw [dd_stepF hz, List.append_assoc] at ht
      have HT := Lib.hid ht; clear ht
      have hnz : ((u : Int) != 0) = true := by simp; omega
      have hcv := conv1F wr (48 + (u : Int) % 10) (by omega) (by omega)
      rw [digit_eqF] at hcv
      have hsz := hbl.size
      go_wp2
      go_roundw
      case rel => exact ⟨u / 10, digF u :: t, by go_num, by rw [cat1F], by rw [← HT.out]; simp, by omega, hbl.alloc hsz _⟩
      case measure => simp [intOf]; omega

set_option maxRecDepth 100000 in
set_option maxHeartbeats 2000000 in
theorem fmt_neg (m : Nat) (hm : m ≠ 0) (hb : m ≤ 9223372036854775808) (w : World) :
    Calls Tryz.prog 19 #[.int .i64 (-(m : Int))] w fun e w' => e = .returned (.string ⟨(45 :: Lib.decDigits m).toArray⟩) ∧ Below w.heap.size w w' := by
  have h0 : ((-(m : Int)) == 0) = false := by simp; omega
  go_enter Tryz.func19, Tryz.ntmps19
  go_wp2
  go_loopw [3, 4] (fun s x wr => ∃ (u : Nat) (t : List UInt8), x = .int .i64 (-(u : Int)) ∧ s = .string ⟨t.toArray⟩ ∧ ddF u ++ t = Lib.decDigits m ∧ u ≤ m ∧ Below w.heap.size w wr) (fun _ x _ => (-(intOf x)).toNat)
  case atStart => exact ⟨m, [], rfl, rfl, by rw [dd_posF hm]; simp, Nat.le_refl _, Below.refl _ _⟩
  case round =>
    obtain ⟨u, t, rfl, rfl, ht, hu, hbl⟩ := hrel
    have htl := len_tF ht (by omega)
    by_cases hz : u = 0
    · subst hz
      rw [dd_zeroF, List.nil_append] at ht
      have HT := Lib.hid ht; clear ht
      go_wp2
      go_ret
      exact ⟨by rw [HT.out]; rfl, hbl⟩
    · rw [dd_stepF hz, List.append_assoc] at ht
      have HT := Lib.hid ht; clear ht
      have hnz : ((-(u : Int)) != 0) = true := by simp; omega
      have hsz := hbl.size
      by_cases hd : 0 < (u : Int) % 10
      · have hcv := conv1F wr (48 + (u : Int) % 10) (by omega) (by omega)
        rw [digit_eqF] at hcv
        go_wp2
        go_roundw
        case rel => exact ⟨u / 10, digF u :: t, by go_num, by rw [cat1F], by rw [← HT.out]; simp, by omega, hbl.alloc hsz _⟩
        case measure => simp [intOf]; omega
      · have hcv := conv1F wr (48 + -((u : Int) % 10)) (by omega) (by omega)
        rw [digit_eq' u (by omega)] at hcv
        go_wp2
        go_roundw
        case rel => exact ⟨u / 10, digF u :: t, by go_num, by rw [cat1F], by rw [← HT.out]; simp, by omega, hbl.alloc hsz _⟩
        case measure => simp [intOf]; omega

theorem fmt_zero (w : World) :
    Calls Tryz.prog 19 #[.int .i64 0] w fun e w' => e = .returned (.string ⟨#[48]⟩) ∧ Below w.heap.size w w' := by
  go_enter Tryz.func19, Tryz.ntmps19
  go_wp2
  go_ret
  exact ⟨rfl, Below.refl _ _⟩

def fmtS (n : Int) : ByteArray := ⟨(Lib.itoa n).toArray⟩
theorem fmt_spec (n : Int) (h1 : -9223372036854775808 ≤ n) (h2 : n ≤ 9223372036854775807) (w : World) :
    Calls Tryz.prog 19 #[.int .i64 n] w fun e w' => e = .returned (.string (fmtS n)) ∧ Below w.heap.size w w' := by
  unfold fmtS Lib.itoa
  by_cases h : n < 0
  · obtain ⟨m, rfl⟩ : ∃ m : Nat, n = -(m : Int) := ⟨n.natAbs, by omega⟩
    rw [if_pos h, show (-(m : Int)).natAbs = m by omega]
    exact fmt_neg m (by omega) (by omega) w
  · obtain ⟨m, rfl⟩ : ∃ m : Nat, n = (m : Int) := ⟨n.natAbs, by omega⟩
    rw [if_neg h, Int.toNat_natCast]
    by_cases h0 : m = 0
    · subst h0
      refine (fmt_zero w).mono fun e w' ⟨he, hb⟩ => ⟨?_, hb⟩
      rw [he, Lib.decDigits_one (by decide)]
      rfl
    · exact fmt_pos m h0 (by omega) w

end Go.Proofs.YtkjjiinccljhjaaGreatDoor
namespace Go.Proofs.YtkjjiinccljhjaaGreatDoor
open Go.ChangeShapes Go.WideShapes Go.ChangeAt Go.RowKit

set_option maxRecDepth 100000 in
set_option maxHeartbeats 2000000 in
theorem toR_any (st kd : Int) (bo : ByteArray) (ag : Int) (sh : Bool) (po : ByteArray) (w : World) :
    Calls Tryz.prog 31 #[.agg #[.int .i64 st, .int .i64 kd, .string bo, .int .i64 ag, .bool sh, .string po]] w fun e w' => e = .returned (.agg #[.int .i64 st, .int .i64 kd, .string bo, .int .i64 ag, .bool sh, .string po]) ∧ Grw w w' := by
  go_enter Tryz.func31, Tryz.ntmps31
  go_wp2_with fail
  refine bodyPost_ret (v := .agg #[.int .i64 st, .int .i64 kd, .string bo, .int .i64 ag, .bool sh, .string po]) (by simp [results, Tryz.results31, go_sem]) rfl ⟨rfl, ?_⟩
  repeat' (first | (with_reducible exact Grw.refl _) | (with_reducible refine Grw.alloc ?_ _))

def SzR (h p : ByteArray) (left : Int) (w : World) (e : Ending) (w' : World) : Prop :=
  ∃ r : Int, e = .returned (.int .i64 r) ∧ -1 ≤ r ∧ (0 ≤ r → r + h.size + p.size = left) ∧ Below w.heap.size w w'
set_option maxRecDepth 100000 in
set_option maxHeartbeats 2000000 in
theorem szR_any (st kd : Int) (bo : ByteArray) (ag : Int) (sh : Bool) (po : ByteArray) (left : Int) (h1 : bo.size ≤ 9223372036854775807) (h2 : po.size ≤ 9223372036854775807) (l1 : -1 ≤ left) (l2 : left ≤ 1099511627776) (w : World) :
    Calls Tryz.prog 28 #[.agg #[.int .i64 st, .int .i64 kd, .string bo, .int .i64 ag, .bool sh, .string po], .int .i64 left] w (SzR bo po left w) := by
  have HB := Lib.hid ((Below.refl w.heap.size w).alloc (Nat.le_refl _) (.cells #[.int .i64 st, .int .i64 kd, .string bo, .int .i64 ag, .bool sh, .string po] 52))
  by_cases c1 : left - bo.size < 0
  · go_enter Tryz.func28, Tryz.ntmps28
    go_wp2_with fail
    go_ret
    exact ⟨-1, rfl, by omega, by omega, HB.out⟩
  · by_cases c2 : left - bo.size - po.size < 0
    · go_enter Tryz.func28, Tryz.ntmps28
      go_wp2_with fail
      go_ret
      exact ⟨-1, rfl, by omega, by omega, HB.out⟩
    · go_enter Tryz.func28, Tryz.ntmps28
      go_wp2_with fail
      go_ret
      exact ⟨left - bo.size - po.size, rfl, by omega, by omega, HB.out⟩

end Go.Proofs.YtkjjiinccljhjaaGreatDoor
namespace Go.Proofs.YtkjjiinccljhjaaGreatDoor
open Go.ChangeShapes Go.WideShapes Go.ChangeAt Go.RowKit

def fitB (kd k : Int) : Bool := decide (kd = k) || (decide (k = 5) && decide (kd = 2))
theorem fit_eq {kd k : Int} (h : kd = k) : fitB kd k = true := by unfold fitB; rw [decide_eq_true h]; rfl
theorem fit_not {kd k : Int} (h : kd ≠ k) (h5 : k ≠ 5) : fitB kd k = false := by unfold fitB; rw [decide_eq_false h, decide_eq_false h5]; rfl
theorem fit_yes {kd k : Int} (h5 : k = 5) (h2 : kd = 2) : fitB kd k = true := by unfold fitB; rw [decide_eq_true h5, decide_eq_true h2]; simp
theorem fit_no {kd k : Int} (h : kd ≠ k) (h2 : kd ≠ 2) : fitB kd k = false := by unfold fitB; rw [decide_eq_false h, decide_eq_false h2]; simp

set_option maxRecDepth 100000 in
set_option maxHeartbeats 2000000 in
theorem fits_spec (st kd : Int) (bo : ByteArray) (ag : Int) (sh : Bool) (po : ByteArray) (k : Int) (w : World) :
    Calls Tryz.prog 18 #[.agg #[.int .i64 st, .int .i64 kd, .string bo, .int .i64 ag, .bool sh, .string po], .int .i64 k] w fun e w' => e = .returned (.bool (fitB kd k)) ∧ Grw w w' := by
  have HG := Lib.hid ((Grw.refl w).alloc (.cells #[.int .i64 st, .int .i64 kd, .string bo, .int .i64 ag, .bool sh, .string po] 32))
  by_cases h1 : kd = k
  · have e1 : (kd == k) = true := beq_iff_eq.2 h1
    have HV := Lib.hid (fit_eq h1); clear h1
    go_enter Tryz.func18, Tryz.ntmps18
    go_wp2_with fail
    go_ret
    exact ⟨by rw [HV.out]; rfl, HG.out⟩
  · have e1 : (kd == k) = false := beq_eq_false_iff_ne.2 h1
    by_cases h5 : k = 5
    · have e5 : (k == 5) = true := beq_iff_eq.2 h5
      by_cases h2 : kd = 2
      · have e2 : (kd == 2) = true := beq_iff_eq.2 h2
        have HV := Lib.hid (fit_yes h5 h2); clear h1 h5 h2
        go_enter Tryz.func18, Tryz.ntmps18
        go_wp2_with fail
        go_ret
        exact ⟨by rw [HV.out]; rfl, HG.out⟩
      · have e2 : (kd == 2) = false := beq_eq_false_iff_ne.2 h2
        have HV := Lib.hid (fit_no h1 h2); clear h1 h5 h2
        go_enter Tryz.func18, Tryz.ntmps18
        go_wp2_with fail
        go_ret
        exact ⟨by rw [HV.out]; rfl, HG.out⟩
    · have e5 : (k == 5) = false := beq_eq_false_iff_ne.2 h5
      have HV := Lib.hid (fit_not h1 h5); clear h1 h5
      go_enter Tryz.func18, Tryz.ntmps18
      go_wp2_with fail
      go_ret
      exact ⟨by rw [HV.out]; rfl, HG.out⟩

set_option maxRecDepth 100000 in
set_option maxHeartbeats 2000000 in
theorem fits_impl (st kd : Int) (bo : ByteArray) (ag : Int) (sh : Bool) (po : ByteArray) (k : Int) (w : World) :
    Calls Tryz.prog 41 #[.agg #[.int .i64 st, .int .i64 kd, .string bo, .int .i64 ag, .bool sh, .string po], .int .i64 k] w fun e w' => e = .returned (.bool (fitB kd k)) ∧ Grw w w' := by
  have HG := Lib.hid ((Grw.refl w).alloc (.cells #[.int .i64 st, .int .i64 kd, .string bo, .int .i64 ag, .bool sh, .string po] 32))
  by_cases h1 : kd = k
  · have e1 : (kd == k) = true := beq_iff_eq.2 h1
    have HV := Lib.hid (fit_eq h1); clear h1
    go_enter Tryz.func41, Tryz.ntmps41
    go_wp2_with fail
    go_ret
    exact ⟨by rw [HV.out]; rfl, HG.out⟩
  · have e1 : (kd == k) = false := beq_eq_false_iff_ne.2 h1
    by_cases h5 : k = 5
    · have e5 : (k == 5) = true := beq_iff_eq.2 h5
      by_cases h2 : kd = 2
      · have e2 : (kd == 2) = true := beq_iff_eq.2 h2
        have HV := Lib.hid (fit_yes h5 h2); clear h1 h5 h2
        go_enter Tryz.func41, Tryz.ntmps41
        go_wp2_with fail
        go_ret
        exact ⟨by rw [HV.out]; rfl, HG.out⟩
      · have e2 : (kd == 2) = false := beq_eq_false_iff_ne.2 h2
        have HV := Lib.hid (fit_no h1 h2); clear h1 h5 h2
        go_enter Tryz.func41, Tryz.ntmps41
        go_wp2_with fail
        go_ret
        exact ⟨by rw [HV.out]; rfl, HG.out⟩
    · have e5 : (k == 5) = false := beq_eq_false_iff_ne.2 h5
      have HV := Lib.hid (fit_not h1 h5); clear h1 h5
      go_enter Tryz.func41, Tryz.ntmps41
      go_wp2_with fail
      go_ret
      exact ⟨by rw [HV.out]; rfl, HG.out⟩

set_option maxRecDepth 100000 in
set_option maxHeartbeats 2000000 in
theorem size_impl (st kd : Int) (bo : ByteArray) (ag : Int) (sh : Bool) (po : ByteArray) (hz : bo.size ≤ 1099511627776) (w : World) :
    Calls Tryz.prog 42 #[.agg #[.int .i64 st, .int .i64 kd, .string bo, .int .i64 ag, .bool sh, .string po]] w fun e w' => e = .returned (.int .i64 ((bo.size : Int) + 20)) ∧ Grw w w' := by
  have HG := Lib.hid ((Grw.refl w).alloc (.cells #[.int .i64 st, .int .i64 kd, .string bo, .int .i64 ag, .bool sh, .string po] 32))
  go_enter Tryz.func42, Tryz.ntmps42
  go_wp2_with fail
  go_ret
  exact ⟨rfl, HG.out⟩

set_option maxRecDepth 100000 in
set_option maxHeartbeats 2000000 in
theorem nf_impl (w : World) :
    Calls Tryz.prog 43 #[] w fun e w' => e = .returned (.agg #[.int .i64 404, .int .i64 1, .string ⟨#[]⟩, .int .i64 0, .bool false, .string ⟨#[]⟩]) ∧ Grw w w' := by
  go_enter Tryz.func43, Tryz.ntmps43
  go_wp2_with fail
  refine bodyPost_ret (v := .agg #[.int .i64 404, .int .i64 1, .string ⟨#[]⟩, .int .i64 0, .bool false, .string ⟨#[]⟩]) (by simp [results, Tryz.results43, go_sem]) rfl ⟨rfl, ?_⟩
  repeat' (first | (with_reducible exact Grw.refl _) | (with_reducible refine Grw.alloc ?_ _))

end Go.Proofs.YtkjjiinccljhjaaGreatDoor
