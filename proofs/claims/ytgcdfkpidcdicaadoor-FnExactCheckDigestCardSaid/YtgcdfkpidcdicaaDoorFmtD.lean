/- Helper contract over the model's FormatInt: for every int it returns the decimal numeral; it only makes new blocks of memory. -/
import Derived.Test.YtgcdfkpidcdicaaDoorRows
import Derived.WalkKit
import Derived.ProofKit
import Derived.OpenShut
import Derived.LoopTactic
import Derived.Lib.Hide
import Derived.Lib.ItoaNum
import Derived.Below
import Derived.Laws.IdiomStrings
namespace Go.Proofs.YtgcdfkpidcdicaaDoor
open Go.ChangeShapes Go.WideShapes Go.ChangeAt Go.RowKit

def digF (u : Nat) : UInt8 := UInt8.ofNat (48 + u % 10)
def ddF (u : Nat) : List UInt8 := if u = 0 then [] else Lib.decDigits u
theorem dd_zeroF : ddF 0 = [] := rfl
theorem dd_posF {u : Nat} (h : u ≠ 0) : ddF u = Lib.decDigits u := by unfold ddF; rw [if_neg h]
theorem dd_stepF {u : Nat} (h : u ≠ 0) : ddF u = ddF (u / 10) ++ [digF u] := by
  rw [dd_posF h, Lib.decDigits]
  by_cases h1 : u < 10
  · rw [dif_pos h1, show u / 10 = 0 by omega, dd_zeroF]; unfold digF; rw [show u % 10 = u by omega]; rfl
  · rw [dif_neg h1, dd_posF (by omega)]; rfl
theorem dec_lenF (u : Nat) (h : u < 18446744073709551616) : (Lib.decDigits u).length ≤ 20 := by
  rw [Lib.decDigits_length]
  by_cases h0 : u = 0
  · subst h0; rw [Lib.nDigits_small (by decide)]; decide
  · have h1 := Lib.nDigits_unique
    have h2 : Lib.nDigits u ≤ 20 := by
      have hp := Lib.nDigits_pos u
      by_cases h3 : Lib.nDigits u ≤ 20
      · exact h3
      · exfalso
        have := (Lib.numDigits_eq u (by omega) h)
        obtain ⟨e, l⟩ := this
        split at e <;> omega
    exact h2
theorem conv1F (W : World) (c : Int) (h0 : 0 ≤ c) (h1 : c < 256) :
    (convert 22 9 (.slice (some ⟨W.heap.size, 0, none⟩) 1 1)).run Tryd.prog (W.alloc (.cells #[.int .u8 c] 5)) = .ok (.string ⟨#[UInt8.ofNat c.toNat]⟩) (W.alloc (.cells #[.int .u8 c] 5)) := by
  have := run_convert_bytes_back (P := Tryd.prog) (W.alloc (.cells #[.int .u8 c] 5)) 22 9 5 ⟨W.heap.size, 0, none⟩ 1 [UInt8.ofNat c.toNat] Tryd.underlying22 Tryd.underlying5 Tryd.underlying9 (by
    intro j hj
    simp at hj
    subst hj
    have h2 : ((UInt8.ofNat c.toNat).toNat : Int) = c := by
      simp; omega
    simp only [Addr.add, List.getElem_cons_zero, h2]
    simp [go_sem])
  simpa using this

theorem digit_eqF (u : Nat) : UInt8.ofNat (48 + (u : Int) % 10).toNat = digF u := by
  rw [show (48 + (u : Int) % 10).toNat = 48 + u % 10 from by omega]; rfl
theorem digit_eq' (u : Nat) (h : u % 10 = 0) : UInt8.ofNat (48 + -((u : Int) % 10)).toNat = digF u := by
  rw [show (48 + -((u : Int) % 10)).toNat = 48 + u % 10 from by omega]; rfl
theorem cat1F (c : UInt8) (t : List UInt8) : (ByteArray.mk #[c] ++ ByteArray.mk t.toArray) = ByteArray.mk (c :: t).toArray := by
  apply ByteArray.ext; simp [ByteArray.data_append]
theorem len_tF {m u : Nat} {t : List UInt8} (h : ddF u ++ t = Lib.decDigits m) (hm : m < 18446744073709551616) : t.length ≤ 20 := by
  have h1 := dec_lenF m hm
  rw [← h, List.length_append] at h1
  omega

set_option maxRecDepth 100000 in
set_option maxHeartbeats 2000000 in
theorem fmt_pos (m : Nat) (hm : m ≠ 0) (hb : m ≤ 9223372036854775807) (w : World) :
    Calls Tryd.prog 52 #[.int .i64 m] w fun e w' => e = .returned (.string ⟨(Lib.decDigits m).toArray⟩) ∧ Below w.heap.size w w' := by
  have h0 : ((m : Int) == 0) = false := by simp; omega
  go_enter Tryd.func52, Tryd.ntmps52
  go_wp2
  go_loopw [3, 4] (fun s x wr => ∃ (u : Nat) (t : List UInt8), x = .int .i64 u ∧ s = .string ⟨t.toArray⟩ ∧ ddF u ++ t = Lib.decDigits m ∧ u ≤ m ∧ Below w.heap.size w wr) (fun _ x _ => (intOf x).toNat)
  case atStart => exact ⟨m, [], rfl, rfl, by rw [dd_posF hm]; simp, Nat.le_refl _, Below.refl _ _⟩
  case round =>
    obtain ⟨u, t, rfl, rfl, ht, hu, hbl⟩ := hrel
    have htl := len_tF ht (by omega)
    by_cases hz : u = 0
    · subst hz
      rw [dd_zeroF, List.nil_append] at ht
      have HT := Lib.hid ht; clear ht
      go_wp2
      go_ret
      exact ⟨by rw [HT.out]; rfl, hbl⟩
    · rw [dd_stepF hz, List.append_assoc] at ht
      have HT := Lib.hid ht; clear ht
      have hnz : ((u : Int) != 0) = true := by simp; omega
      have hcv := conv1F wr (48 + (u : Int) % 10) (by omega) (by omega)
      rw [digit_eqF] at hcv
      have hsz := hbl.size
      go_wp2
      go_roundw
      case rel => exact ⟨u / 10, digF u :: t, by go_num, by rw [cat1F], by rw [← HT.out]; simp, by omega, hbl.alloc hsz _⟩
      case measure => simp [intOf]; omega

set_option maxRecDepth 100000 in
set_option maxHeartbeats 2000000 in
theorem fmt_neg (m : Nat) (hm : m ≠ 0) (hb : m ≤ 9223372036854775808) (w : World) :
    Calls Tryd.prog 52 #[.int .i64 (-(m : Int))] w fun e w' => e = .returned (.string ⟨(45 :: Lib.decDigits m).toArray⟩) ∧ Below w.heap.size w w' := by
  have h0 : ((-(m : Int)) == 0) = false := by simp; omega
  go_enter Tryd.func52, Tryd.ntmps52
  go_wp2
  go_loopw [3, 4] (fun s x wr => ∃ (u : Nat) (t : List UInt8), x = .int .i64 (-(u : Int)) ∧ s = .string ⟨t.toArray⟩ ∧ ddF u ++ t = Lib.decDigits m ∧ u ≤ m ∧ Below w.heap.size w wr) (fun _ x _ => (-(intOf x)).toNat)
  case atStart => exact ⟨m, [], rfl, rfl, by rw [dd_posF hm]; simp, Nat.le_refl _, Below.refl _ _⟩
  case round =>
    obtain ⟨u, t, rfl, rfl, ht, hu, hbl⟩ := hrel
    have htl := len_tF ht (by omega)
    by_cases hz : u = 0
    · subst hz
      rw [dd_zeroF, List.nil_append] at ht
      have HT := Lib.hid ht; clear ht
      go_wp2
      go_ret
      exact ⟨by rw [HT.out]; rfl, hbl⟩
    · rw [dd_stepF hz, List.append_assoc] at ht
      have HT := Lib.hid ht; clear ht
      have hnz : ((-(u : Int)) != 0) = true := by simp; omega
      have hsz := hbl.size
      by_cases hd : 0 < (u : Int) % 10
      · have hcv := conv1F wr (48 + (u : Int) % 10) (by omega) (by omega)
        rw [digit_eqF] at hcv
        go_wp2
        go_roundw
        case rel => exact ⟨u / 10, digF u :: t, by go_num, by rw [cat1F], by rw [← HT.out]; simp, by omega, hbl.alloc hsz _⟩
        case measure => simp [intOf]; omega
      · have hcv := conv1F wr (48 + -((u : Int) % 10)) (by omega) (by omega)
        rw [digit_eq' u (by omega)] at hcv
        go_wp2
        go_roundw
        case rel => exact ⟨u / 10, digF u :: t, by go_num, by rw [cat1F], by rw [← HT.out]; simp, by omega, hbl.alloc hsz _⟩
        case measure => simp [intOf]; omega

theorem fmt_zero (w : World) :
    Calls Tryd.prog 52 #[.int .i64 0] w fun e w' => e = .returned (.string ⟨#[48]⟩) ∧ Below w.heap.size w w' := by
  go_enter Tryd.func52, Tryd.ntmps52
  go_wp2
  go_ret
  exact ⟨rfl, Below.refl _ _⟩

def fmtS (n : Int) : ByteArray := ⟨(Lib.itoa n).toArray⟩
theorem fmt_spec (n : Int) (h1 : -9223372036854775808 ≤ n) (h2 : n ≤ 9223372036854775807) (w : World) :
    Calls Tryd.prog 52 #[.int .i64 n] w fun e w' => e = .returned (.string (fmtS n)) ∧ Below w.heap.size w w' := by
  unfold fmtS Lib.itoa
  by_cases h : n < 0
  · obtain ⟨m, rfl⟩ : ∃ m : Nat, n = -(m : Int) := ⟨n.natAbs, by omega⟩
    rw [if_pos h, show (-(m : Int)).natAbs = m by omega]
    exact fmt_neg m (by omega) (by omega) w
  · obtain ⟨m, rfl⟩ : ∃ m : Nat, n = (m : Int) := ⟨n.natAbs, by omega⟩
    rw [if_neg h, Int.toNat_natCast]
    by_cases h0 : m = 0
    · subst h0
      refine (fmt_zero w).mono fun e w' ⟨he, hb⟩ => ⟨?_, hb⟩
      rw [he, Lib.decDigits_one (by decide)]
      rfl
    · exact fmt_pos m h0 (by omega) w
end Go.Proofs.YtgcdfkpidcdicaaDoor
