/- Plain facts on decimal numerals (no program in this text): which lists of bytes are the numeral of a number up to 1000000000000, and what strconv.Atoi's own function gives at them. -/
import Derived.Lib.ItoaNum
import Derived.Lib.AtoiTie
namespace Go.Proofs.YtmlmiclgledcpaaDoor
open Go

theorem decFrom_snoc : ∀ (l : List UInt8) (acc n : Nat) (b : UInt8) (d : Nat), Lib.decFrom acc l = some n → Lib.digitVal b = some d → Lib.decFrom acc (l ++ [b]) = some (n * 10 + d)
  | [], acc, n, b, d, h, hb => by
    simp only [Lib.decFrom, Option.some.injEq] at h; subst h
    simp [Lib.decFrom, hb]
  | a :: t, acc, n, b, d, h, hb => by
    simp only [Lib.decFrom, List.cons_append] at h ⊢
    cases ha : Lib.digitVal a with
    | none => simp [ha] at h
    | some e =>
      simp only [ha] at h ⊢
      exact decFrom_snoc t _ n b d h hb
theorem digitVal_of {r : Nat} (h : r < 10) : Lib.digitVal (UInt8.ofNat (48 + r)) = some r := by
  unfold Lib.digitVal
  have e : (UInt8.ofNat (48 + r)).toNat = 48 + r := by simp; omega
  rw [e, if_pos (by omega)]
  congr 1; omega
theorem decFrom_dec (k : Nat) : Lib.decFrom 0 (Lib.decDigits k) = some k := by
  induction k using Nat.strongRecOn with
  | _ k ih =>
    rw [Lib.decDigits]
    by_cases h : k < 10
    · rw [dif_pos h]
      have := decFrom_snoc [] 0 0 _ _ rfl (digitVal_of h)
      simpa using this
    · rw [dif_neg h]
      have := decFrom_snoc _ 0 _ _ _ (ih (k / 10) (by omega)) (digitVal_of (r := k % 10) (by omega))
      rw [this]; congr 1; omega
theorem nDigits_le : ∀ (j u : Nat), u < 10 ^ (j + 1) → Lib.nDigits u ≤ j + 1
  | 0, u, h => by rw [Lib.nDigits_small (by simpa using h)]; exact Nat.le_refl _
  | j + 1, u, h => by
    by_cases h1 : u < 10
    · rw [Lib.nDigits_small h1]; omega
    · rw [Lib.nDigits_big h1]
      have := nDigits_le j (u / 10) (by rw [Nat.pow_succ] at h; omega)
      omega
theorem dec_len13 {k : Nat} (h : k ≤ 1000000000000) : (Lib.decDigits k).length ≤ 13 := by
  rw [Lib.decDigits_length]
  exact nDigits_le 12 k (by have e : (10 : Nat) ^ (12 + 1) = 10000000000000 := by decide
                            omega)
theorem dec_len1 (k : Nat) : 1 ≤ (Lib.decDigits k).length := by rw [Lib.decDigits_length]; exact Lib.nDigits_pos k
theorem atoi_dec {k : Nat} : Lib.atoi (Lib.decDigits k) = some (k : Int) := by
  have h := decFrom_dec k
  have hl := dec_len1 k
  generalize Lib.decDigits k = l at h hl
  cases l with
  | nil => simp at hl
  | cons b r =>
    obtain ⟨d, hd⟩ := Lib.digit_of_decFrom _ _ _ h 0 b rfl
    obtain ⟨h1, h2, _⟩ := Lib.digitVal_eq hd
    have n45 : (b == 45) = false := by
      rw [beq_eq_false_iff_ne]; intro e; subst e; simp at h1
    have n43 : (b == 43) = false := by
      rw [beq_eq_false_iff_ne]; intro e; subst e; simp at h1
    simp only [Lib.atoi, n45, n43, Lib.decNat, List.isEmpty_cons, h]
    simp
theorem atoiAll_dec {k : Nat} (h : k ≤ 1000000000000) : Lib.atoiAll (Lib.decDigits k) = .ok (k : Int) := by
  have := dec_len13 h
  rw [Lib.atoiAll_short _ (by omega), atoi_dec]
  rfl

/-- The number, at most 1000000000000, whose numeral the bytes are; none if there is no such number. -/
def numOf (l : List UInt8) : Option Nat :=
  match Lib.decFrom 0 l with
  | some k => if k ≤ 1000000000000 ∧ Lib.decDigits k = l then some k else none
  | none => none
theorem numOf_some {l : List UInt8} {k : Nat} (h : numOf l = some k) : k ≤ 1000000000000 ∧ l = Lib.decDigits k := by
  unfold numOf at h
  split at h
  · split at h
    · rename_i hc
      simp only [Option.some.injEq] at h; subst h
      exact ⟨hc.1, hc.2.symm⟩
    · cases h
  · cases h
theorem numOf_dec {k : Nat} (h : k ≤ 1000000000000) : numOf (Lib.decDigits k) = some k := by
  unfold numOf
  rw [decFrom_dec]
  exact if_pos ⟨h, rfl⟩
theorem numOf_eq {l : List UInt8} {k : Nat} (h : k ≤ 1000000000000) (e : Lib.decDigits k = l) : numOf l = some k := by rw [← e]; exact numOf_dec h
theorem numOf_none {l : List UInt8} (h : ∀ k, k ≤ 1000000000000 → Lib.decDigits k ≠ l) : numOf l = none := by
  cases e : numOf l with
  | none => rfl
  | some k =>
    obtain ⟨h1, h2⟩ := numOf_some e
    exact absurd h2.symm (h k h1)
/-- By how strconv.Atoi ends. -/
theorem numOf_syntax {l : List UInt8} (h : Lib.atoiAll l = Lib.atoiAll []) : numOf l = none :=
  numOf_none fun k hk e => by rw [← e, atoiAll_dec hk] at h; cases h
theorem numOf_range {l : List UInt8} (h : Lib.atoiAll l = .range) : numOf l = none :=
  numOf_none fun k hk e => by rw [← e, atoiAll_dec hk] at h; cases h
theorem numOf_out {l : List UInt8} {n : Int} (h : Lib.atoiAll l = .ok n) (ho : n < 0 ∨ 1000000000000 < n) : numOf l = none :=
  numOf_none fun k hk e => by
    rw [← e, atoiAll_dec hk] at h
    injection h with h
    omega
theorem numOf_other {l : List UInt8} {n : Nat} (h : Lib.atoiAll l = .ok (n : Int)) (hn : Lib.decDigits n ≠ l) : numOf l = none :=
  numOf_none fun k hk e => by
    have h' := h
    rw [← e, atoiAll_dec hk] at h'
    injection h' with h'
    have : k = n := by omega
    subst this
    exact hn e
/-- By what the model's loop has read. -/
theorem numOf_len {l : List UInt8} (h : l.length < 1 ∨ 13 < l.length) : numOf l = none :=
  numOf_none fun k hk e => by
    have h1 := dec_len13 hk
    have h2 := dec_len1 k
    rw [e] at h1 h2
    omega
theorem numOf_byte {l : List UInt8} {j : Nat} {b : UInt8} (hb : l[j]? = some b) (hd : b.toNat < 48 ∨ 57 < b.toNat) : numOf l = none :=
  numOf_none fun k hk e => by
    have h := decFrom_dec k
    rw [e] at h
    obtain ⟨d, h1⟩ := Lib.digit_of_decFrom _ _ _ h j b hb
    obtain ⟨h2, h3, _⟩ := Lib.digitVal_eq h1
    omega
theorem numOf_val {l : List UInt8} {n : Nat} (h : Lib.decFrom 0 l = some n) (ho : 1000000000000 < n ∨ Lib.decDigits n ≠ l) : numOf l = none := by
  unfold numOf
  rw [h]
  exact if_neg (by intro ⟨h1, h2⟩; rcases ho with ho | ho; omega; exact ho h2)
theorem decFrom_step {l : List UInt8} {k n : Nat} {b : UInt8} (h : Lib.decFrom 0 (l.take k) = some n) (hb : l[k]? = some b) (h1 : 48 ≤ b.toNat) (h2 : b.toNat ≤ 57) : Lib.decFrom 0 (l.take (k + 1)) = some (n * 10 + (b.toNat - 48)) :=
  Lib.decFrom_take l k 0 n b _ h hb (by unfold Lib.digitVal; rw [if_pos ⟨h1, h2⟩])
theorem decFrom_lt13 {l : List UInt8} {k n : Nat} (h : Lib.decFrom 0 (l.take k) = some n) (hl : l.length ≤ 13) : n < 10000000000000 := by
  have h1 := Lib.decFrom_lt _ 0 n h
  have h2 : (l.take k).length ≤ 13 := by rw [List.length_take]; omega
  have h3 := Nat.pow_le_pow_right (n := 10) (by decide) h2
  have e : (10 : Nat) ^ 13 = 10000000000000 := by decide
  omega
end Go.Proofs.YtmlmiclgledcpaaDoor
