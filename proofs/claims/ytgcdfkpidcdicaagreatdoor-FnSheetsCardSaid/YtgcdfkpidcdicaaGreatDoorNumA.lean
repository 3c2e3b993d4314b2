/- 5 texts in one. -/
import Derived.Lib.ItoaNum
import Derived.Lib.AtoiTie
import Derived.Test.YtgcdfkpidcdicaaGreatDoorRows
import Derived.WalkKit
import Derived.ProofKit
import Derived.OpenShut
import Derived.LoopTactic
import Derived.Lib.Hide
import Derived.Below
import Derived.Laws.IdiomStrings
import Derived.Test.YtgcdfkpidcdicaaGreatDoorShelf
import Derived.Lib.AppendIntMem
import Derived.Test.YtgcdfkpidcdicaaGreatDoorName
import Derived.Lib.AtoiErrMem
import Derived.Test.YtgcdfkpidcdicaaGreatDoorSpl
namespace Go.Proofs.YtgcdfkpidcdicaaGreatDoor
/- Num -/
open Go

theorem decFrom_snoc : ∀ (l : List UInt8) (acc n : Nat) (b : UInt8) (d : Nat), Lib.decFrom acc l = some n → Lib.digitVal b = some d → Lib.decFrom acc (l ++ [b]) = some (n * 10 + d)
  | [], acc, n, b, d, h, hb => by
    simp only [Lib.decFrom, Option.some.injEq] at h; subst h
    simp [Lib.decFrom, hb]
  | a :: t, acc, n, b, d, h, hb => by
    simp only [Lib.decFrom, List.cons_append] at h ⊢
    cases ha : Lib.digitVal a with
    | none => simp [ha] at h
    | some e =>
      simp only [ha] at h ⊢
      exact decFrom_snoc t _ n b d h hb
theorem digitVal_of {r : Nat} (h : r < 10) : Lib.digitVal (UInt8.ofNat (48 + r)) = some r := by
  unfold Lib.digitVal
  have e : (UInt8.ofNat (48 + r)).toNat = 48 + r := by simp; omega
  rw [e, if_pos (by omega)]
  congr 1; omega
theorem decFrom_dec (k : Nat) : Lib.decFrom 0 (Lib.decDigits k) = some k := by
  induction k using Nat.strongRecOn with
  | _ k ih =>
    rw [Lib.decDigits]
    by_cases h : k < 10
    · rw [dif_pos h]
      have := decFrom_snoc [] 0 0 _ _ rfl (digitVal_of h)
      simpa using this
    · rw [dif_neg h]
      have := decFrom_snoc _ 0 _ _ _ (ih (k / 10) (by omega)) (digitVal_of (r := k % 10) (by omega))
      rw [this]; congr 1; omega
theorem nDigits_le : ∀ (j u : Nat), u < 10 ^ (j + 1) → Lib.nDigits u ≤ j + 1
  | 0, u, h => by rw [Lib.nDigits_small (by simpa using h)]; exact Nat.le_refl _
  | j + 1, u, h => by
    by_cases h1 : u < 10
    · rw [Lib.nDigits_small h1]; omega
    · rw [Lib.nDigits_big h1]
      have := nDigits_le j (u / 10) (by rw [Nat.pow_succ] at h; omega)
      omega
theorem dec_len13 {k : Nat} (h : k ≤ 1000000000000) : (Lib.decDigits k).length ≤ 13 := by
  rw [Lib.decDigits_length]
  exact nDigits_le 12 k (by have e : (10 : Nat) ^ (12 + 1) = 10000000000000 := by decide
                            omega)
theorem dec_len1 (k : Nat) : 1 ≤ (Lib.decDigits k).length := by rw [Lib.decDigits_length]; exact Lib.nDigits_pos k
theorem atoi_dec {k : Nat} : Lib.atoi (Lib.decDigits k) = some (k : Int) := by
  have h := decFrom_dec k
  have hl := dec_len1 k
  generalize Lib.decDigits k = l at h hl
  cases l with
  | nil => simp at hl
  | cons b r =>
    obtain ⟨d, hd⟩ := Lib.digit_of_decFrom _ _ _ h 0 b rfl
    obtain ⟨h1, h2, _⟩ := Lib.digitVal_eq hd
    have n45 : (b == 45) = false := by
      rw [beq_eq_false_iff_ne]; intro e; subst e; simp at h1
    have n43 : (b == 43) = false := by
      rw [beq_eq_false_iff_ne]; intro e; subst e; simp at h1
    simp only [Lib.atoi, n45, n43, Lib.decNat, List.isEmpty_cons, h]
    simp
theorem atoiAll_dec {k : Nat} (h : k ≤ 1000000000000) : Lib.atoiAll (Lib.decDigits k) = .ok (k : Int) := by
  have := dec_len13 h
  rw [Lib.atoiAll_short _ (by omega), atoi_dec]
  rfl

/-- The number, at most 1000000000000, whose numeral the bytes are; none if there is no such number. -/
def numOf (l : List UInt8) : Option Nat :=
  match Lib.decFrom 0 l with
  | some k => if k ≤ 1000000000000 ∧ Lib.decDigits k = l then some k else none
  | none => none
theorem numOf_some {l : List UInt8} {k : Nat} (h : numOf l = some k) : k ≤ 1000000000000 ∧ l = Lib.decDigits k := by
  unfold numOf at h
  split at h
  · split at h
    · rename_i hc
      simp only [Option.some.injEq] at h; subst h
      exact ⟨hc.1, hc.2.symm⟩
    · cases h
  · cases h
theorem numOf_dec {k : Nat} (h : k ≤ 1000000000000) : numOf (Lib.decDigits k) = some k := by
  unfold numOf
  rw [decFrom_dec]
  exact if_pos ⟨h, rfl⟩
theorem numOf_eq {l : List UInt8} {k : Nat} (h : k ≤ 1000000000000) (e : Lib.decDigits k = l) : numOf l = some k := by rw [← e]; exact numOf_dec h
theorem numOf_none {l : List UInt8} (h : ∀ k, k ≤ 1000000000000 → Lib.decDigits k ≠ l) : numOf l = none := by
  cases e : numOf l with
  | none => rfl
  | some k =>
    obtain ⟨h1, h2⟩ := numOf_some e
    exact absurd h2.symm (h k h1)
/-- By how strconv.Atoi ends. -/
theorem numOf_syntax {l : List UInt8} (h : Lib.atoiAll l = Lib.atoiAll []) : numOf l = none :=
  numOf_none fun k hk e => by rw [← e, atoiAll_dec hk] at h; cases h
theorem numOf_range {l : List UInt8} (h : Lib.atoiAll l = .range) : numOf l = none :=
  numOf_none fun k hk e => by rw [← e, atoiAll_dec hk] at h; cases h
theorem numOf_out {l : List UInt8} {n : Int} (h : Lib.atoiAll l = .ok n) (ho : n < 0 ∨ 1000000000000 < n) : numOf l = none :=
  numOf_none fun k hk e => by
    rw [← e, atoiAll_dec hk] at h
    injection h with h
    omega
theorem numOf_other {l : List UInt8} {n : Nat} (h : Lib.atoiAll l = .ok (n : Int)) (hn : Lib.decDigits n ≠ l) : numOf l = none :=
  numOf_none fun k hk e => by
    have h' := h
    rw [← e, atoiAll_dec hk] at h'
    injection h' with h'
    have : k = n := by omega
    subst this
    exact hn e
/-- By what the model's loop has read. -/
theorem numOf_len {l : List UInt8} (h : l.length < 1 ∨ 13 < l.length) : numOf l = none :=
  numOf_none fun k hk e => by
    have h1 := dec_len13 hk
    have h2 := dec_len1 k
    rw [e] at h1 h2
    omega
theorem numOf_byte {l : List UInt8} {j : Nat} {b : UInt8} (hb : l[j]? = some b) (hd : b.toNat < 48 ∨ 57 < b.toNat) : numOf l = none :=
  numOf_none fun k hk e => by
    have h := decFrom_dec k
    rw [e] at h
    obtain ⟨d, h1⟩ := Lib.digit_of_decFrom _ _ _ h j b hb
    obtain ⟨h2, h3, _⟩ := Lib.digitVal_eq h1
    omega
theorem numOf_val {l : List UInt8} {n : Nat} (h : Lib.decFrom 0 l = some n) (ho : 1000000000000 < n ∨ Lib.decDigits n ≠ l) : numOf l = none := by
  unfold numOf
  rw [h]
  exact if_neg (by intro ⟨h1, h2⟩; rcases ho with ho | ho; omega; exact ho h2)
theorem decFrom_step {l : List UInt8} {k n : Nat} {b : UInt8} (h : Lib.decFrom 0 (l.take k) = some n) (hb : l[k]? = some b) (h1 : 48 ≤ b.toNat) (h2 : b.toNat ≤ 57) : Lib.decFrom 0 (l.take (k + 1)) = some (n * 10 + (b.toNat - 48)) :=
  Lib.decFrom_take l k 0 n b _ h hb (by unfold Lib.digitVal; rw [if_pos ⟨h1, h2⟩])
theorem decFrom_lt13 {l : List UInt8} {k n : Nat} (h : Lib.decFrom 0 (l.take k) = some n) (hl : l.length ≤ 13) : n < 10000000000000 := by
  have h1 := Lib.decFrom_lt _ 0 n h
  have h2 : (l.take k).length ≤ 13 := by rw [List.length_take]; omega
  have h3 := Nat.pow_le_pow_right (n := 10) (by decide) h2
  have e : (10 : Nat) ^ 13 = 10000000000000 := by decide
  omega

/- FmtD -/
open Go.ChangeShapes Go.WideShapes Go.ChangeAt Go.RowKit

def digF (u : Nat) : UInt8 := UInt8.ofNat (48 + u % 10)
def ddF (u : Nat) : List UInt8 := if u = 0 then [] else Lib.decDigits u
theorem dd_zeroF : ddF 0 = [] := rfl
theorem dd_posF {u : Nat} (h : u ≠ 0) : ddF u = Lib.decDigits u := by unfold ddF; rw [if_neg h]
theorem dd_stepF {u : Nat} (h : u ≠ 0) : ddF u = ddF (u / 10) ++ [digF u] := by
  rw [dd_posF h, Lib.decDigits]
  by_cases h1 : u < 10
  · rw [dif_pos h1, show u / 10 = 0 by omega, dd_zeroF]; unfold digF; rw [show u % 10 = u by omega]; rfl
  · rw [dif_neg h1, dd_posF (by omega)]; rfl
theorem dec_lenF (u : Nat) (h : u < 18446744073709551616) : (Lib.decDigits u).length ≤ 20 := by
  rw [Lib.decDigits_length]
  by_cases h0 : u = 0
  · subst h0; rw [Lib.nDigits_small (by decide)]; decide
  · have h1 := Lib.nDigits_unique
    have h2 : Lib.nDigits u ≤ 20 := by
      have hp := Lib.nDigits_pos u
      by_cases h3 : Lib.nDigits u ≤ 20
      · exact h3
      · exfalso
        have := (Lib.numDigits_eq u (by omega) h)
        obtain ⟨e, l⟩ := this
        split at e <;> omega
    exact h2
theorem conv1F (W : World) (c : Int) (h0 : 0 ≤ c) (h1 : c < 256) :
    (convert 22 9 (.slice (some ⟨W.heap.size, 0, none⟩) 1 1)).run Tryz.prog (W.alloc (.cells #[.int .u8 c] 5)) = .ok (.string ⟨#[UInt8.ofNat c.toNat]⟩) (W.alloc (.cells #[.int .u8 c] 5)) := by
  have := run_convert_bytes_back (P := Tryz.prog) (W.alloc (.cells #[.int .u8 c] 5)) 22 9 5 ⟨W.heap.size, 0, none⟩ 1 [UInt8.ofNat c.toNat] Tryz.underlying22 Tryz.underlying5 Tryz.underlying9 (by
    intro j hj
    simp at hj
    subst hj
    have h2 : ((UInt8.ofNat c.toNat).toNat : Int) = c := by
      simp; omega
    simp only [Addr.add, List.getElem_cons_zero, h2]
    simp [go_sem])
  simpa using this

theorem digit_eqF (u : Nat) : UInt8.ofNat (48 + (u : Int) % 10).toNat = digF u := by
  rw [show (48 + (u : Int) % 10).toNat = 48 + u % 10 from by omega]; rfl
theorem digit_eq' (u : Nat) (h : u % 10 = 0) : UInt8.ofNat (48 + -((u : Int) % 10)).toNat = digF u := by
  rw [show (48 + -((u : Int) % 10)).toNat = 48 + u % 10 from by omega]; rfl
theorem cat1F (c : UInt8) (t : List UInt8) : (ByteArray.mk #[c] ++ ByteArray.mk t.toArray) = ByteArray.mk (c :: t).toArray := by
  apply ByteArray.ext; simp [ByteArray.data_append]
theorem len_tF {m u : Nat} {t : List UInt8} (h : ddF u ++ t = Lib.decDigits m) (hm : m < 18446744073709551616) : t.length ≤ 20 := by
  have h1 := dec_lenF m hm
  rw [← h, List.length_append] at h1
  omega

set_option maxRecDepth 100000 in
set_option maxHeartbeats 2000000 in
theorem fmt_pos (m : Nat) (hm : m ≠ 0) (hb : m ≤ 9223372036854775807) (w : World) :
    Calls Tryz.prog 33 #[.int .i64 m] w fun e w' => e = .returned (.string ⟨(Lib.decDigits m).toArray⟩) ∧ Below w.heap.size w w' := by
  have h0 : ((m : Int) == 0) = false := by simp; omega
  go_enter Tryz.func33, Tryz.ntmps33
  go_wp2
  go_loopw [3, 4] (fun s x wr => ∃ (u : Nat) (t : List UInt8), x = .int .i64 u ∧ s = .string ⟨t.toArray⟩ ∧ ddF u ++ t = Lib.decDigits m ∧ u ≤ m ∧ Below w.heap.size w wr) (fun _ x _ => (intOf x).toNat)
  case atStart => exact ⟨m, [], rfl, rfl, by rw [dd_posF hm]; simp, Nat.le_refl _, Below.refl _ _⟩
  case round =>
    obtain ⟨u, t, rfl, rfl, ht, hu, hbl⟩ := hrel
    have htl := len_tF ht (by omega)
    by_cases hz : u = 0
    · subst hz
      rw [dd_zeroF, List.nil_append] at ht
      have HT := Lib.hid ht; clear ht
      go_wp2
      go_ret
      exact ⟨by rw [HT.out]; rfl, hbl⟩
    · rw [dd_stepF hz, List.append_assoc] at ht
      have HT := Lib.hid ht; clear ht
      have hnz : ((u : Int) != 0) = true := by simp; omega
      have hcv := conv1F wr (48 + (u : Int) % 10) (by omega) (by omega)
      rw [digit_eqF] at hcv
      have hsz := hbl.size
      go_wp2
      go_roundw
      case rel => exact ⟨u / 10, digF u :: t, by go_num, by rw [cat1F], by rw [← HT.out]; simp, by omega, hbl.alloc hsz _⟩
      case measure => simp [intOf]; omega

set_option maxRecDepth 100000 in
set_option maxHeartbeats 2000000 in
theorem fmt_neg (m : Nat) (hm : m ≠ 0) (hb : m ≤ 9223372036854775808) (w : World) :
    Calls Tryz.prog 33 #[.int .i64 (-(m : Int))] w fun e w' => e = .returned (.string ⟨(45 :: Lib.decDigits m).toArray⟩) ∧ Below w.heap.size w w' := by
  have h0 : ((-(m : Int)) == 0) = false := by simp; omega
  go_enter Tryz.func33, Tryz.ntmps33
  go_wp2
  go_loopw [3, 4] (fun s x wr => ∃ (u : Nat) (t : List UInt8), x = .int .i64 (-(u : Int)) ∧ s = .string ⟨t.toArray⟩ ∧ ddF u ++ t = Lib.decDigits m ∧ u ≤ m ∧ Below w.heap.size w wr) (fun _ x _ => (-(intOf x)).toNat)
  case atStart => exact ⟨m, [], rfl, rfl, by rw [dd_posF hm]; simp, Nat.le_refl _, Below.refl _ _⟩
  case round =>
    obtain ⟨u, t, rfl, rfl, ht, hu, hbl⟩ := hrel
    have htl := len_tF ht (by omega)
    by_cases hz : u = 0
    · subst hz
      rw [dd_zeroF, List.nil_append] at ht
      have HT := Lib.hid ht; clear ht
      go_wp2
      go_ret
      exact ⟨by rw [HT.out]; rfl, hbl⟩
    · rw [dd_stepF hz, List.append_assoc] at ht
      have HT := Lib.hid ht; clear ht
      have hnz : ((-(u : Int)) != 0) = true := by simp; omega
      have hsz := hbl.size
      by_cases hd : 0 < (u : Int) % 10
      · have hcv := conv1F wr (48 + (u : Int) % 10) (by omega) (by omega)
        rw [digit_eqF] at hcv
        go_wp2
        go_roundw
        case rel => exact ⟨u / 10, digF u :: t, by go_num, by rw [cat1F], by rw [← HT.out]; simp, by omega, hbl.alloc hsz _⟩
        case measure => simp [intOf]; omega
      · have hcv := conv1F wr (48 + -((u : Int) % 10)) (by omega) (by omega)
        rw [digit_eq' u (by omega)] at hcv
        go_wp2
        go_roundw
        case rel => exact ⟨u / 10, digF u :: t, by go_num, by rw [cat1F], by rw [← HT.out]; simp, by omega, hbl.alloc hsz _⟩
        case measure => simp [intOf]; omega

theorem fmt_zero (w : World) :
    Calls Tryz.prog 33 #[.int .i64 0] w fun e w' => e = .returned (.string ⟨#[48]⟩) ∧ Below w.heap.size w w' := by
  go_enter Tryz.func33, Tryz.ntmps33
  go_wp2
  go_ret
  exact ⟨rfl, Below.refl _ _⟩

def fmtS (n : Int) : ByteArray := ⟨(Lib.itoa n).toArray⟩
theorem fmt_spec (n : Int) (h1 : -9223372036854775808 ≤ n) (h2 : n ≤ 9223372036854775807) (w : World) :
    Calls Tryz.prog 33 #[.int .i64 n] w fun e w' => e = .returned (.string (fmtS n)) ∧ Below w.heap.size w w' := by
  unfold fmtS Lib.itoa
  by_cases h : n < 0
  · obtain ⟨m, rfl⟩ : ∃ m : Nat, n = -(m : Int) := ⟨n.natAbs, by omega⟩
    rw [if_pos h, show (-(m : Int)).natAbs = m by omega]
    exact fmt_neg m (by omega) (by omega) w
  · obtain ⟨m, rfl⟩ : ∃ m : Nat, n = (m : Int) := ⟨n.natAbs, by omega⟩
    rw [if_neg h, Int.toNat_natCast]
    by_cases h0 : m = 0
    · subst h0
      refine (fmt_zero w).mono fun e w' ⟨he, hb⟩ => ⟨?_, hb⟩
      rw [he, Lib.decDigits_one (by decide)]
      rfl
    · exact fmt_pos m h0 (by omega) w

/- FmtLawD -/
open Go.ChangeShapes Go.WideShapes Go.ChangeAt Go.RowKit

theorem fmt_impl (n : Int) (h0 : -9223372036854775808 ≤ n) (h1 : n ≤ 9223372036854775807) (w : World) (htab : Lib.TabIs Tryz.prog w "internal/strconv.uint64pow10" .u64 Lib.pow10Tab) :
    Calls Tryz.prog 72 #[.int .i64 n] w fun e w' => e = .returned (.string (fmtS n)) ∧ Below w.heap.size w w' := by
  go_enter Tryz.func72, Tryz.ntmps72
  go_wp2_with (go_at_call 121; refine (Tryz.strconv_Itoa n h0 h1 _ htab).mono ?_; rintro e w' ⟨rfl, k, os, rfl⟩)
  go_ret
  exact ⟨rfl, Lib.below_grow _ _ (Nat.le_refl _) k os⟩

/- Par -/
open Go.ChangeShapes Go.WideShapes Go.ChangeAt Go.RowKit

/-- What ParseInt returns. -/
def parsed : Option Nat → Value
  | some k => .tuple #[.int .i64 k, .bool true]
  | none => .tuple #[.int .i64 0, .bool false]

theorem str_eq {l : List UInt8} {s : ByteArray} : (ByteArray.mk l.toArray = s) ↔ l = s.data.toList := by
  constructor
  · intro h; rw [← h]
  · intro h; rw [h]

set_option maxHeartbeats 1000000 in
theorem parse_spec (s : ByteArray) (hs : s.size ≤ 9223372036854775807) (w : World) :
    Calls Tryz.prog 70 #[.string s] w fun e w' => e = .returned (parsed (numOf s.data.toList)) ∧ Below w.heap.size w w' := by
  have hsl : s.data.toList.length = s.size := Array.length_toList
  by_cases hl : 1 ≤ (s.size : Int) ∧ (s.size : Int) ≤ 13
  · obtain ⟨hl1, hl2⟩ := hl
    have e1 : inB s.size 1 13 = true := inB_yes hl1 hl2
    have HSL := Lib.hid hsl; clear hsl
    go_enter Tryz.func70, Tryz.ntmps70
    go_wp2_with (go_at_call 71; refine (lin_any _ _ _ _).mono ?_; rintro e w' ⟨rfl, rfl⟩)
    go_loop [4, 5] (fun n i => ∃ (k v : Nat), k ≤ s.size ∧ i = .int .i64 k ∧ n = .int .i64 v ∧ Lib.decFrom 0 (s.data.toList.take k) = some v) (fun _ i => s.size - (intOf i).toNat)
    case atStart => exact ⟨0, 0, Nat.zero_le _, rfl, rfl, rfl⟩
    case round =>
      obtain ⟨k, v, hk, rfl, rfl, hv⟩ := hrel
      have hv13 := decFrom_lt13 hv (by rw [HSL.out]; omega)
      have HV := Lib.hid hv; clear hv
      by_cases hlt : k < s.size
      · have hlt2 : decide ((k : Int) < (s.size : Int)) = true := by simp; omega
        have hb8 : (s[k].toNat : Int) < 256 := by have := UInt8.toNat_lt s[k]; omega
        by_cases hd : (48 : Int) ≤ (s[k].toNat : Int) ∧ (s[k].toNat : Int) ≤ 57
        · have e2 : inB (s[k].toNat : Int) 48 57 = true := inB_yes hd.1 hd.2
          obtain ⟨hd1, hd2⟩ := hd
          go_wp2_with (go_at_call 71; refine (lin_any _ _ _ _).mono ?_; rintro e w' ⟨rfl, rfl⟩)
          go_round
          case rel =>
            refine ⟨k + 1, v * 10 + (s[k].toNat - 48), by omega, by go_num, ?_, decFrom_step HV.out (get_at hlt) (by omega) (by omega)⟩
            rw [show (10 * (v : Int) + ((s[k].toNat : Int) - 48)) = ((v * 10 + (s[k].toNat - 48) : Nat) : Int) from by omega]
          case measure => simp [intOf]; omega
        · have e2 : inB (s[k].toNat : Int) 48 57 = false := inB_no (by omega)
          have HN := Lib.hid (numOf_byte (get_at hlt) (by omega))
          clear hd
          go_wp2_with (go_at_call 71; refine (lin_any _ _ _ _).mono ?_; rintro e w' ⟨rfl, rfl⟩)
          go_ret2
          exact ⟨by rw [HN.out]; rfl, Below.refl _ _⟩
      · have hke : k = s.size := by omega
        have HV' : Hid (Lib.decFrom 0 s.data.toList = some v) := by
          have h1 := HV.out
          rw [List.take_of_length_le (by rw [HSL.out]; omega)] at h1
          exact h1
        clear HV hke
        have hfv : fmtS v = ⟨(Lib.decDigits v).toArray⟩ := by unfold fmtS; rw [Lib.itoa, if_neg (by omega), Int.toNat_natCast]
        by_cases hbig : (v : Int) ≤ 1000000000000
        · by_cases heq : Lib.decDigits v = s.data.toList
          · have HN := Lib.hid (numOf_eq (by omega) heq)
            have hfs : ((fmtS v).toList == s.toList) = true := by
              rw [show fmtS v = s by rw [hfv]; exact str_eq.2 heq]; exact beq_self_eq_true _
            clear heq hfv
            go_wp2_with fail
            refine (fmt_spec v (by omega) (by omega) _).mono ?_
            rintro e w1 ⟨rfl, hb1⟩
            have HB1 := Lib.hid hb1; clear hb1
            go_wp2
            go_ret2
            exact ⟨by rw [HN.out]; rfl, HB1.out⟩
          · have HN := Lib.hid (numOf_val HV'.out (Or.inr heq))
            have hfs : ((fmtS v).toList == s.toList) = false := by
              rw [hfv, beq_eq_false_iff_ne, ByteArray.toList_eq, ByteArray.toList_eq]
              exact heq
            clear heq hfv
            go_wp2_with fail
            refine (fmt_spec v (by omega) (by omega) _).mono ?_
            rintro e w1 ⟨rfl, hb1⟩
            have HB1 := Lib.hid hb1; clear hb1
            go_wp2
            go_ret2
            exact ⟨by rw [HN.out]; rfl, HB1.out⟩
        · have HN := Lib.hid (numOf_val HV'.out (Or.inl (by omega)))
          clear hfv
          go_wp2_with fail
          go_ret2
          exact ⟨by rw [HN.out]; rfl, Below.refl _ _⟩
  · have e1 : inB s.size 1 13 = false := inB_no (by omega)
    have hn : numOf s.data.toList = none := numOf_len (by omega)
    have HN := Lib.hid hn; clear hn hsl
    go_enter Tryz.func70, Tryz.ntmps70
    go_wp2_with (go_at_call 71; refine (lin_any _ _ _ _).mono ?_; rintro e w' ⟨rfl, rfl⟩)
    go_ret2
    exact ⟨by rw [HN.out]; rfl, Below.refl _ _⟩

/-- What the listed variables give. -/
structure Laid (w : World) : Prop where
  tab : Lib.TabIs Tryz.prog w "internal/strconv.uint64pow10" .u64 Lib.pow10Tab
  syn : ∃ tp p, w.var? Tryz.prog "strconv.ErrSyntax" = some #[.iface tp p]
  rng : ∃ tp p, w.var? Tryz.prog "strconv.ErrRange" = some #[.iface tp p]

theorem laid_on {w w1 : World} (h : Laid w) (hb : Below w.heap.size w w1) : Laid w1 := by
  have key : ∀ nm v, w.var? Tryz.prog nm = some v → w1.var? Tryz.prog nm = some v := by
    intro nm v hv
    unfold World.var? at *
    cases hg : Tryz.prog.globalNamed nm with
    | none => rw [hg] at hv; simp at hv
    | some g =>
      rw [hg] at hv
      simp only [Option.bind_some] at hv ⊢
      have hlt : g < w.heap.size := by
        rcases Nat.lt_or_ge g w.heap.size with h1 | h1
        · exact h1
        · rw [Array.getElem?_eq_none h1] at hv; cases hv
      rw [hb.block g hlt]; exact hv
  refine ⟨(Lib.tabBelow_of_tabIs h.tab) _ hb, ?_, ?_⟩
  · obtain ⟨tp, p, h1⟩ := h.syn; exact ⟨tp, p, key _ _ h1⟩
  · obtain ⟨tp, p, h1⟩ := h.rng; exact ⟨tp, p, key _ _ h1⟩

theorem below_or {w w1 : World} {T : TypeId} (h : w1 = w ∨ ∃ t : ByteArray, w1 = Lib.bytesWorld w T t) : Below w.heap.size w w1 := by
  rcases h with rfl | ⟨t, rfl⟩
  · exact Below.refl _ _
  · exact Lib.bytesWorld_below _ _ _

set_option maxHeartbeats 1000000 in
theorem parse_impl (s : ByteArray) (hlim : s.size ≤ 281474976710656) (w : World) (hL : Laid w) :
    Calls Tryz.prog 118 #[.string s] w fun e w' => e = .returned (parsed (numOf s.data.toList)) ∧ Below w.heap.size w w' := by
  have HL := Lib.hid hL; clear hL
  rcases h : Lib.atoiAll s.data.toList with n | _ | _
  · have hbd := Lib.atoiAll_bounds h
    by_cases hr : 0 ≤ n ∧ n ≤ 1000000000000
    · obtain ⟨hr1, hr2⟩ := hr
      obtain ⟨m, rfl⟩ : ∃ m : Nat, n = (m : Int) := ⟨n.toNat, by omega⟩
      have e1 : inB m 0 1000000000000 = true := inB_yes hr1 hr2
      have hfv : fmtS m = ⟨(Lib.decDigits m).toArray⟩ := by unfold fmtS; rw [Lib.itoa, if_neg (by omega), Int.toNat_natCast]
      by_cases heq : Lib.decDigits m = s.data.toList
      · have HN := Lib.hid (numOf_eq (by omega) heq)
        have hfs : ((fmtS m).toList == s.toList) = true := by
          rw [show fmtS m = s by rw [hfv]; exact str_eq.2 heq]; exact beq_self_eq_true _
        have H := Lib.hid h
        clear heq hfv h hbd
        go_enter Tryz.func118, Tryz.ntmps118
        go_wp2_with fail
        refine (Tryz.strconv_Atoi_ok s (by omega) _ H.out _).mono ?_
        rintro e w1 ⟨rfl, hw⟩
        have HB := Lib.hid (below_or hw); clear hw
        go_wp2_with (go_at_call 97; refine (rin_any _ _ _ _).mono ?_; rintro e w' ⟨rfl, rfl⟩)
        refine (fmt_impl m (by omega) (by omega) _ (laid_on HL.out HB.out).tab).mono ?_
        rintro e w2 ⟨rfl, hb2⟩
        have HB2 := Lib.hid hb2; clear hb2
        go_wp2
        go_ret2
        exact ⟨by rw [HN.out]; rfl, HB.out.trans (HB2.out.mono HB.out.size)⟩
      · have HN := Lib.hid (numOf_other h heq)
        have hfs : ((fmtS m).toList == s.toList) = false := by
          rw [hfv, beq_eq_false_iff_ne, ByteArray.toList_eq, ByteArray.toList_eq]
          exact heq
        have H := Lib.hid h
        clear heq hfv h hbd
        go_enter Tryz.func118, Tryz.ntmps118
        go_wp2_with fail
        refine (Tryz.strconv_Atoi_ok s (by omega) _ H.out _).mono ?_
        rintro e w1 ⟨rfl, hw⟩
        have HB := Lib.hid (below_or hw); clear hw
        go_wp2_with (go_at_call 97; refine (rin_any _ _ _ _).mono ?_; rintro e w' ⟨rfl, rfl⟩)
        refine (fmt_impl m (by omega) (by omega) _ (laid_on HL.out HB.out).tab).mono ?_
        rintro e w2 ⟨rfl, hb2⟩
        have HB2 := Lib.hid hb2; clear hb2
        go_wp2
        go_ret2
        exact ⟨by rw [HN.out]; rfl, HB.out.trans (HB2.out.mono HB.out.size)⟩
    · have e1 : inB n 0 1000000000000 = false := inB_no (by omega)
      have HN := Lib.hid (numOf_out h (by omega))
      have H := Lib.hid h
      clear h hr
      go_enter Tryz.func118, Tryz.ntmps118
      go_wp2_with fail
      refine (Tryz.strconv_Atoi_ok s (by omega) _ H.out _).mono ?_
      rintro e w1 ⟨rfl, hw⟩
      have HB := Lib.hid (below_or hw); clear hw
      go_wp2_with (go_at_call 97; refine (rin_any _ _ _ _).mono ?_; rintro e w' ⟨rfl, rfl⟩)
      go_ret2
      exact ⟨by rw [HN.out]; rfl, HB.out⟩
  · have HN := Lib.hid (numOf_syntax h)
    have H := Lib.hid h; clear h
    obtain ⟨tp, p, hv⟩ := HL.out.syn
    have HV := Lib.hid hv; clear hv
    go_enter Tryz.func118, Tryz.ntmps118
    go_wp2_with fail
    refine (Tryz.strconv_Atoi_syntax_var s hlim H.out tp p _ HV.out).mono ?_
    rintro e w1 ⟨N, rfl, -, -, hb⟩
    have HB := Lib.hid hb; clear hb
    go_wp2
    go_ret2
    exact ⟨by rw [HN.out]; rfl, HB.out⟩
  · have HN := Lib.hid (numOf_range h)
    have H := Lib.hid h; clear h
    obtain ⟨tp, p, hv⟩ := HL.out.rng
    have HV := Lib.hid hv; clear hv
    go_enter Tryz.func118, Tryz.ntmps118
    go_wp2_with fail
    refine (Tryz.strconv_Atoi_range_var s hlim H.out tp p _ HV.out).mono ?_
    rintro e w1 ⟨N, rfl, -, -, hb⟩
    have HB := Lib.hid hb; clear hb
    go_wp2
    go_ret2
    exact ⟨by rw [HN.out]; rfl, HB.out⟩

/- StrLib -/
open Go.ChangeShapes Go.WideShapes Go.ChangeAt Go.RowKit

theorem indexByte_idx (c : UInt8) : ∀ l : List UInt8, Lib.indexByte l c = if idxB c l < l.length then (idxB c l : Int) else -1
  | [] => rfl
  | b :: l => by
    have ih := indexByte_idx c l
    have hle := idxB_le c l
    unfold Lib.indexByte idxB
    by_cases h : b = c
    · rw [if_pos (by simpa using h), if_pos h, if_pos (by simp)]; rfl
    · rw [if_neg (by simpa using h), if_neg h, ih]
      by_cases h2 : idxB c l < l.length
      · rw [if_pos h2, if_neg (by simp <;> omega), if_pos (by simp <;> omega)]; omega
      · rw [if_neg h2, if_pos (by rfl), if_neg (by simp <;> omega)]
theorem index_idx (c : UInt8) : ∀ l : List UInt8, Lib.index l [c] = if idxB c l < l.length then (idxB c l : Int) else -1
  | [] => rfl
  | b :: l => by
    have ih := index_idx c l
    have hle := idxB_le c l
    unfold idxB
    by_cases h : b = c
    · subst h
      rw [if_pos rfl, if_pos (by simp), Lib.index]; simp [List.isPrefixOf]
    · have hp : ([c] : List UInt8).isPrefixOf (b :: l) = false := by simp [List.isPrefixOf, Ne.symm h]
      have hix : Lib.index (b :: l) [c] = if Lib.index l [c] == -1 then -1 else Lib.index l [c] + 1 := by rw [Lib.index, hp]; simp
      rw [if_neg h, hix, ih]
      by_cases h2 : idxB c l < l.length
      · rw [if_pos h2, if_neg (by simp <;> omega), if_pos (by simp <;> omega)]; omega
      · rw [if_neg h2, if_pos (by rfl), if_neg (by simp <;> omega)]
theorem indexByte_index (c : UInt8) (l : List UInt8) : Lib.indexByte l c = Lib.index l [c] := by rw [indexByte_idx, index_idx]
theorem idx_split {c : UInt8} {l : List UInt8} (h : idxB c l < l.length) : splitB c l = l.take (idxB c l) :: splitB c (l.drop (idxB c l + 1)) := by
  have := split_round (c := c) (l := l) (a := 0) (Nat.zero_le _) (idxB_at h) fun j _ hj => idxB_before hj
  rwa [List.drop_zero, Nat.sub_zero] at this
theorem idx_split_none {c : UInt8} {l : List UInt8} (h : ¬ idxB c l < l.length) : splitB c l = [l] := by
  have := split_last (c := c) (l := l) (a := 0) fun j _ hj => by
    have hjl := (List.getElem?_eq_some_iff.1 hj).1
    exact idxB_before (by omega) hj
  rwa [List.drop_zero] at this
theorem splitK_mine (c : UInt8) (l : List UInt8) : Lib.splitK [c] 0 (Lib.count l [c]) l = splitB c l := by
  generalize hn : l.length = n
  induction n using Nat.strongRecOn generalizing l with
  | _ n ih =>
    by_cases h : idxB c l < l.length
    · have hix : Lib.index l [c] = ((idxB c l : Nat) : Int) := by rw [index_idx, if_pos h]
      rw [Lib.count_hit (by simp) hix, Nat.add_comm, Lib.splitK, if_neg (by rw [hix]; simp <;> omega), hix, idx_split h]
      rw [show ((idxB c l : Nat) : Int).toNat = idxB c l from rfl, Nat.add_zero, show ([c] : List UInt8).length = 1 from rfl]
      rw [ih (l.drop (idxB c l + 1)).length (by rw [List.length_drop]; omega) _ rfl]
    · have hix : Lib.index l [c] = -1 := by rw [index_idx, if_neg h]
      rw [Lib.count_miss hix, Lib.splitK, idx_split_none h]
theorem splitB_mine (c : UInt8) (s : ByteArray) : Lib.splitB ⟨#[c]⟩ 0 (Lib.countB s ⟨#[c]⟩) s = splS c s.data.toList := by
  have h := Lib.splitB_data ⟨#[c]⟩ 0 (Lib.countB s ⟨#[c]⟩) s
  have e : Lib.countB s ⟨#[c]⟩ = Lib.count s.data.toList [c] := rfl
  rw [e] at h ⊢
  rw [show (⟨#[c]⟩ : ByteArray).data.toList = [c] from rfl, splitK_mine] at h
  unfold splS
  rw [← h, List.map_map]
  conv => lhs; rw [← List.map_id (Lib.splitB _ _ _ _)]
  exact List.map_congr_left fun x _ => (ofL_of x).symm

/-- What Cut returns at one byte. -/
def cutC (c : UInt8) (s : ByteArray) : Value :=
  if idxB c s.data.toList < s.size then .tuple #[.string (s.extract 0 (idxB c s.data.toList)), .string (s.extract (idxB c s.data.toList + 1) s.size), .bool true]
  else .tuple #[.string s, .string ⟨#[]⟩, .bool false]

set_option maxHeartbeats 1000000 in
theorem lcutC_any (c : UInt8) (s : ByteArray) (hs : s.size ≤ 4611686018427387904) (w : World) :
    Calls Tryz.prog 157 #[.string s, .string ⟨#[c]⟩] w fun e w' => e = .returned (cutC c s) ∧ ∃ n, w' = w.drewN n := by
  have hix := indexByte_idx c s.data.toList
  rw [size_list] at hix
  by_cases h1 : idxB c s.data.toList < s.size
  · have HV := Lib.hid (show cutC c s = _ from by unfold cutC; rw [if_pos h1])
    rw [if_pos h1] at hix
    obtain ⟨i, hi⟩ : ∃ i, idxB c s.data.toList = i := ⟨_, rfl⟩
    rw [hi] at hix h1 HV
    have HI := Lib.hid hix
    clear hix hi
    have c1 : (0 : Int) ≤ ↑i := by omega
    have c2 : (↑i : Int) ≤ ↑s.size := by omega
    have c3 : (0 : Int) ≤ ↑i + 1 := by omega
    have c4 : (↑i + 1 : Int) ≤ ↑s.size := by omega
    go_enter Tryz.func157, Tryz.ntmps157
    go_wp2_with fail
    refine (Tryz.stringslite_Index_one s c _).mono ?_
    rintro e w' ⟨rfl, rfl⟩
    rw [HI.out]
    go_wp2_with fail
    go_quiet (fail)
    go_wp2
    go_ret3
    exact ⟨by rw [HV.out]; rfl, _, rfl⟩
  · have HV := Lib.hid (show cutC c s = _ from by unfold cutC; rw [if_neg h1])
    rw [if_neg h1] at hix
    have HI := Lib.hid hix
    clear hix h1
    go_enter Tryz.func157, Tryz.ntmps157
    go_wp2_with fail
    refine (Tryz.stringslite_Index_one s c _).mono ?_
    rintro e w' ⟨rfl, rfl⟩
    rw [HI.out]
    go_wp2_with fail
    go_ret3
    exact ⟨by rw [HV.out]; rfl, 0, rfl⟩

set_option maxHeartbeats 1000000 in
theorem cutC_any (c : UInt8) (s : ByteArray) (hs : s.size ≤ 4611686018427387904) (w : World) :
    Calls Tryz.prog 117 #[.string s, .string ⟨#[c]⟩] w fun e w' => e = .returned (cutC c s) ∧ ∃ n, w' = w.drewN n := by
  have hcon := lcutC_any c s hs
  have : ∃ a b d, cutC c s = .tuple #[.string a, .string b, .bool d] := by
    unfold cutC; split <;> exact ⟨_, _, _, rfl⟩
  obtain ⟨a, b, d, hv⟩ := this
  rw [hv] at hcon ⊢
  clear hv
  have HC := Lib.hid hcon; clear hcon
  go_enter Tryz.func117, Tryz.ntmps117
  go_wp2_with fail
  refine (HC.out _).mono ?_
  rintro e w' ⟨rfl, n, rfl⟩
  go_wp2_with fail
  go_ret3
  exact ⟨rfl, n, rfl⟩

theorem splS_flat (l : List ByteArray) : l.flatMap encS = l.map Value.string := by
  induction l with
  | nil => rfl
  | cons x l ih => rw [List.flatMap_cons, ih]; rfl

set_option maxHeartbeats 1000000 in
theorem gsplit_any (s : ByteArray) (c : UInt8) (hs : s.size < 4294967281) (w : World) :
    Calls Tryz.prog 116 #[.string s, .string ⟨#[c]⟩, .int .i64 0, .int .i64 (-1)] w (NewK encS 1 9 (splS c s.data.toList) w) := by
  have hC : Calls Tryz.prog 155 #[.string s, .string ⟨#[c]⟩] w fun e w' => e = .returned (.int .i64 (Lib.countB s ⟨#[c]⟩)) ∧ w' = w := by
    refine (Tryz.strings_Count_one s c w).mono ?_
    rintro e w' ⟨rfl, rfl⟩
    refine ⟨?_, rfl⟩
    show Ending.returned (.int .i64 (Lib.countByte s.data.toList c)) = Ending.returned (Value.int .i64 ((Lib.count s.data.toList [c] : Nat) : Int))
    rw [Lib.count_one]; rfl
  have h1 : 1 ≤ (⟨#[c]⟩ : ByteArray).size := Nat.le_refl 1
  have hle := Lib.countB_le ⟨#[c]⟩ h1 s.size s (Nat.le_refl _)
  have hlen := Lib.splitB_all ⟨#[c]⟩ h1 0 _ s rfl
  have core := Any.strings_genSplit_core Tryz.lays221 (by kernel_rfl) s ⟨#[c]⟩ 0 (-1) (Lib.countB s ⟨#[c]⟩ + 1) w hs h1 (Nat.zero_le _)
    (fun x cc hx => by
      refine (Tryz.strings_Index_one x c _).mono ?_
      rintro e w' ⟨rfl, rfl⟩
      refine ⟨?_, rfl⟩
      rw [indexByte_index]) hC (by decide) (by decide) (by rw [if_pos (by decide)]; omega)
  refine core.mono ?_
  rintro e w' ⟨rfl, rfl⟩
  rw [Nat.add_sub_cancel, splitB_mine]
  rw [splitB_mine] at hlen
  refine ⟨_, rfl, ?_, (Below.refl _ _).alloc (Nat.le_refl _) _⟩
  rw [← hlen]
  refine ⟨?_, fun g hg => ?_⟩
  · have := World.ownsRow_lit (base := w.heap.size) (e := 9) (size := 1) w ((splS c s.data.toList).map Value.string).toArray (splS c s.data.toList).length (Nat.le_refl _) (by unfold maxLen; omega) (by simp)
    rw [splS_flat, Lib.cellsOf_full]
    rw [List.toList_toArray] at this
    exact this
  · have : g = w.heap.size := (Option.some.inj hg).symm
    subst this; simp

set_option maxHeartbeats 1000000 in
theorem split_any (s : ByteArray) (c : UInt8) (hs : s.size < 4294967281) (w : World) :
    Calls Tryz.prog 64 #[.string s, .string ⟨#[c]⟩] w (NewK encS 1 9 (splS c s.data.toList) w) := by
  go_enter Tryz.func64, Tryz.ntmps64
  go_wp2_with fail
  refine (gsplit_any s c hs _).mono ?_
  rintro e w' ⟨v, rfl, ho, hb⟩
  have HO := Lib.hid ho; have HB := Lib.hid hb; clear ho hb
  go_wp2_with fail
  go_ret
  exact ⟨_, rfl, HO.out, HB.out⟩
end Go.Proofs.YtgcdfkpidcdicaaGreatDoor
