/- Helper contracts over the integer functions of the program and of the model: what InRange, l1In, Min, Max and lowAndHigh return. No conditions beyond the types. Helper contracts: IsName of the program and of the model answer alike. Asked: the string is shorter than 2^63 bytes. Tokens as plain values: what a tag is, what its form is, how a text is divided, and that the pieces of a text do not matter. No program. Helper contracts: IsValue of the program and of the model answer alike. Asked: the string is shorter than 2^63 bytes. Helper contracts: the model's own division of a text, and its search for a byte. Asked: the string is shorter than 2^40 bytes. -/
import Derived.Test.YtkjjiinccljhjaaGreatDoorRows
import Derived.WalkKit
import Derived.ProofKit
import Derived.OpenShut
import Derived.LoopTactic
import Derived.Deep.QuietTactic
import Derived.BigQuiet
import Derived.Lib.Hide
import Derived.WalkSpells
import Derived.WalkLawsBesides
import Derived.Lib.Strings
import Derived.Test.YtkjjiinccljhjaaGreatDoorMe2
import Derived.Test.YtkjjiinccljhjaaGreatDoorMe3
namespace Go.Proofs.YtkjjiinccljhjaaGreatDoor

open Go.ChangeShapes Go.WideShapes Go.ChangeAt Go.RowKit

def inB (n lo hi : Int) : Bool := decide (lo ≤ n ∧ n ≤ hi)
theorem inB_yes {n lo hi : Int} (h1 : lo ≤ n) (h2 : n ≤ hi) : inB n lo hi = true := by unfold inB; exact decide_eq_true ⟨h1, h2⟩
theorem inB_no {n lo hi : Int} (h : n < lo ∨ hi < n) : inB n lo hi = false := by unfold inB; exact decide_eq_false (by omega)
theorem ret_b {a b : Bool} (h : a = b) : Ending.returned (.bool a) = .returned (.bool b) := by rw [h]
theorem ret_i {a b : Int} (h : a = b) : Ending.returned (.int .i64 a) = .returned (.int .i64 b) := by rw [h]

theorem rin_any (n lo hi : Int) (w : World) :
    Calls Tryz.prog 97 #[.int .i64 n, .int .i64 lo, .int .i64 hi] w fun e w' => e = .returned (.bool (inB n lo hi)) ∧ w = w' := by
  by_cases h1 : lo ≤ n
  · by_cases h2 : n ≤ hi
    · go_enter Tryz.func97, Tryz.ntmps97
      go_wp2
      go_ret
      exact ⟨ret_b (inB_yes h1 h2).symm, rfl⟩
    · go_enter Tryz.func97, Tryz.ntmps97
      go_wp2
      go_ret
      exact ⟨ret_b (inB_no (by omega)).symm, rfl⟩
  · have h2 : decide (lo ≤ n) = false := decide_eq_false h1
    go_enter Tryz.func97, Tryz.ntmps97
    go_wp2
    go_ret
    exact ⟨ret_b (inB_no (by omega)).symm, rfl⟩

theorem lin_any (n lo hi : Int) (w : World) :
    Calls Tryz.prog 100 #[.int .i64 n, .int .i64 lo, .int .i64 hi] w fun e w' => e = .returned (.bool (inB n lo hi)) ∧ w = w' := by
  by_cases h1 : lo ≤ n
  · by_cases h2 : n ≤ hi
    · go_enter Tryz.func100, Tryz.ntmps100
      go_wp2
      go_ret
      exact ⟨ret_b (inB_yes h1 h2).symm, rfl⟩
    · go_enter Tryz.func100, Tryz.ntmps100
      go_wp2
      go_ret
      exact ⟨ret_b (inB_no (by omega)).symm, rfl⟩
  · have h2 : decide (lo ≤ n) = false := decide_eq_false h1
    go_enter Tryz.func100, Tryz.ntmps100
    go_wp2
    go_ret
    exact ⟨ret_b (inB_no (by omega)).symm, rfl⟩

def cdivI (a b : Int) : Int := if 0 ≤ a ∧ a ≤ 1000000000000 ∧ 1 ≤ b ∧ b ≤ 1000000000000 then (a + b - 1) / b else 0

def modI (a b : Int) : Int := if 1 ≤ b ∧ b ≤ 1000000000000 then a % b else 0
theorem tmod_neg_lt {a b : Int} (hb : 1 ≤ b) (h : a.tmod b < 0) : a.tmod b + b = a % b := by
  have := Int.emod_eq_add_self_emod (a := a) (b := b)
  rw [Int.tmod_eq_emod] at *
  split at h <;> rename_i hc
  · have := Int.emod_nonneg a (b := b) (by omega); omega
  · rw [if_neg hc]; have : (b.natAbs : Int) = b := by omega
    omega
theorem tmod_nonneg_eq {a b : Int} (hb : 1 ≤ b) (h : ¬ a.tmod b < 0) : a.tmod b = a % b := by
  rw [Int.tmod_eq_emod] at *
  split <;> rename_i hc
  · omega
  · rw [if_neg hc] at h; have : (b.natAbs : Int) = b := by omega
    have := Int.emod_lt_of_pos a (b := b) (by omega); omega
theorem tmod_bd {a b : Int} (hb : 1 ≤ b) : -b < a.tmod b ∧ a.tmod b < b := by
  have h1 := Int.emod_lt_of_pos a (b := b) (by omega)
  have h2 := Int.emod_nonneg a (b := b) (by omega)
  rw [Int.tmod_eq_emod]
  have : (b.natAbs : Int) = b := by omega
  split <;> omega

theorem mod_impl (a b : Int) (w : World) :
    Calls Tryz.prog 149 #[.int .i64 a, .int .i64 b] w fun e w' => e = .returned (.int .i64 (modI a b)) ∧ w = w' := by
  by_cases h1 : 1 ≤ b ∧ b ≤ 1000000000000
  · obtain ⟨h1, h2⟩ := h1
    have e1 : inB b 1 1000000000000 = true := inB_yes h1 h2
    have em : modI a b = a % b := by unfold modI; rw [if_pos ⟨h1, h2⟩]
    have Em := Lib.hid em; clear em
    by_cases h3 : 0 ≤ a
    · have h4 := Int.emod_nonneg a (b := b) (by omega)
      have h5 := Int.emod_lt_of_pos a (b := b) (by omega)
      go_enter Tryz.func149, Tryz.ntmps149
      go_wp2_with (go_at_call 97; refine (rin_any _ _ _ _).mono ?_; rintro e w' ⟨rfl, rfl⟩)
      go_ret
      exact ⟨ret_i Em.out.symm, rfl⟩
    · have hb := tmod_bd (a := a) h1
      obtain ⟨hb1, hb2⟩ := hb
      by_cases h4 : a.tmod b < 0
      · have e2 := tmod_neg_lt h1 h4
        have E2 := Lib.hid e2; clear e2
        go_enter Tryz.func149, Tryz.ntmps149
        go_wp2_with (go_at_call 97; refine (rin_any _ _ _ _).mono ?_; rintro e w' ⟨rfl, rfl⟩)
        go_ret
        exact ⟨ret_i (by rw [Em.out, ← E2.out]), rfl⟩
      · have e2 := tmod_nonneg_eq h1 h4
        have E2 := Lib.hid e2; clear e2
        go_enter Tryz.func149, Tryz.ntmps149
        go_wp2_with (go_at_call 97; refine (rin_any _ _ _ _).mono ?_; rintro e w' ⟨rfl, rfl⟩)
        go_ret
        exact ⟨ret_i (by rw [Em.out, ← E2.out]), rfl⟩
  · have e1 : inB b 1 1000000000000 = false := inB_no (by omega)
    go_enter Tryz.func149, Tryz.ntmps149
    go_wp2_with (go_at_call 97; refine (rin_any _ _ _ _).mono ?_; rintro e w' ⟨rfl, rfl⟩)
    go_ret
    exact ⟨ret_i (by unfold modI; rw [if_neg h1]), rfl⟩

theorem add_mod_pos {a b : Int} (hb : 1 ≤ b) : (a.tmod b + b) % b = a % b := by
  rw [Int.add_emod_right, Int.tmod_eq_emod]
  split
  · simp
  · have : (b.natAbs : Int) = b := by omega
    rw [this, Int.sub_emod_right, Int.emod_emod]
theorem mod_spec (a b : Int) (w : World) :
    Calls Tryz.prog 145 #[.int .i64 a, .int .i64 b] w fun e w' => e = .returned (.int .i64 (modI a b)) ∧ w = w' := by
  by_cases h1 : 1 ≤ b ∧ b ≤ 1000000000000
  · obtain ⟨h1, h2⟩ := h1
    have e1 : inB b 1 1000000000000 = true := inB_yes h1 h2
    have em : modI a b = a % b := by unfold modI; rw [if_pos ⟨h1, h2⟩]
    have Em := Lib.hid em; clear em
    by_cases h3 : 0 ≤ a
    · have h4 := Int.emod_nonneg a (b := b) (by omega)
      have h5 := Int.emod_lt_of_pos a (b := b) (by omega)
      go_enter Tryz.func145, Tryz.ntmps145
      go_wp2_with (go_at_call 100; refine (lin_any _ _ _ _).mono ?_; rintro e w' ⟨rfl, rfl⟩)
      go_ret
      exact ⟨ret_i (by rw [Em.out]; simp), rfl⟩
    · have hb := tmod_bd (a := a) h1
      obtain ⟨hb1, hb2⟩ := hb
      have hb3 : 0 ≤ a.tmod b + b := by omega
      have E2 := Lib.hid (add_mod_pos (a := a) h1)
      go_enter Tryz.func145, Tryz.ntmps145
      go_wp2_with (go_at_call 100; refine (lin_any _ _ _ _).mono ?_; rintro e w' ⟨rfl, rfl⟩)
      go_ret
      exact ⟨ret_i (by rw [Em.out, ← E2.out]), rfl⟩
  · have e1 : inB b 1 1000000000000 = false := inB_no (by omega)
    go_enter Tryz.func145, Tryz.ntmps145
    go_wp2_with (go_at_call 100; refine (lin_any _ _ _ _).mono ?_; rintro e w' ⟨rfl, rfl⟩)
    go_ret
    exact ⟨ret_i (by unfold modI; rw [if_neg h1]), rfl⟩

def minI (a b : Int) : Int := if b < a then b else a
def maxI (a b : Int) : Int := if a < b then b else a

end Go.Proofs.YtkjjiinccljhjaaGreatDoor
namespace Go.Proofs.YtkjjiinccljhjaaGreatDoor
open Go.ChangeShapes Go.WideShapes Go.ChangeAt Go.RowKit

def isLow (b : UInt8) : Bool := decide (97 ≤ b.toNat ∧ b.toNat ≤ 122)
/-- A name: 1 to 8 small letters. -/
def isNm (s : ByteArray) : Bool := decide (1 ≤ s.size ∧ s.size ≤ 8) && s.data.toList.all isLow
theorem get_at {s : ByteArray} {k : Nat} (h : k < s.size) : s.data.toList[k]? = some s[k] := by
  have h2 : k < s.data.toList.length := by rw [Array.length_toList]; exact h
  rw [List.getElem?_eq_getElem h2]; rfl
/-- The first k bytes are letters. -/
def lowTo (s : ByteArray) (k : Nat) : Prop := ∀ j (h : j < s.size), j < k → isLow s[j] = true
theorem lowTo.zero (s : ByteArray) : lowTo s 0 := fun _ _ h => absurd h (Nat.not_lt_zero _)
theorem lowTo.succ {s : ByteArray} {k : Nat} (h : lowTo s k) (hk : k < s.size) (h1 : (97 : Int) ≤ (s[k].toNat : Int)) (h2 : (s[k].toNat : Int) ≤ 122) : lowTo s (k + 1) := by
  intro j hj hjk
  by_cases e : j = k
  · subst e; unfold isLow; exact decide_eq_true (by omega)
  · exact h j hj (by omega)
theorem isNm_full {s : ByteArray} {k : Nat} (h : lowTo s k) (hk : k = s.size) : isNm s = decide (1 ≤ s.size ∧ s.size ≤ 8) := by
  unfold isNm
  have : s.data.toList.all isLow = true := by
    rw [List.all_eq_true]
    intro b hb
    obtain ⟨j, hj⟩ := List.mem_iff_getElem?.1 hb
    have hjs : j < s.size := by
      have := (List.getElem?_eq_some_iff.1 hj).1
      rwa [Array.length_toList] at this
    rw [get_at hjs] at hj
    cases hj
    exact h j hjs (by omega)
  rw [this, Bool.and_true]
theorem isNm_bad {s : ByteArray} {k : Nat} (hk : k < s.size) (h : (s[k].toNat : Int) < 97 ∨ 122 < (s[k].toNat : Int)) : isNm s = false := by
  unfold isNm
  have : s.data.toList.all isLow = false := by
    rw [Bool.eq_false_iff]
    intro hall
    have := List.all_eq_true.1 hall s[k] (List.mem_iff_getElem?.2 ⟨k, get_at hk⟩)
    unfold isLow at this
    have := of_decide_eq_true this
    omega
  rw [this, Bool.and_false]
theorem isNm_len {s : ByteArray} (h : ¬ (1 ≤ s.size ∧ s.size ≤ 8)) : isNm s = false := by
  unfold isNm; rw [decide_eq_false h, Bool.false_and]

theorem inB_size (s : ByteArray) : inB s.size 1 8 = decide (1 ≤ s.size ∧ s.size ≤ 8) := by
  unfold inB
  apply decide_eq_decide.2
  omega

set_option maxHeartbeats 1000000 in
theorem nm_impl (s : ByteArray) (hs : s.size ≤ 9223372036854775807) (w : World) :
    Calls Tryz.prog 142 #[.string s] w fun e w' => e = .returned (.bool (isNm s)) ∧ w = w' := by
  by_cases hl : 1 ≤ (s.size : Int) ∧ (s.size : Int) ≤ 8
  · obtain ⟨hl1, hl2⟩ := hl
    have e1 : inB s.size 1 8 = true := inB_yes hl1 hl2
    go_enter Tryz.func142, Tryz.ntmps142
    go_wp2_with (go_at_call 97; refine (rin_any _ _ _ _).mono ?_; rintro e w' ⟨rfl, rfl⟩)
    go_loop [10] (fun i => ∃ (k : Nat), k ≤ s.size ∧ i = .int .i64 k ∧ lowTo s k) (fun i => s.size - (intOf i).toNat)
    case atStart => exact ⟨0, Nat.zero_le _, rfl, lowTo.zero s⟩
    case round =>
      obtain ⟨k, hk, rfl, hv⟩ := hrel
      have HV := Lib.hid hv; clear hv
      by_cases hlt : k < s.size
      · have hlt2 : decide ((k : Int) < (s.size : Int)) = true := by simp; omega
        have hb8 : (s[k].toNat : Int) < 256 := by have := UInt8.toNat_lt s[k]; omega
        by_cases hd1 : (s[k].toNat : Int) < 97
        · have HN := Lib.hid (isNm_bad hlt (Or.inl hd1))
          go_wp2
          go_ret
          exact ⟨ret_b HN.out.symm, rfl⟩
        · have hd1' : decide ((s[k].toNat : Int) < 97) = false := decide_eq_false hd1
          by_cases hd2 : 122 < (s[k].toNat : Int)
          · have HN := Lib.hid (isNm_bad hlt (Or.inr hd2))
            go_wp2
            go_ret
            exact ⟨ret_b HN.out.symm, rfl⟩
          · go_wp2
            go_round
            case rel => exact ⟨k + 1, by omega, by go_num, HV.out.succ hlt (by omega) (by omega)⟩
            case measure => simp [intOf]; omega
      · have HN := Lib.hid (isNm_full HV.out (by omega))
        go_wp2
        go_ret
        exact ⟨ret_b (by rw [HN.out]; exact (decide_eq_true (by omega)).symm), rfl⟩
  · have e1 : inB s.size 1 8 = false := inB_no (by omega)
    have HN := Lib.hid (isNm_len (s := s) (by omega))
    go_enter Tryz.func142, Tryz.ntmps142
    go_wp2_with (go_at_call 97; refine (rin_any _ _ _ _).mono ?_; rintro e w' ⟨rfl, rfl⟩)
    go_ret
    exact ⟨ret_b HN.out.symm, rfl⟩

set_option maxHeartbeats 1000000 in
theorem nm_spec (s : ByteArray) (hs : s.size ≤ 9223372036854775807) (w : World) :
    Calls Tryz.prog 112 #[.string s] w fun e w' => e = .returned (.bool (isNm s)) ∧ w = w' := by
  go_enter Tryz.func112, Tryz.ntmps112
  go_wp2
  go_loop [3] (fun i => ∃ (k : Nat), k ≤ s.size ∧ i = .int .i64 k ∧ lowTo s k) (fun i => s.size - (intOf i).toNat)
  case atStart => exact ⟨0, Nat.zero_le _, rfl, lowTo.zero s⟩
  case round =>
    obtain ⟨k, hk, rfl, hv⟩ := hrel
    have HV := Lib.hid hv; clear hv
    by_cases hlt : k < s.size
    · have hlt2 : decide ((k : Int) < (s.size : Int)) = true := by simp; omega
      have hb8 : (s[k].toNat : Int) < 256 := by have := UInt8.toNat_lt s[k]; omega
      by_cases hd1 : (s[k].toNat : Int) < 97
      · have HN := Lib.hid (isNm_bad hlt (Or.inl hd1))
        go_wp2
        go_ret
        exact ⟨ret_b HN.out.symm, rfl⟩
      · have hd1' : decide ((s[k].toNat : Int) < 97) = false := decide_eq_false hd1
        by_cases hd2 : 122 < (s[k].toNat : Int)
        · have HN := Lib.hid (isNm_bad hlt (Or.inr hd2))
          go_wp2
          go_ret
          exact ⟨ret_b HN.out.symm, rfl⟩
        · go_wp2
          go_round
          case rel => exact ⟨k + 1, by omega, by go_num, HV.out.succ hlt (by omega) (by omega)⟩
          case measure => simp [intOf]; omega
    · have HN := Lib.hid (isNm_full HV.out (by omega))
      have HE := Lib.hid (inB_size s)
      go_wp2_with fail
      refine (lin_any _ _ _ _).mono ?_
      rintro e w' ⟨rfl, rfl⟩
      go_wp2
      go_ret
      exact ⟨ret_b (by rw [HN.out, HE.out]), rfl⟩

end Go.Proofs.YtkjjiinccljhjaaGreatDoor
namespace Go.Proofs.YtkjjiinccljhjaaGreatDoor
def isVc (b : UInt8) : Bool := decide ((97 ≤ b.toNat ∧ b.toNat ≤ 122) ∨ (48 ≤ b.toNat ∧ b.toNat ≤ 57) ∨ b.toNat = 47)
/-- A value: 1 to 20 small letters, digits or slashes. -/
def isVal (s : ByteArray) : Bool := decide (1 ≤ s.size ∧ s.size ≤ 20) && s.data.toList.all isVc

/-- A token: kind, name, attributes, text. -/
structure Tok where
  kind : Int
  name : ByteArray
  attrs : List (ByteArray × ByteArray)
  text : ByteArray
def tokZero : Tok := ⟨0, ⟨#[]⟩, [], ⟨#[]⟩⟩
def tokClose (n : ByteArray) : Tok := ⟨2, n, [], ⟨#[]⟩⟩
def tokOpen (n : ByteArray) (ats : List (ByteArray × ByteArray)) : Tok := ⟨1, n, ats, ⟨#[]⟩⟩
def tokText (t : ByteArray) : Tok := ⟨3, ⟨#[]⟩, [], t⟩

/-- The first attribute of this name. -/
def findA (ats : List (ByteArray × ByteArray)) (n : ByteArray) : Option ByteArray := match ats with
  | [] => none
  | a :: ats => if a.1 = n then some a.2 else findA ats n
/-- KEY=VALUE. -/
def attrB (p : List UInt8) : Option (ByteArray × ByteArray) := match splitB 61 p with
  | [k, v] => if isNm (ofL k) = true ∧ isVal (ofL v) = true then some (ofL k, ofL v) else none
  | _ => none
/-- The attributes behind those that were taken. -/
def attrsB : List (List UInt8) → List (ByteArray × ByteArray) → Option (List (ByteArray × ByteArray))
  | [], acc => some acc
  | p :: ps, acc => match attrB p with
    | none => none
    | some a => if (findA acc a.1).isSome then none else attrsB ps (acc ++ [a])
def tagB (l : List UInt8) : Option Tok :=
  if 60 < l.length then none else
  match l with
  | 47 :: r => if isNm (ofL r) = true then some (tokClose (ofL r)) else none
  | _ => match splitB 32 l with
    | [] => none
    | n :: ps => match attrsB ps [] with
      | none => none
      | some ats => if isNm (ofL n) = true ∧ ats.length ≤ 4 then some (tokOpen (ofL n) ats) else none

def fmtAs : List (ByteArray × ByteArray) → List UInt8
  | [] => []
  | a :: ats => 32 :: a.1.data.toList ++ 61 :: a.2.data.toList ++ fmtAs ats
/-- The form of a token. -/
def fmtT (t : Tok) : List UInt8 :=
  if t.kind = 1 then 60 :: (t.name.data.toList ++ fmtAs t.attrs) ++ [62]
  else if t.kind = 2 then 60 :: 47 :: t.name.data.toList ++ [62]
  else if t.kind = 3 then t.text.data.toList
  else []
theorem fmtAs_append (ats bs : List (ByteArray × ByteArray)) : fmtAs (ats ++ bs) = fmtAs ats ++ fmtAs bs := by
  induction ats with
  | nil => rfl
  | cons a ats ih => show 32 :: _ ++ _ ++ fmtAs (ats ++ bs) = _; rw [ih]; simp [fmtAs]

theorem attrB_form {p : List UInt8} {a : ByteArray × ByteArray} (h : attrB p = some a) : a.1.data.toList ++ 61 :: a.2.data.toList = p := by
  have hj := joinB_split 61 p
  unfold attrB at h
  split at h
  · rename_i k v hs
    split at h
    · cases h
      rw [hs] at hj
      rw [← hj]; rfl
    · cases h
  · cases h
theorem attrsB_form : ∀ {ps : List (List UInt8)} {acc ats : List (ByteArray × ByteArray)}, attrsB ps acc = some ats → ∃ bs, ats = acc ++ bs ∧ bs.length = ps.length ∧ fmtAs bs = (ps.map fun p => 32 :: p).flatten
  | [], acc, ats, h => ⟨[], by cases h; simp, rfl, rfl⟩
  | p :: ps, acc, ats, h => by
    unfold attrsB at h
    cases ha : attrB p with
    | none => rw [ha] at h; cases h
    | some a =>
      rw [ha] at h
      simp only at h
      split at h
      · cases h
      · obtain ⟨bs, h1, h2, h3⟩ := attrsB_form h
        refine ⟨a :: bs, by rw [h1]; simp, by simp [h2], ?_⟩
        show 32 :: _ ++ _ ++ fmtAs bs = _
        rw [h3, List.map_cons, List.flatten_cons, ← attrB_form ha]
        simp
theorem joinB_flat (c : UInt8) (n : List UInt8) : ∀ ps : List (List UInt8), joinB c (n :: ps) = n ++ (ps.map fun p => c :: p).flatten
  | [] => by show n = _; simp
  | q :: ps => by
    rw [joinB_cons _ _ (List.cons_ne_nil _ _), joinB_flat c q ps]; simp
/-- The token of a tag has the tag as its form. -/
theorem tagB_form {l : List UInt8} {t : Tok} (h : tagB l = some t) : fmtT t = 60 :: l ++ [62] := by
  unfold tagB at h
  split at h
  · cases h
  · split at h
    · split at h
      · cases h; rfl
      · cases h
    · have hj := joinB_split 32 l
      cases hs : splitB 32 l with
      | nil => exact absurd hs (splitB_ne _ _)
      | cons n ps =>
        rw [hs] at h hj
        simp only at h
        cases ha : attrsB ps [] with
        | none => rw [ha] at h; cases h
        | some ats =>
          rw [ha] at h
          simp only at h
          split at h
          · cases h
            obtain ⟨bs, h1, _, h3⟩ := attrsB_form ha
            rw [List.nil_append] at h1; subst h1
            rw [joinB_flat] at hj
            show 60 :: ((ofL n).data.toList ++ fmtAs ats) ++ [62] = _
            rw [h3, ofL_list, hj]
          · cases h
theorem tagB_kind {l : List UInt8} {t : Tok} (h : tagB l = some t) : t.kind = 1 ∨ t.kind = 2 := by
  unfold tagB at h
  split at h
  · cases h
  · split at h
    · split at h
      · cases h; exact Or.inr rfl
      · cases h
    · split at h
      · cases h
      · split at h
        · cases h
        · split at h
          · cases h; exact Or.inl rfl
          · cases h
theorem tagB_long {l : List UInt8} (h : 60 < l.length) : tagB l = none := by unfold tagB; rw [if_pos h]
theorem tagB_short {l : List UInt8} {t : Tok} (h : tagB l = some t) : l.length ≤ 60 := by
  rcases Nat.lt_or_ge 60 l.length with h1 | h1
  · rw [tagB_long h1] at h; cases h
  · exact h1
theorem tagB_close {r : List UInt8} (h : r.length < 60) : tagB (47 :: r) = if isNm (ofL r) = true then some (tokClose (ofL r)) else none := by
  unfold tagB; rw [if_neg (by simp; omega)]; rfl
theorem tagB_open {l : List UInt8} {n : List UInt8} {ps : List (List UInt8)} (h : l.length ≤ 60) (h0 : l[0]? ≠ some 47) (hs : splitB 32 l = n :: ps) :
    tagB l = match attrsB ps [] with
      | none => none
      | some ats => if isNm (ofL n) = true ∧ ats.length ≤ 4 then some (tokOpen (ofL n) ats) else none := by
  unfold tagB
  rw [if_neg (by omega)]
  split
  · exact absurd rfl h0
  · rw [hs]

/-- A text divided into tokens, and what remains. -/
def feedB (x : List UInt8) : List Tok × List UInt8 :=
  if h : 0 < idxB 60 x ∧ idxB 60 x < x.length then
    (tokText (ofL (x.take (idxB 60 x))) :: (feedB (x.drop (idxB 60 x))).1, (feedB (x.drop (idxB 60 x))).2)
  else if h2 : idxB 60 x = 0 ∧ idxB 62 x < x.length then
    ((tagB ((x.take (idxB 62 x)).drop 1)).toList ++ (feedB (x.drop (idxB 62 x + 1))).1, (feedB (x.drop (idxB 62 x + 1))).2)
  else ([], x)
termination_by x.length
decreasing_by all_goals simp only [List.length_drop]; omega
theorem feed_text {x : List UInt8} (h1 : 0 < idxB 60 x) (h2 : idxB 60 x < x.length) :
    feedB x = (tokText (ofL (x.take (idxB 60 x))) :: (feedB (x.drop (idxB 60 x))).1, (feedB (x.drop (idxB 60 x))).2) := by
  rw [feedB, dif_pos ⟨h1, h2⟩]
theorem feed_tag {x : List UInt8} (h1 : idxB 60 x = 0) (h2 : idxB 62 x < x.length) :
    feedB x = ((tagB ((x.take (idxB 62 x)).drop 1)).toList ++ (feedB (x.drop (idxB 62 x + 1))).1, (feedB (x.drop (idxB 62 x + 1))).2) := by
  rw [feedB, dif_neg (by omega), dif_pos ⟨h1, h2⟩]
theorem feed_end {x : List UInt8} (h : idxB 60 x ≠ 0 ∨ idxB 62 x = x.length) (h2 : ¬ (0 < idxB 60 x ∧ idxB 60 x < x.length)) : feedB x = ([], x) := by
  rw [feedB, dif_neg h2, dif_neg (by omega)]
theorem feed_nil : feedB [] = ([], []) := feed_end (Or.inr rfl) (by simp)
/-- Feeding two texts one behind the other. -/
theorem feed_append (a b : List UInt8) : feedB (a ++ b) = ((feedB a).1 ++ (feedB ((feedB a).2 ++ b)).1, (feedB ((feedB a).2 ++ b)).2) := by
  generalize hn : a.length = n
  induction n using Nat.strongRecOn generalizing a with
  | _ n ih =>
    by_cases h1 : 0 < idxB 60 a ∧ idxB 60 a < a.length
    · have e := idxB_lt_append b h1.2
      rw [feed_text h1.1 h1.2, feed_text (x := a ++ b) (by omega) (by rw [e, List.length_append]; omega), e,
        List.take_append_of_le_length (by omega), List.drop_append_of_le_length (by omega),
        ih (a.length - idxB 60 a) (by omega) (a.drop (idxB 60 a)) List.length_drop]
      rfl
    · by_cases h2 : idxB 60 a = 0 ∧ idxB 62 a < a.length
      · have e := idxB_lt_append b h2.2
        have e0 : idxB 60 (a ++ b) = 0 := by rw [idxB_lt_append b (by omega)]; exact h2.1
        rw [feed_tag h2.1 h2.2, feed_tag (x := a ++ b) e0 (by rw [e, List.length_append]; omega), e,
          List.take_append_of_le_length (by omega), List.drop_append_of_le_length (by omega),
          ih (a.length - (idxB 62 a + 1)) (by omega) (a.drop (idxB 62 a + 1)) List.length_drop]
        simp only [List.append_assoc]
      · have hl := idxB_le 60 a
        have hl2 := idxB_le 62 a
        rw [feed_end (x := a) (by omega) h1]
        rfl
/-- One more piece. -/
theorem feed_more {s r : List UInt8} {a b : Nat} {acc : List Tok} (hab : a ≤ b) (h : feedB (s.take a) = (acc, r)) :
    feedB (s.take b) = (acc ++ (feedB (r ++ (s.take b).drop a)).1, (feedB (r ++ (s.take b).drop a)).2) := by
  have e : s.take b = s.take a ++ (s.take b).drop a := by
    conv => lhs; rw [← List.take_append_drop a (s.take b)]
    rw [List.take_take, Nat.min_eq_left hab]
  conv => lhs; rw [e]
  rw [feed_append, h]
/-- What a page's end gives. -/
def endB (r : List UInt8) : List Tok := if r = [] ∨ r[0]? = some 60 then [] else [tokText (ofL r)]
def tokensB (s : List UInt8) : List Tok := (feedB s).1 ++ endB (feedB s).2
/-- A token as texts give it: of a kind, and no text is empty. -/
def GoodT (t : Tok) : Prop := (t.kind = 1 ∨ t.kind = 2) ∨ t.kind = 3 ∧ fmtT t ≠ []
theorem goodT_text {l : List UInt8} (h : l ≠ []) : GoodT (tokText (ofL l)) := Or.inr ⟨rfl, h⟩
theorem feed_good (a : List UInt8) : ∀ t ∈ (feedB a).1, GoodT t := by
  generalize hn : a.length = n
  induction n using Nat.strongRecOn generalizing a with
  | _ n ih =>
    by_cases h1 : 0 < idxB 60 a ∧ idxB 60 a < a.length
    · rw [feed_text h1.1 h1.2]
      intro t ht
      rcases List.mem_cons.1 ht with h | h
      · subst h
        exact goodT_text (by intro hc; have := congrArg List.length hc; rw [List.length_take, List.length_nil] at this; omega)
      · exact ih (a.length - idxB 60 a) (by omega) (a.drop (idxB 60 a)) List.length_drop t h
    · by_cases h2 : idxB 60 a = 0 ∧ idxB 62 a < a.length
      · rw [feed_tag h2.1 h2.2]
        intro t ht
        rcases List.mem_append.1 ht with h | h
        · exact Or.inl (tagB_kind (Option.mem_toList.1 h))
        · exact ih (a.length - (idxB 62 a + 1)) (by omega) (a.drop (idxB 62 a + 1)) List.length_drop t h
      · have hl := idxB_le 60 a
        have hl2 := idxB_le 62 a
        rw [feed_end (x := a) (by omega) h1]
        intro t ht; cases ht
theorem tokens_good (s : List UInt8) : ∀ t ∈ tokensB s, GoodT t := by
  intro t ht
  rcases List.mem_append.1 ht with h | h
  · exact feed_good s t h
  · unfold endB at h
    split at h
    · cases h
    · rename_i hn
      rw [List.mem_singleton] at h; subst h
      exact goodT_text fun e => hn (Or.inl e)
theorem feed_size (a : List UInt8) : (feedB a).1.length + (feedB a).2.length ≤ a.length ∧ (feedB a).2.length ≤ a.length := by
  generalize hn : a.length = n
  induction n using Nat.strongRecOn generalizing a with
  | _ n ih =>
    by_cases h1 : 0 < idxB 60 a ∧ idxB 60 a < a.length
    · rw [feed_text h1.1 h1.2]
      have := ih (a.length - idxB 60 a) (by omega) (a.drop (idxB 60 a)) List.length_drop
      simp only [List.length_cons]; omega
    · by_cases h2 : idxB 60 a = 0 ∧ idxB 62 a < a.length
      · rw [feed_tag h2.1 h2.2]
        have := ih (a.length - (idxB 62 a + 1)) (by omega) (a.drop (idxB 62 a + 1)) List.length_drop
        have h3 : (tagB ((a.take (idxB 62 a)).drop 1)).toList.length ≤ 1 := by cases tagB ((a.take (idxB 62 a)).drop 1) <;> simp
        simp only [List.length_append]; omega
      · have hl := idxB_le 60 a
        have hl2 := idxB_le 62 a
        rw [feed_end (x := a) (by omega) h1]
        simp; omega
theorem tokens_size (s : List UInt8) : (tokensB s).length ≤ s.length + 1 := by
  have := feed_size s
  unfold tokensB endB
  rw [List.length_append]
  split <;> simp <;> omega
/-- The tokens of one tag. -/
theorem tokens_one {l : List UInt8} (h : ∀ b ∈ l, b ≠ 62) : tokensB (60 :: l ++ [62]) = (tagB l).toList := by
  have e0 : idxB 60 (60 :: l ++ [62]) = 0 := rfl
  have e1 : idxB 62 (60 :: l ++ [62]) = l.length + 1 := by
    have h2 : ∀ b ∈ (60 :: l), b ≠ (62 : UInt8) := by
      intro b hb
      rcases List.mem_cons.1 hb with h3 | h3
      · rw [h3]; decide
      · exact h b h3
    have := idxB_free_append [] h2
    simpa using this
  unfold tokensB
  rw [feed_tag e0 (by rw [e1]; simp), e1]
  have e2 : (60 :: l ++ [62]).drop (l.length + 1 + 1) = [] := List.drop_of_length_le (by simp)
  rw [e2, feed_nil]
  have e3 : ((60 :: l ++ [62]).take (l.length + 1)).drop 1 = l := by
    show ((60 :: (l ++ [62])).take (l.length + 1)).drop 1 = l
    rw [List.take_succ_cons, List.drop_succ_cons, List.drop_zero, List.take_left]
  rw [e3]
  simp [endB]

end Go.Proofs.YtkjjiinccljhjaaGreatDoor
namespace Go.Proofs.YtkjjiinccljhjaaGreatDoor
open Go.ChangeShapes Go.WideShapes Go.ChangeAt Go.RowKit

def isVcI (c : Int) : Bool := decide ((97 ≤ c ∧ c ≤ 122) ∨ (48 ≤ c ∧ c ≤ 57) ∨ c = 47)
theorem vc_of {b : UInt8} : isVc b = isVcI (b.toNat : Int) := by
  unfold isVc isVcI
  exact decide_eq_decide.2 (by omega)
theorem vc_yes {c : Int} (h : (97 ≤ c ∧ c ≤ 122) ∨ (48 ≤ c ∧ c ≤ 57) ∨ c = 47) : isVcI c = true := decide_eq_true h
theorem vc_no {c : Int} (h : ¬ ((97 ≤ c ∧ c ≤ 122) ∨ (48 ≤ c ∧ c ≤ 57) ∨ c = 47)) : isVcI c = false := decide_eq_false h
/-- The first k bytes are those of a value. -/
def valTo (s : ByteArray) (k : Nat) : Prop := ∀ j (h : j < s.size), j < k → isVc s[j] = true
theorem valTo.zero (s : ByteArray) : valTo s 0 := fun _ _ h => absurd h (Nat.not_lt_zero _)
theorem valTo.succ {s : ByteArray} {k : Nat} (h : valTo s k) (hk : k < s.size) (h1 : isVcI (s[k].toNat : Int) = true) : valTo s (k + 1) := by
  intro j hj hjk
  by_cases e : j = k
  · subst e; rw [vc_of]; exact h1
  · exact h j hj (by omega)
theorem isVal_full {s : ByteArray} {k : Nat} (h : valTo s k) (hk : k = s.size) : isVal s = decide (1 ≤ s.size ∧ s.size ≤ 20) := by
  unfold isVal
  have : s.data.toList.all isVc = true := by
    rw [List.all_eq_true]
    intro b hb
    obtain ⟨j, hj⟩ := List.mem_iff_getElem?.1 hb
    have hjs : j < s.size := by
      have := (List.getElem?_eq_some_iff.1 hj).1
      rwa [Array.length_toList] at this
    rw [get_at hjs] at hj
    cases hj
    exact h j hjs (by omega)
  rw [this, Bool.and_true]
theorem isVal_bad {s : ByteArray} {k : Nat} (hk : k < s.size) (h : isVcI (s[k].toNat : Int) = false) : isVal s = false := by
  unfold isVal
  have : s.data.toList.all isVc = false := by
    rw [Bool.eq_false_iff]
    intro hall
    have := List.all_eq_true.1 hall s[k] (List.mem_iff_getElem?.2 ⟨k, get_at hk⟩)
    rw [vc_of, h] at this
    cases this
  rw [this, Bool.and_false]
theorem isVal_len {s : ByteArray} (h : ¬ (1 ≤ s.size ∧ s.size ≤ 20)) : isVal s = false := by
  unfold isVal; rw [decide_eq_false h, Bool.false_and]
theorem inB_size20 (s : ByteArray) : inB s.size 1 20 = decide (1 ≤ s.size ∧ s.size ≤ 20) := by
  unfold inB
  apply decide_eq_decide.2
  omega
theorem cls (c : Int) : c < 47 ∨ c = 47 ∨ (48 ≤ c ∧ c ≤ 57) ∨ (57 < c ∧ c < 97) ∨ (97 ≤ c ∧ c ≤ 122) ∨ 122 < c := by omega

set_option maxHeartbeats 1000000 in
theorem vb_any (c : Int) (w : World) :
    Calls Tryz.prog 181 #[.int .u8 c] w fun e w' => e = .returned (.bool (isVcI c)) ∧ w = w' := by
  rcases cls c with h | h | h | h | h | h
  · have HV := Lib.hid (vc_no (c := c) (by omega))
    have va : decide (c < 97) = true := decide_eq_true (by omega)
    have vb : decide (122 < c) = false := decide_eq_false (by omega)
    have vc : decide (c < 48) = true := decide_eq_true (by omega)
    have vd : decide (57 < c) = false := decide_eq_false (by omega)
    have ve : decide (97 ≤ c) = false := decide_eq_false (by omega)
    have vf : decide (c ≤ 122) = true := decide_eq_true (by omega)
    have vg : decide (48 ≤ c) = false := decide_eq_false (by omega)
    have vh : decide (c ≤ 57) = true := decide_eq_true (by omega)
    have vz : (c == 47) = false := beq_eq_false_iff_ne.2 (by omega)
    go_enter Tryz.func181, Tryz.ntmps181
    go_wp2
    go_ret
    exact ⟨ret_b HV.out.symm, rfl⟩
  · have HV := Lib.hid (vc_yes (c := c) (by omega))
    have va : decide (c < 97) = true := decide_eq_true (by omega)
    have vb : decide (122 < c) = false := decide_eq_false (by omega)
    have vc : decide (c < 48) = true := decide_eq_true (by omega)
    have vd : decide (57 < c) = false := decide_eq_false (by omega)
    have ve : decide (97 ≤ c) = false := decide_eq_false (by omega)
    have vf : decide (c ≤ 122) = true := decide_eq_true (by omega)
    have vg : decide (48 ≤ c) = false := decide_eq_false (by omega)
    have vh : decide (c ≤ 57) = true := decide_eq_true (by omega)
    have vz : (c == 47) = true := beq_iff_eq.2 (by omega)
    subst h
    go_enter Tryz.func181, Tryz.ntmps181
    go_wp2
    go_ret
    exact ⟨ret_b HV.out.symm, rfl⟩
  · have HV := Lib.hid (vc_yes (c := c) (by omega))
    have va : decide (c < 97) = true := decide_eq_true (by omega)
    have vb : decide (122 < c) = false := decide_eq_false (by omega)
    have vc : decide (c < 48) = false := decide_eq_false (by omega)
    have vd : decide (57 < c) = false := decide_eq_false (by omega)
    have ve : decide (97 ≤ c) = false := decide_eq_false (by omega)
    have vf : decide (c ≤ 122) = true := decide_eq_true (by omega)
    have vg : decide (48 ≤ c) = true := decide_eq_true (by omega)
    have vh : decide (c ≤ 57) = true := decide_eq_true (by omega)
    have vz : (c == 47) = false := beq_eq_false_iff_ne.2 (by omega)
    go_enter Tryz.func181, Tryz.ntmps181
    go_wp2
    go_ret
    exact ⟨ret_b HV.out.symm, rfl⟩
  · have HV := Lib.hid (vc_no (c := c) (by omega))
    have va : decide (c < 97) = true := decide_eq_true (by omega)
    have vb : decide (122 < c) = false := decide_eq_false (by omega)
    have vc : decide (c < 48) = false := decide_eq_false (by omega)
    have vd : decide (57 < c) = true := decide_eq_true (by omega)
    have ve : decide (97 ≤ c) = false := decide_eq_false (by omega)
    have vf : decide (c ≤ 122) = true := decide_eq_true (by omega)
    have vg : decide (48 ≤ c) = true := decide_eq_true (by omega)
    have vh : decide (c ≤ 57) = false := decide_eq_false (by omega)
    have vz : (c == 47) = false := beq_eq_false_iff_ne.2 (by omega)
    go_enter Tryz.func181, Tryz.ntmps181
    go_wp2
    go_ret
    exact ⟨ret_b HV.out.symm, rfl⟩
  · have HV := Lib.hid (vc_yes (c := c) (by omega))
    have va : decide (c < 97) = false := decide_eq_false (by omega)
    have vb : decide (122 < c) = false := decide_eq_false (by omega)
    have vc : decide (c < 48) = false := decide_eq_false (by omega)
    have vd : decide (57 < c) = true := decide_eq_true (by omega)
    have ve : decide (97 ≤ c) = true := decide_eq_true (by omega)
    have vf : decide (c ≤ 122) = true := decide_eq_true (by omega)
    have vg : decide (48 ≤ c) = true := decide_eq_true (by omega)
    have vh : decide (c ≤ 57) = false := decide_eq_false (by omega)
    have vz : (c == 47) = false := beq_eq_false_iff_ne.2 (by omega)
    go_enter Tryz.func181, Tryz.ntmps181
    go_wp2
    go_ret
    exact ⟨ret_b HV.out.symm, rfl⟩
  · have HV := Lib.hid (vc_no (c := c) (by omega))
    have va : decide (c < 97) = false := decide_eq_false (by omega)
    have vb : decide (122 < c) = true := decide_eq_true (by omega)
    have vc : decide (c < 48) = false := decide_eq_false (by omega)
    have vd : decide (57 < c) = true := decide_eq_true (by omega)
    have ve : decide (97 ≤ c) = true := decide_eq_true (by omega)
    have vf : decide (c ≤ 122) = false := decide_eq_false (by omega)
    have vg : decide (48 ≤ c) = true := decide_eq_true (by omega)
    have vh : decide (c ≤ 57) = false := decide_eq_false (by omega)
    have vz : (c == 47) = false := beq_eq_false_iff_ne.2 (by omega)
    go_enter Tryz.func181, Tryz.ntmps181
    go_wp2
    go_ret
    exact ⟨ret_b HV.out.symm, rfl⟩

set_option maxHeartbeats 1000000 in
theorem val_impl (s : ByteArray) (hs : s.size ≤ 9223372036854775807) (w : World) :
    Calls Tryz.prog 143 #[.string s] w fun e w' => e = .returned (.bool (isVal s)) ∧ w = w' := by
  by_cases hl : 1 ≤ (s.size : Int) ∧ (s.size : Int) ≤ 20
  · obtain ⟨hl1, hl2⟩ := hl
    have e1 : inB s.size 1 20 = true := inB_yes hl1 hl2
    go_enter Tryz.func143, Tryz.ntmps143
    go_wp2_with (go_at_call 97; refine (rin_any _ _ _ _).mono ?_; rintro e w' ⟨rfl, rfl⟩)
    go_loop [10] (fun i => ∃ (k : Nat), k ≤ s.size ∧ i = .int .i64 k ∧ valTo s k) (fun i => s.size - (intOf i).toNat)
    case atStart => exact ⟨0, Nat.zero_le _, rfl, valTo.zero s⟩
    case round =>
      obtain ⟨k, hk, rfl, hv⟩ := hrel
      have HV := Lib.hid hv; clear hv
      by_cases hlt : k < s.size
      · have hlt2 : decide ((k : Int) < (s.size : Int)) = true := by simp; omega
        have hb8 : (s[k].toNat : Int) < 256 := by have := UInt8.toNat_lt s[k]; omega
        cases hd : isVcI (s[k].toNat : Int) with
        | false =>
          have HN := Lib.hid (isVal_bad hlt hd)
          go_wp2_with (go_at_call 181; refine (vb_any _ _).mono ?_; rintro e w' ⟨rfl, rfl⟩)
          go_ret
          exact ⟨ret_b HN.out.symm, rfl⟩
        | true =>
          have HS := Lib.hid (HV.out.succ hlt hd)
          go_wp2_with (go_at_call 181; refine (vb_any _ _).mono ?_; rintro e w' ⟨rfl, rfl⟩)
          go_round
          case rel => exact ⟨k + 1, by omega, by go_num, HS.out⟩
          case measure => simp [intOf]; omega
      · have HN := Lib.hid (isVal_full HV.out (by omega))
        go_wp2
        go_ret
        exact ⟨ret_b (by rw [HN.out]; exact (decide_eq_true (by omega)).symm), rfl⟩
  · have e1 : inB s.size 1 20 = false := inB_no (by omega)
    have HN := Lib.hid (isVal_len (s := s) (by omega))
    go_enter Tryz.func143, Tryz.ntmps143
    go_wp2_with (go_at_call 97; refine (rin_any _ _ _ _).mono ?_; rintro e w' ⟨rfl, rfl⟩)
    go_ret
    exact ⟨ret_b HN.out.symm, rfl⟩

set_option maxRecDepth 100000 in
set_option maxHeartbeats 2000000 in
theorem val_spec (s : ByteArray) (hs : s.size ≤ 9223372036854775807) (w : World) :
    Calls Tryz.prog 147 #[.string s] w fun e w' => e = .returned (.bool (isVal s)) ∧ w = w' := by
  go_enter Tryz.func147, Tryz.ntmps147
  go_wp2
  go_loop [3] (fun i => ∃ (k : Nat), k ≤ s.size ∧ i = .int .i64 k ∧ valTo s k) (fun i => s.size - (intOf i).toNat)
  case atStart => exact ⟨0, Nat.zero_le _, rfl, valTo.zero s⟩
  case round =>
    obtain ⟨k, hk, rfl, hv⟩ := hrel
    have HV := Lib.hid hv; clear hv
    by_cases hlt : k < s.size
    · have hlt2 : decide ((k : Int) < (s.size : Int)) = true := by simp; omega
      have hb8 : (s[k].toNat : Int) < 256 := by have := UInt8.toNat_lt s[k]; omega
      rcases cls (s[k].toNat : Int) with h | h | h | h | h | h
      · have HN := Lib.hid (isVal_bad hlt (vc_no (by omega)))
        have va : decide ((s[k].toNat : Int) < 97) = true := decide_eq_true (by omega)
        have vb : decide (122 < (s[k].toNat : Int)) = false := decide_eq_false (by omega)
        have vc : decide ((s[k].toNat : Int) < 48) = true := decide_eq_true (by omega)
        have vd : decide (57 < (s[k].toNat : Int)) = false := decide_eq_false (by omega)
        have ve : decide (97 ≤ (s[k].toNat : Int)) = false := decide_eq_false (by omega)
        have vf : decide ((s[k].toNat : Int) ≤ 122) = true := decide_eq_true (by omega)
        have vg : decide (48 ≤ (s[k].toNat : Int)) = false := decide_eq_false (by omega)
        have vh : decide ((s[k].toNat : Int) ≤ 57) = true := decide_eq_true (by omega)
        have vz : ((s[k].toNat : Int) == 47) = false := beq_eq_false_iff_ne.2 (by omega)
        go_wp2
        go_ret
        exact ⟨ret_b HN.out.symm, rfl⟩
      · have HS := Lib.hid (HV.out.succ hlt (vc_yes (by omega)))
        have va : decide ((s[k].toNat : Int) < 97) = true := decide_eq_true (by omega)
        have vb : decide (122 < (s[k].toNat : Int)) = false := decide_eq_false (by omega)
        have vc : decide ((s[k].toNat : Int) < 48) = true := decide_eq_true (by omega)
        have vd : decide (57 < (s[k].toNat : Int)) = false := decide_eq_false (by omega)
        have ve : decide (97 ≤ (s[k].toNat : Int)) = false := decide_eq_false (by omega)
        have vf : decide ((s[k].toNat : Int) ≤ 122) = true := decide_eq_true (by omega)
        have vg : decide (48 ≤ (s[k].toNat : Int)) = false := decide_eq_false (by omega)
        have vh : decide ((s[k].toNat : Int) ≤ 57) = true := decide_eq_true (by omega)
        have vz : ((s[k].toNat : Int) == 47) = true := beq_iff_eq.2 (by omega)
        go_wp2
        go_round
        case rel => exact ⟨k + 1, by omega, by go_num, HS.out⟩
        case measure => simp [intOf]; omega
      · have HS := Lib.hid (HV.out.succ hlt (vc_yes (by omega)))
        have va : decide ((s[k].toNat : Int) < 97) = true := decide_eq_true (by omega)
        have vb : decide (122 < (s[k].toNat : Int)) = false := decide_eq_false (by omega)
        have vc : decide ((s[k].toNat : Int) < 48) = false := decide_eq_false (by omega)
        have vd : decide (57 < (s[k].toNat : Int)) = false := decide_eq_false (by omega)
        have ve : decide (97 ≤ (s[k].toNat : Int)) = false := decide_eq_false (by omega)
        have vf : decide ((s[k].toNat : Int) ≤ 122) = true := decide_eq_true (by omega)
        have vg : decide (48 ≤ (s[k].toNat : Int)) = true := decide_eq_true (by omega)
        have vh : decide ((s[k].toNat : Int) ≤ 57) = true := decide_eq_true (by omega)
        have vz : ((s[k].toNat : Int) == 47) = false := beq_eq_false_iff_ne.2 (by omega)
        go_wp2
        go_round
        case rel => exact ⟨k + 1, by omega, by go_num, HS.out⟩
        case measure => simp [intOf]; omega
      · have HN := Lib.hid (isVal_bad hlt (vc_no (by omega)))
        have va : decide ((s[k].toNat : Int) < 97) = true := decide_eq_true (by omega)
        have vb : decide (122 < (s[k].toNat : Int)) = false := decide_eq_false (by omega)
        have vc : decide ((s[k].toNat : Int) < 48) = false := decide_eq_false (by omega)
        have vd : decide (57 < (s[k].toNat : Int)) = true := decide_eq_true (by omega)
        have ve : decide (97 ≤ (s[k].toNat : Int)) = false := decide_eq_false (by omega)
        have vf : decide ((s[k].toNat : Int) ≤ 122) = true := decide_eq_true (by omega)
        have vg : decide (48 ≤ (s[k].toNat : Int)) = true := decide_eq_true (by omega)
        have vh : decide ((s[k].toNat : Int) ≤ 57) = false := decide_eq_false (by omega)
        have vz : ((s[k].toNat : Int) == 47) = false := beq_eq_false_iff_ne.2 (by omega)
        go_wp2
        go_ret
        exact ⟨ret_b HN.out.symm, rfl⟩
      · have HS := Lib.hid (HV.out.succ hlt (vc_yes (by omega)))
        have va : decide ((s[k].toNat : Int) < 97) = false := decide_eq_false (by omega)
        have vb : decide (122 < (s[k].toNat : Int)) = false := decide_eq_false (by omega)
        have vc : decide ((s[k].toNat : Int) < 48) = false := decide_eq_false (by omega)
        have vd : decide (57 < (s[k].toNat : Int)) = true := decide_eq_true (by omega)
        have ve : decide (97 ≤ (s[k].toNat : Int)) = true := decide_eq_true (by omega)
        have vf : decide ((s[k].toNat : Int) ≤ 122) = true := decide_eq_true (by omega)
        have vg : decide (48 ≤ (s[k].toNat : Int)) = true := decide_eq_true (by omega)
        have vh : decide ((s[k].toNat : Int) ≤ 57) = false := decide_eq_false (by omega)
        have vz : ((s[k].toNat : Int) == 47) = false := beq_eq_false_iff_ne.2 (by omega)
        go_wp2
        go_round
        case rel => exact ⟨k + 1, by omega, by go_num, HS.out⟩
        case measure => simp [intOf]; omega
      · have HN := Lib.hid (isVal_bad hlt (vc_no (by omega)))
        have va : decide ((s[k].toNat : Int) < 97) = false := decide_eq_false (by omega)
        have vb : decide (122 < (s[k].toNat : Int)) = true := decide_eq_true (by omega)
        have vc : decide ((s[k].toNat : Int) < 48) = false := decide_eq_false (by omega)
        have vd : decide (57 < (s[k].toNat : Int)) = true := decide_eq_true (by omega)
        have ve : decide (97 ≤ (s[k].toNat : Int)) = true := decide_eq_true (by omega)
        have vf : decide ((s[k].toNat : Int) ≤ 122) = false := decide_eq_false (by omega)
        have vg : decide (48 ≤ (s[k].toNat : Int)) = true := decide_eq_true (by omega)
        have vh : decide ((s[k].toNat : Int) ≤ 57) = false := decide_eq_false (by omega)
        have vz : ((s[k].toNat : Int) == 47) = false := beq_eq_false_iff_ne.2 (by omega)
        go_wp2
        go_ret
        exact ⟨ret_b HN.out.symm, rfl⟩
    · have HN := Lib.hid (isVal_full HV.out (by omega))
      have HE := Lib.hid (inB_size20 s)
      go_wp2_with fail
      refine (lin_any _ _ _ _).mono ?_
      rintro e w' ⟨rfl, rfl⟩
      go_wp2
      go_ret
      exact ⟨ret_b (by rw [HN.out, HE.out]), rfl⟩

end Go.Proofs.YtkjjiinccljhjaaGreatDoor
namespace Go.Proofs.YtkjjiinccljhjaaGreatDoor
open Go.ChangeShapes Go.WideShapes Go.ChangeAt Go.RowKit

theorem byte_eq {s : ByteArray} {k : Nat} (hk : k < s.size) {c : UInt8} (h : s[k] = c) : s.data.toList[k]? = some c := by rw [get_at hk, h]
theorem byte_ne {s : ByteArray} {k : Nat} {c : UInt8} (h : ∀ hk : k < s.size, s[k] ≠ c) : s.data.toList[k]? ≠ some c := by
  intro e
  have hk : k < s.size := by have := (List.getElem?_eq_some_iff.1 e).1; rwa [size_list] at this
  rw [get_at hk] at e
  exact h hk (Option.some.inj e)
theorem u8_beq (b c : UInt8) : ((b.toNat : Int) == (c.toNat : Int)) = decide (b = c) := by
  by_cases h : b = c
  · subst h; simp
  · rw [decide_eq_false h]
    refine beq_eq_false_iff_ne.2 fun e => h (UInt8.toNat_inj.1 (by omega))

/-- No byte c from a on and below k. -/
def noB (c : UInt8) (s : ByteArray) (a k : Nat) : Prop := ∀ j, a ≤ j → j < k → s.data.toList[j]? ≠ some c
theorem noB.succ {c : UInt8} {s : ByteArray} {a k : Nat} (h : noB c s a k) (hk : s.data.toList[k]? ≠ some c) : noB c s a (k + 1) := by
  intro j h1 h2
  by_cases e : j = k
  · subst e; exact hk
  · exact h j h1 (by omega)
theorem noB.self (c : UInt8) (s : ByteArray) (a : Nat) : noB c s a a := fun _ h1 h2 => absurd h1 (by omega)

set_option maxHeartbeats 1000000 in
theorem ix_spec (s : ByteArray) (c : UInt8) (hs : s.size ≤ 1099511627776) (w : World) :
    Calls Tryz.prog 230 #[.string s, .int .u8 (c.toNat : Int)] w fun e w' => e = .returned (.int .i64 (idxB c s.data.toList : Nat)) ∧ w = w' := by
  go_enter Tryz.func230, Tryz.ntmps230
  go_wp2
  go_loop [5] (fun i => ∃ (k : Nat), k ≤ s.size ∧ i = .int .i64 k ∧ noB c s 0 k) (fun i => s.size - (intOf i).toNat)
  case atStart => exact ⟨0, Nat.zero_le _, rfl, noB.self _ _ _⟩
  case round =>
    obtain ⟨k, hk, rfl, hv⟩ := hrel
    have HV := Lib.hid hv; clear hv
    by_cases hlt : k < s.size
    · have hlt2 : decide ((k : Int) < (s.size : Int)) = true := by simp; omega
      have hb8 : (s[k].toNat : Int) < 256 := by have := UInt8.toNat_lt s[k]; omega
      by_cases he : s[k] = c
      · have hbq : ((s[k].toNat : Int) == (c.toNat : Int)) = true := by rw [u8_beq, decide_eq_true he]
        have HI := Lib.hid (idxB_first (byte_eq hlt he) fun j hj => HV.out j (Nat.zero_le _) hj)
        clear he
        go_wp2
        go_ret
        exact ⟨by rw [HI.out]; rfl, rfl⟩
      · have hbq : ((s[k].toNat : Int) == (c.toNat : Int)) = false := by rw [u8_beq, decide_eq_false he]
        have HS := Lib.hid (HV.out.succ (byte_ne fun _ => he))
        clear he
        go_wp2
        go_round
        case rel => exact ⟨k + 1, by omega, by go_num, HS.out⟩
        case measure => simp [intOf] <;> omega
    · have HI := Lib.hid (show idxB c s.data.toList = s.size by
        rw [← size_list]
        refine idxB_none fun j hj => ?_
        have hjl := (List.getElem?_eq_some_iff.1 hj).1
        rw [size_list] at hjl
        exact HV.out j (Nat.zero_le _) (by omega) hj)
      go_wp2
      go_ret
      exact ⟨by rw [HI.out]; rfl, rfl⟩

/-- The pieces as strings. -/
def splS (c : UInt8) (l : List UInt8) : List ByteArray := (splitB c l).map ofL
theorem splS_len (c : UInt8) (l : List UInt8) : (splS c l).length ≤ l.length + 1 := by unfold splS; rw [List.length_map]; exact splitB_length c l
theorem splS_round {c : UInt8} {s : ByteArray} {a i : Nat} (hai : a ≤ i) (hi : s.data.toList[i]? = some c) (hf : noB c s a i) :
    splS c (s.data.toList.drop a) = s.extract a i :: splS c (s.data.toList.drop (i + 1)) := by
  unfold splS
  rw [split_round hai hi hf, List.map_cons, extract_eq]
theorem splS_last {c : UInt8} {s : ByteArray} {a i : Nat} (hi : i = s.size) (hf : noB c s a i) :
    splS c (s.data.toList.drop a) = [s.extract a i] := by
  subst hi
  unfold splS
  rw [split_last fun j hj he => hf j hj (by have := (List.getElem?_eq_some_iff.1 he).1; rwa [size_list] at this) he, List.map_cons, List.map_nil, extract_suf]
theorem readsS_one (w : World) (s : ByteArray) : ReadsK encS 1 (w.heap.size + 1) (w.alloc (.cells #[.string s] 9)) (.slice (some ⟨w.heap.size, 0, none⟩) 1 1) [s] := by
  refine ⟨_, 1, rfl, by simp, by omega, (fun h => by cases h), Or.inr ⟨_, 0, rfl, by omega, fun j y hy i hi' => ?_⟩⟩
  have hj : j = 0 := by have := (List.getElem?_eq_some_iff.1 hy).1; simp at this; omega
  subst hj
  simp only [List.getElem?_cons_zero, Option.some.injEq] at hy
  subst hy
  obtain rfl : i = 0 := by omega
  simp [encS]
/-- append of strings to a slice of the call's own. -/
theorem wpList_appS {w : World} {ops : Array Oper} {rest : List Oper} {o : Oper} {a : Act} {Q : Exit → Act → World → Prop} (hgd : o.guard = none) (s x : Operand)
    (ho : o.op = .call { callee := .builtin .append, args := #[s, x], argTypes := #[24, 24] })
    (B : Nat) (w0 : World) (v : Value) (xs : List ByteArray) (hs : a.eval s = v) (hM : MineK encS 1 9 B w0 w v xs) (vx : Value) (top : Nat) (ys : List ByteArray) (hx : a.eval x = vx) (hr : ReadsK encS 1 top w vx ys)
    (hlen : xs.length + ys.length ≤ 137438953472)
    (h : ∀ v' w', MineK encS 1 9 B w0 w' v' (xs ++ ys) → wpList Tryz.prog ops Q rest (a.put o.dst v') w') : wpList Tryz.prog ops Q (o :: rest) a w := by
  obtain ⟨i, hi, hz, hsize, hby⟩ := info_parts infoStr
  exact wpList_appK hgd s x _ ho encS_len encS_one (by decide) _ i _ 16 Tryz.underlying24 hi hz hsize hby (by rfl) B w0 v xs hs hM vx top ys hx hr (by omega) hlen fun v' w' hM' _ => h v' w' hM'

set_option maxRecDepth 100000 in
set_option maxHeartbeats 2000000 in
theorem spl_spec (s : ByteArray) (c : UInt8) (hs : s.size ≤ 1099511627) (w : World) :
    Calls Tryz.prog 153 #[.string s, .int .u8 (c.toNat : Int)] w (NewK encS 1 9 (splS c s.data.toList) w) := by
  go_enter Tryz.func153, Tryz.ntmps153
  go_wp2
  go_loopw [5, 6, 7] (fun o f i wr => ∃ (a k : Nat) (done : List ByteArray), a ≤ k ∧ k ≤ s.size + 1 ∧ f = .int .i64 a ∧ i = .int .i64 k ∧ MineK encS 1 9 w.heap.size w wr o done ∧ done.length ≤ k ∧ noB c s a k ∧ (k ≤ s.size → splS c s.data.toList = done ++ splS c (s.data.toList.drop a)) ∧ (k = s.size + 1 → splS c s.data.toList = done))
    (fun _ _ i _ => s.size + 1 - (intOf i).toNat)
  case atStart => exact ⟨0, 0, [], Nat.le_refl _, Nat.zero_le _, rfl, rfl, MineK.empty _ _ _ _ _ _ (Below.refl _ _) (Nat.le_refl _), Nat.le_refl _, noB.self _ _ _, (fun _ => by rw [List.drop_zero, List.nil_append]), (fun h => by omega)⟩
  case round =>
    obtain ⟨a, k, done, hak, hk, rfl, rfl, hM, hdl, hno, hsp, hfin⟩ := hrel
    have HM := Lib.hid hM; have HNO := Lib.hid hno; have HSP := Lib.hid hsp; have HFIN := Lib.hid hfin
    clear hM hno hsp hfin
    by_cases hle : k ≤ s.size
    · have hle2 : decide ((k : Int) ≤ (s.size : Int)) = true := decide_eq_true (by omega)
      have c1 : (a : Int) ≤ (k : Int) := by omega
      have c2 : (k : Int) ≤ (s.size : Int) := by omega
      by_cases hend : k = s.size
      · subst hend
        have HR := Lib.hid (splS_last rfl HNO.out)
        go_wp2_with (at_builtin; refine wpList_appS rfl _ _ rfl w.heap.size w _ done rfl (HM.out.alloc _) _ _ [s.extract a s.size] rfl (readsS_one wr _) ?c3 ?_)
        case c3 => simp; omega
        intro v' w' hM'
        have HM2 := Lib.hid hM'; clear hM'
        go_wp2
        go_roundw
        case rel =>
          refine ⟨s.size + 1, s.size + 1, done ++ [s.extract a s.size], Nat.le_refl _, by omega, by go_num, by go_num, HM2.out, by simp; omega, noB.self _ _ _, (fun h => by omega), fun _ => ?_⟩
          rw [HSP.out hle, HR.out]
        case measure => simp [intOf] <;> omega
      · have hq : ((k : Int) == (s.size : Int)) = false := beq_eq_false_iff_ne.2 (by omega)
        have hlt : k < s.size := by omega
        have hb8 : (s[k].toNat : Int) < 256 := by have := UInt8.toNat_lt s[k]; omega
        by_cases he : s[k] = c
        · have hbq : ((s[k].toNat : Int) == (c.toNat : Int)) = true := by rw [u8_beq, decide_eq_true he]
          have HR := Lib.hid (splS_round hak (byte_eq hlt he) HNO.out)
          clear he
          go_wp2_with (at_builtin; refine wpList_appS rfl _ _ rfl w.heap.size w _ done rfl (HM.out.alloc _) _ _ [s.extract a k] rfl (readsS_one wr _) ?c3 ?_)
          case c3 => simp; omega
          intro v' w' hM'
          have HM2 := Lib.hid hM'; clear hM'
          go_wp2
          go_roundw
          case rel =>
            refine ⟨k + 1, k + 1, done ++ [s.extract a k], Nat.le_refl _, by omega, by go_num, by go_num, HM2.out, by simp; omega, noB.self _ _ _, (fun h => ?_), fun h => by omega⟩
            rw [HSP.out hle, HR.out, List.append_assoc]; rfl
          case measure => simp [intOf] <;> omega
        · have hbq : ((s[k].toNat : Int) == (c.toNat : Int)) = false := by rw [u8_beq, decide_eq_false he]
          have HS := Lib.hid (HNO.out.succ (byte_ne fun _ => he))
          clear he
          go_wp2
          go_roundw
          case rel => exact ⟨a, k + 1, done, by omega, by omega, rfl, by go_num, HM.out, by omega, HS.out, (fun h => HSP.out hle), fun h => by omega⟩
          case measure => simp [intOf] <;> omega
    · have hle2 : decide ((k : Int) ≤ (s.size : Int)) = false := decide_eq_false (by omega)
      have HF := Lib.hid (HFIN.out (by omega))
      go_wp2
      go_ret
      exact ⟨_, rfl, by rw [HF.out]; exact HM.out.own, HM.out.below⟩

end Go.Proofs.YtkjjiinccljhjaaGreatDoor
