/- Helper contracts: strings.Cut at the separator "/": the first slash parts the string. Asked: the string is shorter than 2^62 bytes. -/
import Derived.Test.YtojpbdhkcpfeaaaName
import Derived.Below
import Derived.Lib.Bytealg
import Derived.Lib.Walk
import Derived.Lib.Slices
namespace Go.Proofs.Ytojpbdhkcpfeaaa
open Go.ChangeShapes Go.WideShapes Go.ChangeAt Go.RowKit

/-- Where the first slash stands. -/
def slashAt : List UInt8 → Option Nat
  | [] => none
  | b :: l => if b = 47 then some 0 else (slashAt l).map (· + 1)
theorem index_slash_eq (l : List UInt8) : Lib.indexByte l 47 = match slashAt l with | none => -1 | some i => (i : Int) := by
  induction l with
  | nil => rfl
  | cons b l ih =>
    unfold Lib.indexByte slashAt
    by_cases h : b = 47
    · rw [if_pos (by simpa using h), if_pos h]; rfl
    · rw [if_neg (by simpa using h), if_neg h, ih]
      cases slashAt l with
      | none => rfl
      | some i =>
        simp only [Option.map_some]
        rw [if_neg (by simp)]
        rfl
theorem slashAt_some {l : List UInt8} {i : Nat} (h : slashAt l = some i) : i < l.length ∧ l[i]? = some 47 ∧ ∀ j, j < i → l[j]? ≠ some 47 := by
  induction l generalizing i with
  | nil => cases h
  | cons b l ih =>
    unfold slashAt at h
    by_cases e : b = 47
    · rw [if_pos e] at h; cases h
      exact ⟨by simp, by simp [e], fun j hj => absurd hj (Nat.not_lt_zero _)⟩
    · rw [if_neg e] at h
      cases hs : slashAt l with
      | none => rw [hs] at h; cases h
      | some k =>
        rw [hs] at h
        simp only [Option.map_some, Option.some.injEq] at h
        subst h
        obtain ⟨h1, h2, h3⟩ := ih hs
        refine ⟨by simp; omega, by simpa using h2, fun j hj => ?_⟩
        cases j with
        | zero => simp [e]
        | succ j => simpa using h3 j (by omega)
theorem slashAt_none {l : List UInt8} (h : slashAt l = none) : ∀ j : Nat, l[j]? ≠ some 47 := by
  induction l with
  | nil => simp
  | cons b l ih =>
    unfold slashAt at h
    by_cases e : b = 47
    · rw [if_pos e] at h; cases h
    · rw [if_neg e] at h
      intro j
      cases j with
      | zero => simp [e]
      | succ j => simpa using ih (by simpa using h) j
theorem slashAt_of_first {l : List UInt8} {i : Nat} (h1 : l[i]? = some 47) (h2 : ∀ j, j < i → l[j]? ≠ some 47) : slashAt l = some i := by
  cases h : slashAt l with
  | none => exact absurd h1 (slashAt_none h i)
  | some k =>
    obtain ⟨h3, h4, h5⟩ := slashAt_some h
    rcases Nat.lt_trichotomy i k with c | c | c
    · exact absurd h1 (h5 i c)
    · rw [c]
    · exact absurd h4 (h2 k c)
theorem slashAt_of_none {l : List UInt8} (h : ∀ j : Nat, l[j]? ≠ some 47) : slashAt l = none := by
  cases hs : slashAt l with
  | none => rfl
  | some k => exact absurd (slashAt_some hs).2.1 (h k)

theorem idxByte_any (s : ByteArray) (c : Int) (w : World) :
    Calls Try.prog 72 #[.string s, .int .u8 c] w fun e w' => e = .returned (.int .i64 (Lib.indexByte s.data.toList c.toNat.toUInt8)) ∧ w = w' := by
  go_enter Try.func72, Try.ntmps72
  go_wp2
  rw [run_callFunc_extern Try.func81 (by kernel_rfl) (by kernel_rfl) (by kernel_rfl) (e := Extern.BytealgIndexByte.indexByte) (by kernel_rfl), Lib.run_indexByteString]
  simp only [Result.andThen]
  rw [Oper.upon_value]
  go_wp2
  go_ret
  exact ⟨rfl, rfl⟩

theorem index_slash (s : ByteArray) (w : World) :
    Calls Try.prog 57 #[.string s, .string ⟨#[47]⟩] w fun e w' => e = .returned (.int .i64 (Lib.indexByte s.data.toList 47)) ∧ w = w' := by
  by_cases hs : ([47] == s.toList) = true
  · have e1 : s.data.toList = [47] := by
      rw [ByteArray.toList_eq] at hs
      exact (eq_of_beq hs).symm
    rw [e1]
    go_enter Try.func57, Try.ntmps57
    go_wp2_with fail
    go_ret
    exact ⟨rfl, rfl⟩
  · have hs : ([47] == s.toList) = false := Bool.eq_false_iff.2 hs
    go_enter Try.func57, Try.ntmps57
    go_wp2_with fail
    refine (idxByte_any s _ _).mono ?_
    rintro e w' ⟨rfl, rfl⟩
    go_wp2_with fail
    go_ret
    exact ⟨rfl, rfl⟩

/-- What Cut returns at "/". -/
def cutV (s : ByteArray) : Value := match slashAt s.data.toList with
  | none => .tuple #[.string s, .string ⟨#[]⟩, .bool false]
  | some i => .tuple #[.string (s.extract 0 i), .string (s.extract (i + 1) s.size), .bool true]

set_option maxHeartbeats 1000000 in
theorem lcut_any (s : ByteArray) (hs : s.size ≤ 4611686018427387904) (w : World) :
    Calls Try.prog 51 #[.string s, .string ⟨#[47]⟩] w fun e w' => e = .returned (cutV s) ∧ ∃ n, w' = w.drewN n := by
  have hix := index_slash_eq s.data.toList
  cases hsl : slashAt s.data.toList with
  | none =>
    have HV := Lib.hid (show cutV s = _ from by unfold cutV; rw [hsl])
    rw [hsl] at hix
    simp only at hix
    have HI := Lib.hid hix
    clear hix hsl
    go_enter Try.func51, Try.ntmps51
    go_wp2_with fail
    refine (index_slash s _).mono ?_
    rintro e w' ⟨rfl, rfl⟩
    rw [HI.out]
    go_wp2_with fail
    go_ret3
    exact ⟨by rw [HV.out]; rfl, 0, rfl⟩
  | some i =>
    have HV := Lib.hid (show cutV s = _ from by unfold cutV; rw [hsl])
    obtain ⟨h1, _, _⟩ := slashAt_some hsl
    rw [Array.length_toList] at h1
    have h1 : i < s.size := h1
    rw [hsl] at hix
    simp only at hix
    have HI := Lib.hid hix
    clear hix hsl
    have c1 : (0 : Int) ≤ ↑i := by omega
    have c2 : (↑i : Int) ≤ ↑s.size := by omega
    have c3 : (0 : Int) ≤ ↑i + 1 := by omega
    have c4 : (↑i + 1 : Int) ≤ ↑s.size := by omega
    go_enter Try.func51, Try.ntmps51
    go_wp2_with fail
    refine (index_slash s _).mono ?_
    rintro e w' ⟨rfl, rfl⟩
    rw [HI.out]
    go_wp2_with fail
    go_quiet (fail)
    go_wp2
    go_ret3
    exact ⟨by rw [HV.out]; rfl, _, rfl⟩

set_option maxHeartbeats 1000000 in
theorem cut_any (s : ByteArray) (hs : s.size ≤ 4611686018427387904) (w : World) :
    Calls Try.prog 39 #[.string s, .string ⟨#[47]⟩] w fun e w' => e = .returned (cutV s) ∧ ∃ n, w' = w.drewN n := by
  have hcon := lcut_any s hs
  have HV := Lib.hid (show cutV s = cutV s from rfl)
  have : ∃ a b c, cutV s = .tuple #[.string a, .string b, .bool c] := by
    unfold cutV; split <;> exact ⟨_, _, _, rfl⟩
  obtain ⟨a, b, c, hv⟩ := this
  rw [hv] at hcon ⊢
  clear hv HV
  have HC := Lib.hid hcon; clear hcon
  go_enter Try.func39, Try.ntmps39
  go_wp2_with fail
  refine (HC.out _).mono ?_
  rintro e w' ⟨rfl, n, rfl⟩
  go_wp2_with fail
  go_ret3
  exact ⟨rfl, n, rfl⟩
end Go.Proofs.Ytojpbdhkcpfeaaa
