/- Helper contracts: whether a slice of strings holds a string; whether two slices of strings are equal: of the model, and of Go's library at this type. Asked: the slices read as the lists named. -/
import Derived.Test.YtkjjiinccljhjaaPolF
namespace Go.Proofs.Ytkjjiinccljhjaa
open Go.ChangeShapes Go.WideShapes Go.ChangeAt Go.RowKit

def notInS (xs : List ByteArray) (a : ByteArray) (k : Nat) : Prop := ∀ j : Nat, j < k → xs[j]? ≠ some a
theorem notInS.zero (xs : List ByteArray) (a : ByteArray) : notInS xs a 0 := fun _ h => absurd h (Nat.not_lt_zero _)
theorem notInS.succ {xs : List ByteArray} {a x : ByteArray} {k : Nat} (h : notInS xs a k) (hx : xs[k]? = some x) (hne : x ≠ a) : notInS xs a (k + 1) := by
  intro j hj
  by_cases e : j = k
  · subst e; rw [hx]; simpa using hne
  · exact h j (by omega)
theorem hasS_yes {xs : List ByteArray} {a : ByteArray} {k : Nat} (h : xs[k]? = some a) : hasS xs a = true := hasS_iff.2 (List.mem_of_getElem? h)
theorem hasS_no {xs : List ByteArray} {a : ByteArray} {k : Nat} (h : notInS xs a k) (hk : k = xs.length) : hasS xs a = false := by
  refine Bool.eq_false_iff.2 fun hm => ?_
  obtain ⟨j, hj⟩ := List.mem_iff_getElem?.1 (hasS_iff.1 hm)
  exact h j (by have := (List.getElem?_eq_some_iff.1 hj).1; omega) hj
/-- A string in a slice of strings. -/
theorem str_cell {hi n cap k : Nat} {w : World} {a : Option Addr} {xs : List ByteArray} {s : ByteArray} (h : ReadsK encS 1 hi w (.slice a n cap) xs) (hk : xs[k]? = some s) : ∃ g off, a = some ⟨g, off, none⟩ ∧ g < hi ∧ w.cell? ⟨g, off + k, none⟩ = some (.string s) := by
  obtain ⟨a', c', e, _, _, _, hc⟩ := h
  injection e with e1 e2 e3; subst e1
  rcases hc with h0 | ⟨g, off, rfl, hg, hc⟩
  · have := (List.getElem?_eq_some_iff.1 hk).1; omega
  · refine ⟨g, off, rfl, hg, ?_⟩
    have := hc k s hk 0 (by omega)
    rwa [Nat.mul_one] at this
theorem ssAt {xs : List ByteArray} {j : Nat} (h : j < xs.length) : ∃ x, xs[j]? = some x := ⟨_, List.getElem?_eq_getElem h⟩

set_option maxHeartbeats 1000000 in
theorem has9_spec (v : Value) (hi : Nat) (xs : List ByteArray) (s : ByteArray) (w : World) (hr : ReadsK encS 1 hi w v xs) :
    Calls Try.prog 39 #[v, .string s] w fun e w' => e = .returned (.bool (hasS xs s)) ∧ w = w' := by
  obtain ⟨a, cap, rfl, hc1, hc2, _⟩ := id hr
  obtain ⟨n, hn⟩ : ∃ n, xs.length = n := ⟨_, rfl⟩
  rw [hn] at hr hc1 ⊢
  have HN := Lib.hid hn; have HR := Lib.hid hr; clear hn hr
  go_enter Try.func39, Try.ntmps39
  go_wp2
  go_loop [5] (fun i => ∃ (k : Nat), k ≤ n ∧ i = .int .i64 k ∧ notInS xs s k) (fun i => n - (intOf i).toNat)
  case atStart => exact ⟨0, Nat.zero_le _, rfl, notInS.zero _ _⟩
  case round =>
    obtain ⟨k, hk, rfl, hnot⟩ := hrel
    have HNI := Lib.hid hnot; clear hnot
    by_cases hlt : (k : Int) < (n : Int)
    · obtain ⟨x, hx⟩ := ssAt (xs := xs) (j := k) (by have := HN.out; omega)
      obtain ⟨g, off, rfl, _, c0⟩ := str_cell HR.out hx
      have HX := Lib.hid hx; clear hx
      by_cases e1 : x = s
      · have e2 : (x.toList == s.toList) = true := beqL_yes e1
        have HV := Lib.hid (show hasS xs s = true from hasS_yes (by rw [HX.out, e1]))
        clear e1
        go_wp2
        go_ret
        exact ⟨by rw [HV.out]; rfl, rfl⟩
      · have e2 : (x.toList == s.toList) = false := beqL_no e1
        have HS := Lib.hid (HNI.out.succ HX.out e1)
        clear e1
        go_wp2
        go_round
        case rel => exact ⟨k + 1, by omega, by go_num, HS.out⟩
        case measure => simp [intOf]; omega
    · have hlf : decide ((k : Int) < (n : Int)) = false := decide_eq_false hlt
      have HV := Lib.hid (hasS_no HNI.out (by have := HN.out; omega))
      go_wp2
      go_ret
      exact ⟨by rw [HV.out]; rfl, rfl⟩

set_option maxHeartbeats 1000000 in
theorem idxS_lib (v : Value) (hi : Nat) (xs : List ByteArray) (s : ByteArray) (w : World) (hr : ReadsK encS 1 hi w v xs) :
    Calls Try.prog 42 #[v, .string s] w fun e w' => (∃ r : Int, e = .returned (.int .i64 r) ∧ decide (0 ≤ r) = hasS xs s) ∧ w = w' := by
  obtain ⟨a, cap, rfl, hc1, hc2, _⟩ := id hr
  obtain ⟨n, hn⟩ : ∃ n, xs.length = n := ⟨_, rfl⟩
  rw [hn] at hr hc1 ⊢
  have HN := Lib.hid hn; have HR := Lib.hid hr; clear hn hr
  go_enter Try.func42, Try.ntmps42
  go_wp2
  go_loop [8] (fun i => ∃ (k : Nat), k ≤ n ∧ i = .int .i64 k ∧ notInS xs s k) (fun i => n - (intOf i).toNat)
  case atStart => exact ⟨0, Nat.zero_le _, rfl, notInS.zero _ _⟩
  case round =>
    obtain ⟨k, hk, rfl, hnot⟩ := hrel
    have HNI := Lib.hid hnot; clear hnot
    by_cases hlt : (k : Int) < (n : Int)
    · obtain ⟨x, hx⟩ := ssAt (xs := xs) (j := k) (by have := HN.out; omega)
      obtain ⟨g, off, rfl, _, c0⟩ := str_cell HR.out hx
      have HX := Lib.hid hx; clear hx
      by_cases e1 : x = s
      · have e2 : (x.toList == s.toList) = true := beqL_yes e1
        have e3 : (s.toList == x.toList) = true := beqL_yes e1.symm
        have HV := Lib.hid (show hasS xs s = true from hasS_yes (by rw [HX.out, e1]))
        clear e1
        go_wp2
        go_ret
        exact ⟨⟨_, rfl, by rw [HV.out]; exact decide_eq_true (by omega)⟩, rfl⟩
      · have e2 : (x.toList == s.toList) = false := beqL_no e1
        have e3 : (s.toList == x.toList) = false := beqL_no (Ne.symm e1)
        have HS := Lib.hid (HNI.out.succ HX.out e1)
        clear e1
        go_wp2
        go_round
        case rel => exact ⟨k + 1, by omega, by go_num, HS.out⟩
        case measure => simp [intOf]; omega
    · have hlf : decide ((k : Int) < (n : Int)) = false := decide_eq_false hlt
      have HV := Lib.hid (hasS_no HNI.out (by have := HN.out; omega))
      go_wp2
      go_ret
      exact ⟨⟨-1, rfl, by rw [HV.out]; rfl⟩, rfl⟩

theorem contS_lib (v : Value) (hi : Nat) (xs : List ByteArray) (s : ByteArray) (w : World) (hr : ReadsK encS 1 hi w v xs) :
    Calls Try.prog 40 #[v, .string s] w fun e w' => e = .returned (.bool (hasS xs s)) ∧ w = w' := by
  obtain ⟨a, cap, rfl, _⟩ := id hr
  have HI := Lib.hid (idxS_lib _ hi xs s w hr); clear hr
  go_enter Try.func40, Try.ntmps40
  go_wp2_with fail
  refine HI.out.mono ?_
  rintro e w' ⟨⟨r, rfl, hd⟩, rfl⟩
  have HD := Lib.hid hd; clear hd
  go_wp2_with fail
  go_ret
  exact ⟨by rw [← HD.out]; rfl, rfl⟩

def sameTo (xs ys : List ByteArray) (k : Nat) : Prop := ∀ j : Nat, j < k → xs[j]? = ys[j]?
theorem sameTo.zero (xs ys : List ByteArray) : sameTo xs ys 0 := fun _ h => absurd h (Nat.not_lt_zero _)
theorem sameTo.succ {xs ys : List ByteArray} {x : ByteArray} {k : Nat} (h : sameTo xs ys k) (hx : xs[k]? = some x) (hy : ys[k]? = some x) : sameTo xs ys (k + 1) := by
  intro j hj
  by_cases e : j = k
  · subst e; rw [hx, hy]
  · exact h j (by omega)
theorem same_all {xs ys : List ByteArray} {k : Nat} (h : sameTo xs ys k) (hx : xs.length = k) (hy : ys.length = k) : decide (xs = ys) = true := by
  refine decide_eq_true (List.ext_getElem? fun j => ?_)
  by_cases hj : j < k
  · exact h j hj
  · rw [List.getElem?_eq_none (by omega), List.getElem?_eq_none (by omega)]
theorem same_not {xs ys : List ByteArray} {x y : ByteArray} {k : Nat} (hx : xs[k]? = some x) (hy : ys[k]? = some y) (h : x ≠ y) : decide (xs = ys) = false := by
  refine decide_eq_false fun e => h ?_
  rw [e, hy] at hx
  exact (Option.some.inj hx).symm
theorem same_len {xs ys : List ByteArray} (h : xs.length ≠ ys.length) : decide (xs = ys) = false := decide_eq_false fun e => h (by rw [e])

end Go.Proofs.Ytkjjiinccljhjaa
