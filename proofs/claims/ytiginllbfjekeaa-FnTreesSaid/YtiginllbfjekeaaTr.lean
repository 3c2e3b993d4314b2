/- Helper contracts on trees that only read: IsVoid, the nodes by pointer, what can be open, NewBuilder. Asked: what lies in memory is as named. -/
import Derived.Test.YtiginllbfjekeaaNd
import Derived.Test.YtiginllbfjekeaaInts
import Derived.Test.YtiginllbfjekeaaFnd
namespace Go.Proofs.Ytiginllbfjekeaa
open Go.ChangeShapes Go.WideShapes Go.ChangeAt Go.RowKit

theorem emp_size {s : ByteArray} : (s.toList == ([] : List UInt8)) = decide (s.size = 0) := by
  rw [ByteArray.toList_eq]
  have h := size_list s
  by_cases e : s.size = 0
  · rw [decide_eq_true e, List.eq_nil_of_length_eq_zero (h.trans e)]; rfl
  · rw [decide_eq_false e]
    refine beq_eq_false_iff_ne.2 fun k => e ?_
    rw [k] at h; simpa using h.symm
theorem nd_at {ns : List Nv} {k : Nat} (h : k < ns.length) : ∃ p, ns[k]? = some p := ⟨_, List.getElem?_eq_getElem h⟩
/-- The cells of node k. -/
theorem ReadN.at {hi n cap k : Nat} {w : World} {a : Option Addr} {ns : List Nv} {p : Nv} (h : ReadN hi w (.slice a n cap) ns) (hk : ns[k]? = some p) :
    ∃ g off, a = some ⟨g, off, none⟩ ∧ g < hi ∧ w.cell? ⟨g, off + k * 4, none⟩ = some (.string p.1.name) ∧ w.cell? ⟨g, off + k * 4 + 1, none⟩ = some (.string p.1.text) ∧ w.cell? ⟨g, off + k * 4 + 2, none⟩ = some (.int .i64 p.1.parent) ∧ w.cell? ⟨g, off + k * 4 + 3, none⟩ = some (sv p.2) := by
  obtain ⟨⟨a', cap', e, h1, h2, h3, h4⟩, _⟩ := h
  cases e
  have hlt := (List.getElem?_eq_some_iff.1 hk).1
  rcases h4 with h4 | ⟨g, off, rfl, hg, hc⟩
  · omega
  · exact ⟨g, off, rfl, hg, hc k p hk 0 (by omega), hc k p hk 1 (by omega), hc k p hk 2 (by omega), hc k p hk 3 (by omega)⟩
theorem ReadN.form {hi : Nat} {w : World} {v : Value} {ns : List Nv} (h : ReadN hi w v ns) : ∃ a cap, v = .slice a ns.length cap ∧ ns.length ≤ cap ∧ cap ≤ 9223372036854775807 := by
  obtain ⟨⟨a, cap, e, h1, h2, _⟩, _⟩ := h
  exact ⟨a, cap, e, h1, h2⟩
theorem reads_form {hi : Nat} {w : World} {v : Value} {zs : List Int} (h : Reads .i64 hi w v zs) : ∃ a cap, v = .slice a zs.length cap ∧ zs.length ≤ cap ∧ cap ≤ 9223372036854775807 := by
  obtain ⟨a, cap, e, h1, h2, _⟩ := h
  exact ⟨a, cap, e, h1, h2⟩
theorem reads_at {hi n cap k : Nat} {w : World} {a : Option Addr} {zs : List Int} (h : Reads .i64 hi w (.slice a n cap) zs) (hk : k < zs.length) :
    ∃ g off, a = some ⟨g, off, none⟩ ∧ g < hi ∧ w.cell? ⟨g, off + k, none⟩ = some (.int .i64 (zs.getD k 0)) := by
  obtain ⟨a', cap', e, h1, h2, h3, h4⟩ := h
  cases e
  rcases h4 with h4 | ⟨g, off, rfl, hg, hc⟩
  · omega
  · exact ⟨g, off, rfl, hg, hc k hk⟩

theorem void_impl (s : ByteArray) (w : World) : Calls Try.prog 65 #[.string s] w fun e w' => e = .returned (.bool (isVoid s)) ∧ w = w' := by
  unfold isVoid
  cases h1 : (s.toList == [105, 109, 103]) with
  | true =>
    go_enter Try.func65, Try.ntmps65
    go_wp2
    go_ret
    exact ⟨rfl, rfl⟩
  | false =>
    cases h2 : (s.toList == [108, 105, 110, 107]) with
    | true =>
      go_enter Try.func65, Try.ntmps65
      go_wp2
      go_ret
      exact ⟨rfl, rfl⟩
    | false =>
      go_enter Try.func65, Try.ntmps65
      go_wp2
      go_ret
      exact ⟨rfl, rfl⟩

theorem void_spec (s : ByteArray) (w : World) : Calls Try.prog 31 #[.string s] w fun e w' => e = .returned (.bool (isVoid s)) ∧ w = w' := by
  unfold isVoid
  cases h1 : (s.toList == [105, 109, 103]) with
  | true =>
    go_enter Try.func31, Try.ntmps31
    go_wp2
    go_ret
    exact ⟨rfl, rfl⟩
  | false =>
    cases h2 : (s.toList == [108, 105, 110, 107]) with
    | true =>
      go_enter Try.func31, Try.ntmps31
      go_wp2
      go_ret
      exact ⟨rfl, rfl⟩
    | false =>
      go_enter Try.func31, Try.ntmps31
      go_wp2
      go_ret
      exact ⟨rfl, rfl⟩

/-- A pointer to the node of this number, or nil. -/
theorem nodeAt_in (b g off n cap k : Nat) (w : World) (c0 : w.cell? ⟨b, 0, none⟩ = some (.slice (some ⟨g, off, none⟩) n cap)) (hk : k < n) (hn : n ≤ 9223372036854775807) :
    Calls Try.prog 35 #[.pointer (some ⟨b, 0, none⟩), .int .i64 (k : Int)] w fun e w' => e = .returned (.pointer (some ⟨g, off + k * 4, none⟩)) ∧ w' = w := by
  have e1 : inB k 0 ((n : Int) - 1) = true := inB_yes (by omega) (by omega)
  go_enter Try.func35, Try.ntmps35
  go_wp2_with (go_at_call 36; refine (rin_any _ _ _ _).mono ?_; rintro e w' ⟨rfl, rfl⟩)
  go_ret
  exact ⟨rfl, rfl⟩

theorem nodeAt_out (b n cap : Nat) (a : Option Addr) (z : Int) (w : World) (c0 : w.cell? ⟨b, 0, none⟩ = some (.slice a n cap)) (hk : z < 0 ∨ (n : Int) ≤ z) (hn : n ≤ 9223372036854775807) :
    Calls Try.prog 35 #[.pointer (some ⟨b, 0, none⟩), .int .i64 z] w fun e w' => e = .returned (.pointer none) ∧ w' = w := by
  have e1 : inB z 0 ((n : Int) - 1) = false := inB_no (by omega)
  go_enter Try.func35, Try.ntmps35
  go_wp2_with (go_at_call 36; refine (rin_any _ _ _ _).mono ?_; rintro e w' ⟨rfl, rfl⟩)
  go_ret
  exact ⟨rfl, rfl⟩

theorem can_none (w : World) : Calls Try.prog 59 #[.pointer none] w fun e w' => e = .returned (.bool false) ∧ w' = w := by
  go_enter Try.func59, Try.ntmps59
  go_wp2
  go_ret
  exact ⟨rfl, rfl⟩

theorem can_some (g o : Nat) (s : ByteArray) (w : World) (c0 : w.cell? ⟨g, o, none⟩ = some (.string s)) :
    Calls Try.prog 59 #[.pointer (some ⟨g, o, none⟩)] w fun e w' => e = .returned (.bool (decide (s.size ≠ 0) && !isVoid s)) ∧ w' = w := by
  by_cases h0 : s.size = 0
  · have he : (s.toList == []) = true := by rw [emp_size, decide_eq_true h0]
    rw [decide_eq_false (fun h => h h0), Bool.false_and]
    clear h0
    go_enter Try.func59, Try.ntmps59
    go_wp2
    go_ret
    exact ⟨rfl, rfl⟩
  · have he : (s.toList == []) = false := by rw [emp_size, decide_eq_false h0]
    rw [decide_eq_true h0, Bool.true_and]
    clear h0
    have HV := Lib.hid (fun W => void_impl s W)
    obtain ⟨b, hb⟩ : ∃ b, isVoid s = b := ⟨_, rfl⟩
    rw [hb] at HV ⊢; clear hb
    go_enter Try.func59, Try.ntmps59
    go_wp2_with (go_at_call 65; refine (HV.out _).mono ?_; rintro e w' ⟨rfl, rfl⟩)
    go_ret
    exact ⟨rfl, rfl⟩

theorem vel_any (g o : Nat) (s t : ByteArray) (w : World) (c0 : w.cell? ⟨g, o, none⟩ = some (.string s)) (c1 : w.cell? ⟨g, o + 1, none⟩ = some (.string t)) (hs : s.size ≤ 9223372036854775807) :
    Calls Try.prog 60 #[.pointer (some ⟨g, o, none⟩)] w fun e w' => e = .returned (.bool (isNm s && decide (t.size = 0))) ∧ w' = w := by
  have HN := Lib.hid (fun W => nm_impl s hs W)
  obtain ⟨b, hb⟩ : ∃ b, isNm s = b := ⟨_, rfl⟩
  rw [hb] at HN ⊢; clear hb
  rw [← emp_size]
  cases b with
  | false =>
    rw [Bool.false_and]
    go_enter Try.func60, Try.ntmps60
    go_wp2_with (go_at_call 67; refine (HN.out _).mono ?_; rintro e w' ⟨rfl, rfl⟩)
    go_ret
    exact ⟨rfl, rfl⟩
  | true =>
    rw [Bool.true_and]
    cases he : (t.toList == ([] : List UInt8)) with
    | true =>
      go_enter Try.func60, Try.ntmps60
      go_wp2_with (go_at_call 67; refine (HN.out _).mono ?_; rintro e w' ⟨rfl, rfl⟩)
      go_ret
      exact ⟨rfl, rfl⟩
    | false =>
      go_enter Try.func60, Try.ntmps60
      go_wp2_with (go_at_call 67; refine (HN.out _).mono ?_; rintro e w' ⟨rfl, rfl⟩)
      go_ret
      exact ⟨rfl, rfl⟩

theorem nil_size {α : Type} {l : List α} [DecidableEq α] : decide (l = []) = decide (l.length = 0) := decide_eq_decide.2 ⟨fun h => by rw [h]; rfl, List.eq_nil_of_length_eq_zero⟩

theorem vtx_any (g o : Nat) (s t : ByteArray) (a : Option Addr) (n cap : Nat) (w : World) (c0 : w.cell? ⟨g, o, none⟩ = some (.string s)) (c1 : w.cell? ⟨g, o + 1, none⟩ = some (.string t)) (c3 : w.cell? ⟨g, o + 3, none⟩ = some (.slice a n cap)) :
    Calls Try.prog 61 #[.pointer (some ⟨g, o, none⟩)] w fun e w' => e = .returned (.bool (decide (s.size = 0) && (decide (t.size ≠ 0) && decide (n = 0)))) ∧ w' = w := by
  by_cases h0 : s.size = 0
  · have he : (s.toList == []) = true := by rw [emp_size, decide_eq_true h0]
    rw [decide_eq_true h0, Bool.true_and]
    clear h0
    by_cases h1 : t.size = 0
    · have he1 : (t.toList == []) = true := by rw [emp_size, decide_eq_true h1]
      rw [decide_eq_false (fun h => h h1), Bool.false_and]
      clear h1
      go_enter Try.func61, Try.ntmps61
      go_wp2
      go_ret
      exact ⟨rfl, rfl⟩
    · have he1 : (t.toList == []) = false := by rw [emp_size, decide_eq_false h1]
      rw [decide_eq_true h1, Bool.true_and]
      clear h1
      by_cases h2 : n = 0
      · rw [decide_eq_true h2]; subst h2
        go_enter Try.func61, Try.ntmps61
        go_wp2
        go_ret
        exact ⟨rfl, rfl⟩
      · rw [decide_eq_false h2]
        have h3 : ((n : Int) == 0) = false := beq_eq_false_iff_ne.2 (by omega)
        go_enter Try.func61, Try.ntmps61
        go_wp2
        go_ret
        exact ⟨rfl, rfl⟩
  · have he : (s.toList == []) = false := by rw [emp_size, decide_eq_false h0]
    rw [decide_eq_false h0, Bool.false_and]
    clear h0
    go_enter Try.func61, Try.ntmps61
    go_wp2
    go_ret
    exact ⟨rfl, rfl⟩
end Go.Proofs.Ytiginllbfjekeaa
