/- Helper contracts over the functions with which the laws draw integers and strings out of bytes: whatever the bytes, what is drawn is in range, and of what lay in memory before only the reader's own block is written. -/
import Derived.Test.YtemoegnijnhigaaDraw
namespace Go.Proofs.Ytemoegnijnhigaa
open Go.ChangeShapes Go.WideShapes Go.ChangeAt Go.RowKit

def intCell : Value → Bool
  | .int .i64 n => decide (-9223372036854775808 ≤ n) && decide (n ≤ 9223372036854775807)
  | _ => false
theorem cells_int (w : World) (C : Array Value) (T : TypeId) (m : Nat) (hm : C.size = m) (h : C.all intCell = true) : ∀ j, j < m → ∃ v : Int, -9223372036854775808 ≤ v ∧ v ≤ 9223372036854775807 ∧ (w.alloc (.cells C T)).cell? ⟨w.heap.size, j, none⟩ = some (.int .i64 v) := by
  subst hm
  intro j hj
  have h1 : intCell C[j] = true := by rw [Array.all_eq_true] at h; exact h j hj
  have h2 : (w.alloc (.cells C T)).cell? ⟨w.heap.size, j, none⟩ = some C[j] := by
    unfold World.cell?
    have h3 : (w.alloc (.cells C T)).heap[w.heap.size]? = some (.cells C T) := by
      show (w.heap.push _)[w.heap.size]? = _
      simp
    rw [h3]
    simp [hj]
  rw [h2]
  cases hc : C[j] with
  | int k n =>
    cases k
    all_goals first
      | (rw [hc] at h1; simp [intCell] at h1; done)
      | (rw [hc] at h1; simp only [intCell, Bool.and_eq_true, decide_eq_true_eq] at h1; exact ⟨n, h1.1, h1.2, rfl⟩)
  | _ => rw [hc] at h1; simp [intCell] at h1
theorem mul_bd {x y : Int} (x0 : 0 ≤ x) (x1 : x < 1000000) (y0 : 0 ≤ y) (y1 : y < 1000000) : 0 ≤ x * y ∧ x * y ≤ 1000000000000 := by
  have h1 := Int.mul_nonneg x0 y0
  have h2 := Int.mul_le_mul (show x ≤ 1000000 by omega) (show y ≤ 1000000 by omega) y0 (show (0 : Int) ≤ 1000000 by omega)
  omega
def strCell : Value → Bool
  | .string s => decide (s.size ≤ 100)
  | _ => false
theorem cells_str (w : World) (C : Array Value) (T : TypeId) (m : Nat) (hm : C.size = m) (h : C.all strCell = true) : ∀ j, j < m → ∃ s : ByteArray, s.size ≤ 100 ∧ (w.alloc (.cells C T)).cell? ⟨w.heap.size, j, none⟩ = some (.string s) := by
  subst hm
  intro j hj
  have h1 : strCell C[j] = true := by rw [Array.all_eq_true] at h; exact h j hj
  have h2 : (w.alloc (.cells C T)).cell? ⟨w.heap.size, j, none⟩ = some C[j] := by
    unfold World.cell?
    have h3 : (w.alloc (.cells C T)).heap[w.heap.size]? = some (.cells C T) := by
      show (w.heap.push _)[w.heap.size]? = _
      simp
    rw [h3]
    simp [hj]
  rw [h2]
  cases hc : C[j] with
  | string s => rw [hc] at h1; simp only [strCell, decide_eq_true_eq] at h1; exact ⟨s, h1, rfl⟩
  | _ => rw [hc] at h1; simp [strCell] at h1

set_option maxHeartbeats 1000000 in
theorem odd_any (b : Nat) (sv : Value) (len : Nat) (w : World) (hc : Cur b sv len w) :
    Calls Try.prog 63 #[.pointer (some ⟨b, 0, none⟩)] w (NumOut b sv len w) := by
  have HC := Lib.hid hc; clear hc
  go_enter Try.func63, Try.ntmps63
  go_wp2_with fail
  refine (int_any b sv len _ 14 14 _ (HC.out.alloc _) (by have := (HC.out).lt; omega) (by omega) (by omega) ?_).mono ?_
  · exact cells_int _ _ _ _ (by rfl) (by simp [intCell])
  rintro e w1 ⟨v, rfl, v0, v1, hc1, ho1⟩
  have HC1 := Lib.hid hc1; have HO1 := Lib.hid ho1; clear hc1 ho1
  go_wp2_with fail
  go_ret
  exact ⟨v, rfl, v0, v1, HC1.out, (Kept.alloc b w _).trans HO1.out⟩

set_option maxHeartbeats 1000000 in
theorem raw_any (b : Nat) (sv : Value) (len : Nat) (w : World) (hc : Cur b sv len w) :
    Calls Try.prog 60 #[.pointer (some ⟨b, 0, none⟩)] w (NumOut b sv len w) := by
  have HC := Lib.hid hc; clear hc
  go_enter Try.func60, Try.ntmps60
  go_wp2_with fail
  refine (once_any b sv len 2 _ HC.out).mono ?_
  rintro e w1 ⟨x, rfl, hc1, ho1⟩
  have HC1 := Lib.hid hc1; have HO1 := Lib.hid ho1; clear hc1 ho1
  cases x
  · go_wp2_with fail
    refine (int_any b sv len _ 3 3 _ (HC1.out.alloc _) (by have := (HC1.out).lt; omega) (by omega) (by omega) ?_).mono ?_
    · exact cells_int _ _ _ _ (by rfl) (by simp [intCell])
    rintro e w2 ⟨v, rfl, v0, v1, hc2, ho2⟩
    have HC2 := Lib.hid hc2; have HO2 := Lib.hid ho2; clear hc2 ho2
    go_wp2_with fail
    go_ret
    exact ⟨v, rfl, v0, v1, HC2.out, HO1.out.trans ((Kept.alloc b w1 _).trans HO2.out)⟩
  · go_wp2_with fail
    refine (odd_any b sv len _ HC1.out).mono ?_
    rintro e w2 ⟨v, rfl, v0, v1, hc2, ho2⟩
    have HC2 := Lib.hid hc2; have HO2 := Lib.hid ho2; clear hc2 ho2
    go_wp2_with fail
    go_ret
    exact ⟨v, rfl, v0, v1, HC2.out, HO1.out.trans HO2.out⟩

set_option maxHeartbeats 1000000 in
theorem num_any (b : Nat) (sv : Value) (len : Nat) (w : World) (hc : Cur b sv len w) :
    Calls Try.prog 54 #[.pointer (some ⟨b, 0, none⟩)] w (NumOut b sv len w) := by
  have HC := Lib.hid hc; clear hc
  go_enter Try.func54, Try.ntmps54
  go_wp2_with fail
  refine (below_any b sv len 4 _ HC.out).mono ?_
  rintro e w1 ⟨x, rfl, x0, x1, x2, hc1, ho1⟩
  have x3 := x1 (by omega)
  have HC1 := Lib.hid hc1; have HO1 := Lib.hid ho1.kept; clear hc1 ho1 x1
  have hx : x = 0 ∨ x = 1 ∨ x = 2 ∨ x = 3 := by omega
  rcases hx with rfl | rfl | rfl | rfl
  · go_wp2_with fail
    refine (below_any b sv len 2000 _ HC1.out).mono ?_
    rintro e w2 ⟨v, rfl, v0, v1, v2, hc2, ho2⟩
    have v3 := v1 (by omega)
    have HC2 := Lib.hid hc2; have HO2 := Lib.hid ho2.kept; clear hc2 ho2 v1
    go_wp2_with fail
    go_ret
    exact ⟨v, rfl, by omega, by omega, HC2.out, HO1.out.trans HO2.out⟩
  · go_wp2_with fail
    refine (int_any b sv len _ 7 7 _ (HC1.out.alloc _) (by have := (HC1.out).lt; omega) (by omega) (by omega) ?_).mono ?_
    · exact cells_int _ _ _ _ (by rfl) (by simp [intCell])
    rintro e w2 ⟨v, rfl, v0, v1, hc2, ho2⟩
    have HC2 := Lib.hid hc2; have HO2 := Lib.hid ho2; clear hc2 ho2
    go_wp2_with fail
    go_ret
    exact ⟨v, rfl, v0, v1, HC2.out, HO1.out.trans ((Kept.alloc b w1 _).trans HO2.out)⟩
  · go_wp2_with fail
    refine (below_any b sv len 1000000 _ HC1.out).mono ?_
    rintro e w2 ⟨v, rfl, v0, v1, v2, hc2, ho2⟩
    have v3 := v1 (by omega)
    have HC2 := Lib.hid hc2; have HO2 := Lib.hid ho2.kept; clear hc2 ho2 v1
    go_wp2_with fail
    refine (below_any b sv len 1000000 _ HC2.out).mono ?_
    rintro e w3 ⟨y, rfl, y0, y1, y2, hc3, ho3⟩
    have y3 := y1 (by omega)
    have HC3 := Lib.hid hc3; have HO3 := Lib.hid ho3.kept; clear hc3 ho3 y1
    obtain ⟨p0, p1⟩ := mul_bd v0 v3 y0 y3
    go_wp2_with fail
    go_ret
    exact ⟨v * y, rfl, by omega, by omega, HC3.out, HO1.out.trans (HO2.out.trans HO3.out)⟩
  · go_wp2_with fail
    refine (below_any b sv len 20 _ HC1.out).mono ?_
    rintro e w2 ⟨v, rfl, v0, v1, v2, hc2, ho2⟩
    have v3 := v1 (by omega)
    have HC2 := Lib.hid hc2; have HO2 := Lib.hid ho2.kept; clear hc2 ho2 v1
    go_wp2_with fail
    go_ret
    exact ⟨v, rfl, by omega, by omega, HC2.out, HO1.out.trans HO2.out⟩

set_option maxHeartbeats 1000000 in
theorem one_any (b : Nat) (sv : Value) (len : Nat) (w : World) (hc : Cur b sv len w) :
    Calls Try.prog 47 #[.pointer (some ⟨b, 0, none⟩)] w (NumOut b sv len w) := by
  have HC := Lib.hid hc; clear hc
  go_enter Try.func47, Try.ntmps47
  go_wp2_with fail
  refine (once_any b sv len 6 _ HC.out).mono ?_
  rintro e w1 ⟨x, rfl, hc1, ho1⟩
  have HC1 := Lib.hid hc1; have HO1 := Lib.hid ho1; clear hc1 ho1
  cases x
  · go_wp2_with fail
    refine (num_any b sv len _ HC1.out).mono ?_
    rintro e w2 ⟨v, rfl, v0, v1, hc2, ho2⟩
    have HC2 := Lib.hid hc2; have HO2 := Lib.hid ho2; clear hc2 ho2
    go_wp2_with fail
    go_ret
    exact ⟨v, rfl, v0, v1, HC2.out, HO1.out.trans HO2.out⟩
  · go_wp2_with fail
    refine (raw_any b sv len _ HC1.out).mono ?_
    rintro e w2 ⟨v, rfl, v0, v1, hc2, ho2⟩
    have HC2 := Lib.hid hc2; have HO2 := Lib.hid ho2; clear hc2 ho2
    go_wp2_with fail
    go_ret
    exact ⟨v, rfl, v0, v1, HC2.out, HO1.out.trans HO2.out⟩

/-- A new reader over the bytes. -/
def NewOut (sv : Value) (len : Nat) (w : World) (e : Ending) (w' : World) : Prop :=
  e = .returned (.pointer (some ⟨w.heap.size, 0, none⟩)) ∧ Cur w.heap.size sv len w' ∧ Below w.heap.size w w'
theorem new_cur {w : World} {sv : Value} {len : Nat} (h : CodeOk w.heap.size w sv len) (x : Int) : Cur w.heap.size sv len (w.alloc (.cells #[sv, .int .i64 0, .int .i64 x] 61)) := by
  obtain ⟨a, cap, e, h3, h4⟩ := h
  refine ⟨0, x, ?_, by omega, a, cap, e, h3, ?_⟩
  · show (w.heap.push _)[w.heap.size]? = _
    simp
  · rcases h4 with h4 | ⟨blk, off, e2, hb, hc⟩
    · exact Or.inl h4
    · refine Or.inr ⟨blk, off, e2, hb, fun j hj => ?_⟩
      obtain ⟨n, n0, n1, hn⟩ := hc j hj
      exact ⟨n, n0, n1, by rw [((Below.refl _ _).alloc (Nat.le_refl _) _ : Below w.heap.size w _).cell hb]; exact hn⟩

set_option maxHeartbeats 1000000 in
theorem new_any (sv : Value) (len : Nat) (w : World) (hc : CodeOk w.heap.size w sv len) :
    Calls Try.prog 44 #[sv] w (NewOut sv len w) := by
  have HN := Lib.hid (fun x => new_cur hc x)
  obtain ⟨a, cap, hsv, hlen, hcode⟩ := hc
  subst hsv
  have HC := Lib.hid hcode; clear hcode
  go_enter Try.func44, Try.ntmps44
  go_wp2
  go_loop [3, 4] (fun h i => ∃ (k : Nat) (x : Int), k ≤ len ∧ i = .int .i64 k ∧ h = .int .i64 x) (fun _ i => len - (intOf i).toNat)
  case atStart => exact ⟨0, _, Nat.zero_le _, rfl, rfl⟩
  case round =>
    obtain ⟨k, x, hk, rfl, rfl⟩ := hrel
    by_cases hlt : (k : Int) < (len : Int)
    · rcases HC.out with h0 | ⟨blk, off, rfl, hblk, hcells⟩
      · omega
      · obtain ⟨n, n0, n1, hn⟩ := hcells k (by omega)
        clear hcells
        by_cases h4 : (k : Int) < 4000
        · go_wp2
          go_round
          case rel => exact ⟨k + 1, _, by omega, by go_num, rfl⟩
          case measure => simp [intOf]; omega
        · go_wp2
          go_ret
          exact ⟨rfl, HN.out _, (Below.refl _ _).alloc (Nat.le_refl _) _⟩
    · have hltd : decide ((k : Int) < (len : Int)) = false := decide_eq_false hlt
      go_wp2
      go_ret
      exact ⟨rfl, HN.out _, (Below.refl _ _).alloc (Nat.le_refl _) _⟩
end Go.Proofs.Ytemoegnijnhigaa
