/- Helper contracts over the functions with which the laws draw integers and strings out of bytes: whatever the bytes, what is drawn is in range, and of what lay in memory before only the reader's own block is written. -/
import Derived.Test.YtkjjiinccljhjaaDoorDraw
namespace Go.Proofs.YtkjjiinccljhjaaDoor
open Go.ChangeShapes Go.WideShapes Go.ChangeAt Go.RowKit

def intCell : Value → Bool
  | .int .i64 n => decide (-9223372036854775808 ≤ n) && decide (n ≤ 9223372036854775807)
  | _ => false
theorem cells_int (w : World) (C : Array Value) (T : TypeId) (m : Nat) (hm : C.size = m) (h : C.all intCell = true) : ∀ j, j < m → ∃ v : Int, -9223372036854775808 ≤ v ∧ v ≤ 9223372036854775807 ∧ (w.alloc (.cells C T)).cell? ⟨w.heap.size, j, none⟩ = some (.int .i64 v) := by
  subst hm
  intro j hj
  have h1 : intCell C[j] = true := by rw [Array.all_eq_true] at h; exact h j hj
  have h2 : (w.alloc (.cells C T)).cell? ⟨w.heap.size, j, none⟩ = some C[j] := by
    unfold World.cell?
    have h3 : (w.alloc (.cells C T)).heap[w.heap.size]? = some (.cells C T) := by
      show (w.heap.push _)[w.heap.size]? = _
      simp
    rw [h3]
    simp [hj]
  rw [h2]
  cases hc : C[j] with
  | int k n =>
    cases k
    all_goals first
      | (rw [hc] at h1; simp [intCell] at h1; done)
      | (rw [hc] at h1; simp only [intCell, Bool.and_eq_true, decide_eq_true_eq] at h1; exact ⟨n, h1.1, h1.2, rfl⟩)
  | _ => rw [hc] at h1; simp [intCell] at h1
theorem mul_bd {x y : Int} (x0 : 0 ≤ x) (x1 : x < 1000000) (y0 : 0 ≤ y) (y1 : y < 1000000) : 0 ≤ x * y ∧ x * y ≤ 1000000000000 := by
  have h1 := Int.mul_nonneg x0 y0
  have h2 := Int.mul_le_mul (show x ≤ 1000000 by omega) (show y ≤ 1000000 by omega) y0 (show (0 : Int) ≤ 1000000 by omega)
  omega
def strCell : Value → Bool
  | .string s => decide (s.size ≤ 100)
  | _ => false
theorem cells_str (w : World) (C : Array Value) (T : TypeId) (m : Nat) (hm : C.size = m) (h : C.all strCell = true) : ∀ j, j < m → ∃ s : ByteArray, s.size ≤ 100 ∧ (w.alloc (.cells C T)).cell? ⟨w.heap.size, j, none⟩ = some (.string s) := by
  subst hm
  intro j hj
  have h1 : strCell C[j] = true := by rw [Array.all_eq_true] at h; exact h j hj
  have h2 : (w.alloc (.cells C T)).cell? ⟨w.heap.size, j, none⟩ = some C[j] := by
    unfold World.cell?
    have h3 : (w.alloc (.cells C T)).heap[w.heap.size]? = some (.cells C T) := by
      show (w.heap.push _)[w.heap.size]? = _
      simp
    rw [h3]
    simp [hj]
  rw [h2]
  cases hc : C[j] with
  | string s => rw [hc] at h1; simp only [strCell, decide_eq_true_eq] at h1; exact ⟨s, h1, rfl⟩
  | _ => rw [hc] at h1; simp [strCell] at h1

/-- A new reader over the bytes. -/
def NewOut (sv : Value) (len : Nat) (w : World) (e : Ending) (w' : World) : Prop :=
  e = .returned (.pointer (some ⟨w.heap.size, 0, none⟩)) ∧ Cur w.heap.size sv len w' ∧ Below w.heap.size w w'
theorem new_cur {w : World} {sv : Value} {len : Nat} (h : CodeOk w.heap.size w sv len) (x : Int) : Cur w.heap.size sv len (w.alloc (.cells #[sv, .int .i64 0, .int .i64 x] 62)) := by
  obtain ⟨a, cap, e, h3, h4⟩ := h
  refine ⟨0, x, ?_, by omega, a, cap, e, h3, ?_⟩
  · show (w.heap.push _)[w.heap.size]? = _
    simp
  · rcases h4 with h4 | ⟨blk, off, e2, hb, hc⟩
    · exact Or.inl h4
    · refine Or.inr ⟨blk, off, e2, hb, fun j hj => ?_⟩
      obtain ⟨n, n0, n1, hn⟩ := hc j hj
      exact ⟨n, n0, n1, by rw [((Below.refl _ _).alloc (Nat.le_refl _) _ : Below w.heap.size w _).cell hb]; exact hn⟩

set_option maxHeartbeats 1000000 in
theorem new_any (sv : Value) (len : Nat) (w : World) (hc : CodeOk w.heap.size w sv len) :
    Calls Tryd.prog 25 #[sv] w (NewOut sv len w) := by
  have HN := Lib.hid (fun x => new_cur hc x)
  obtain ⟨a, cap, hsv, hlen, hcode⟩ := hc
  subst hsv
  have HC := Lib.hid hcode; clear hcode
  go_enter Tryd.func25, Tryd.ntmps25
  go_wp2
  go_loop [3, 4] (fun h i => ∃ (k : Nat) (x : Int), k ≤ len ∧ i = .int .i64 k ∧ h = .int .i64 x) (fun _ i => len - (intOf i).toNat)
  case atStart => exact ⟨0, _, Nat.zero_le _, rfl, rfl⟩
  case round =>
    obtain ⟨k, x, hk, rfl, rfl⟩ := hrel
    by_cases hlt : (k : Int) < (len : Int)
    · rcases HC.out with h0 | ⟨blk, off, rfl, hblk, hcells⟩
      · omega
      · obtain ⟨n, n0, n1, hn⟩ := hcells k (by omega)
        clear hcells
        by_cases h4 : (k : Int) < 4000
        · go_wp2
          go_round
          case rel => exact ⟨k + 1, _, by omega, by go_num, rfl⟩
          case measure => simp [intOf]; omega
        · go_wp2
          go_ret
          exact ⟨rfl, HN.out _, (Below.refl _ _).alloc (Nat.le_refl _) _⟩
    · have hltd : decide ((k : Int) < (len : Int)) = false := decide_eq_false hlt
      go_wp2
      go_ret
      exact ⟨rfl, HN.out _, (Below.refl _ _).alloc (Nat.le_refl _) _⟩
end Go.Proofs.YtkjjiinccljhjaaDoor
