/- Helper contracts over the draws of chapter 5's laws: whatever the bytes, the strings that are drawn are short, a drawn tag holds no ">", and nothing that lay in memory before is written but the reader's own block. -/
import Derived.Test.YtiginllbfjekeaaDoorBig
import Derived.Test.YtiginllbfjekeaaDoorStr
namespace Go.Proofs.YtiginllbfjekeaaDoor
open Go.ChangeShapes Go.WideShapes Go.ChangeAt Go.RowKit

/-- A short string without ">". -/
def Gt (s : ByteArray) : Prop := s.size ≤ 100 ∧ ∀ b ∈ s.data.toList, b ≠ 62
def gtCell : Value → Bool
  | .string s => decide (s.size ≤ 100) && s.data.toList.all (fun b => !(b == 62))
  | _ => false
theorem gtCell_ok {s : ByteArray} (h : gtCell (.string s) = true) : Gt s := by
  simp only [gtCell, Bool.and_eq_true, decide_eq_true_eq] at h
  refine ⟨h.1, fun b hb e => ?_⟩
  have := List.all_eq_true.1 h.2 b hb
  subst e
  exact absurd this (by decide)
theorem cells_gt (w : World) (C : Array Value) (T : TypeId) (m : Nat) (hm : C.size = m) (h : C.all gtCell = true) : ∀ j, j < m → ∃ s : ByteArray, Gt s ∧ (w.alloc (.cells C T)).cell? ⟨w.heap.size, j, none⟩ = some (.string s) := by
  subst hm
  intro j hj
  have h1 : gtCell C[j] = true := by rw [Array.all_eq_true] at h; exact h j hj
  have h2 : (w.alloc (.cells C T)).cell? ⟨w.heap.size, j, none⟩ = some C[j] := by
    unfold World.cell?
    have h3 : (w.alloc (.cells C T)).heap[w.heap.size]? = some (.cells C T) := by
      show (w.heap.push _)[w.heap.size]? = _
      simp
    rw [h3]
    simp [hj]
  rw [h2]
  cases hc : C[j] with
  | string s => rw [hc] at h1; exact ⟨s, gtCell_ok h1, rfl⟩
  | _ => rw [hc] at h1; simp [gtCell] at h1
def StrP (Q : ByteArray → Prop) (b : Nat) (sv : Value) (len : Nat) (w : World) (e : Ending) (w' : World) : Prop :=
  ∃ s : ByteArray, e = .returned (.string s) ∧ Q s ∧ Cur b sv len w' ∧ Kept b w w'
theorem strP_any (Q : ByteArray → Prop) (b : Nat) (sv : Value) (len : Nat) (g m cap : Nat) (w : World) (hc : Cur b sv len w) (hgb : g ≠ b) (hm : 0 < m) (hm2 : m ≤ 1000)
    (hcells : ∀ j, j < m → ∃ s : ByteArray, Q s ∧ w.cell? ⟨g, j, none⟩ = some (.string s)) :
    Calls Tryd.prog 26 #[.pointer (some ⟨b, 0, none⟩), .slice (some ⟨g, 0, none⟩) m cap] w (StrP Q b sv len w) := by
  have HC := Lib.hid hc; have HS := Lib.hid hcells; clear hc hcells
  go_enter Tryd.func26, Tryd.ntmps26
  go_wp2_with fail
  refine (below_any b sv len m _ HC.out).mono ?_
  rintro e w1 ⟨x, rfl, hx0, hx1, hx2, hc1, ho1⟩
  have hx3 := hx1 (by omega)
  obtain ⟨k, rfl⟩ := Int.eq_ofNat_of_zero_le hx0
  obtain ⟨s, s1, hv⟩ := HS.out k (by omega)
  rw [← ho1.cell (show (⟨g, k, none⟩ : Addr).block ≠ b from hgb)] at hv
  have HC1 := Lib.hid hc1; have HO1 := Lib.hid ho1; clear hc1 ho1 hx1
  go_wp2_with fail
  go_ret
  exact ⟨s, rfl, s1, HC1.out, HO1.out.kept⟩

/-- A drawn tag: not long, without ">". -/
def Tg (s : ByteArray) : Prop := s.size ≤ 400 ∧ ∀ b ∈ s.data.toList, b ≠ 62
theorem Gt.tg {s : ByteArray} (h : Gt s) : Tg s := ⟨by have := h.1; omega, h.2⟩
theorem tg_append {a b : ByteArray} (h1 : ∀ x ∈ a.data.toList, x ≠ 62) (h2 : ∀ x ∈ b.data.toList, x ≠ 62) : ∀ x ∈ (a ++ b).data.toList, x ≠ 62 := by
  intro x hx
  rw [append_list] at hx
  rcases List.mem_append.1 hx with h | h
  · exact h1 x h
  · exact h2 x h
theorem size_alloc0 (w : World) (o : Obj) : (w.alloc o).heap.size = w.heap.size + 1 := by show (w.heap.push o).size = _; simp
theorem size_app (a b : ByteArray) : (a ++ b).size = a.size + b.size := ByteArray.size_append

/-- A string, and a slice of numbers, that were drawn; nothing old is written. -/
def DrawnT (Q : ByteArray → Prop) (w : World) (en : Ending) (w' : World) : Prop := ∃ s : ByteArray, en = .returned (.string s) ∧ Q s ∧ Below w.heap.size w w'

/-- A drawn page. -/
def Pg (s : ByteArray) : Prop := s.size ≤ 6000
end Go.Proofs.YtiginllbfjekeaaDoor
