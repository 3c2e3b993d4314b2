/- Strings as elements of slices; a new slice of the call's own. Helper facts, no claim of its own. -/
import Derived.Test.YtpkicliimhflgaaRaw
namespace Go.Proofs.Ytpkicliimhflgaa
open Go.ChangeShapes Go.WideShapes Go.ChangeAt Go.RowKit

def encS (s : ByteArray) : List Value := [.string s]
theorem encS_len (s : ByteArray) : (encS s).length = 1 := rfl
theorem encS_one (s : ByteArray) : ∀ u ∈ encS s, u.oneCell' = true := by
  intro u hu
  simp only [encS, List.mem_cons, List.mem_nil_iff, or_false] at hu
  subst hu; rfl
theorem infoStr : (Try.prog.info? 9).map (fun i => (i.zero, i.size, i.bytes)) = some (some (.string ⟨#[]⟩), 1, 16) := by kernel_rfl
/-- A new slice of these elements, the call's own; of what lay in memory nothing is written. -/
def NewK {α : Type} (enc : α → List Value) (k : Nat) (e : TypeId) (xs : List α) (w : World) (en : Ending) (w' : World) : Prop :=
  ∃ v, en = .returned v ∧ OwnK enc k e w.heap.size w'.heap.size w' v xs ∧ Below w.heap.size w w'
theorem add_off (g off t : Nat) : (⟨g, off, none⟩ : Addr).add t = ⟨g, off + t, none⟩ := by unfold Addr.add; split <;> simp_all
theorem leaf_of_data {c : Rw} {v : Value} (h : c.data = (Rw.leaf v).data) : c = .leaf v := by
  cases c with
  | leaf u => rw [leaf_same h]
  | sl u n k e cs => rw [Rw.data, Rw.data] at h; cases h
end Go.Proofs.Ytpkicliimhflgaa
