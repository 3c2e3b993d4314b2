/- Helper contracts on trees that only read: IsVoid, the nodes by pointer, what can be open, NewBuilder. Asked: what lies in memory is as named. -/
import Derived.Test.YtpkicliimhflgaaNd
import Derived.Test.YtpkicliimhflgaaInts
import Derived.Test.YtpkicliimhflgaaFnd
namespace Go.Proofs.Ytpkicliimhflgaa
open Go.ChangeShapes Go.WideShapes Go.ChangeAt Go.RowKit

theorem emp_size {s : ByteArray} : (s.toList == ([] : List UInt8)) = decide (s.size = 0) := by
  rw [ByteArray.toList_eq]
  have h := size_list s
  by_cases e : s.size = 0
  · rw [decide_eq_true e, List.eq_nil_of_length_eq_zero (h.trans e)]; rfl
  · rw [decide_eq_false e]
    refine beq_eq_false_iff_ne.2 fun k => e ?_
    rw [k] at h; simpa using h.symm
theorem nd_at {ns : List Nv} {k : Nat} (h : k < ns.length) : ∃ p, ns[k]? = some p := ⟨_, List.getElem?_eq_getElem h⟩
/-- The cells of node k. -/
theorem ReadN.at {hi n cap k : Nat} {w : World} {a : Option Addr} {ns : List Nv} {p : Nv} (h : ReadN hi w (.slice a n cap) ns) (hk : ns[k]? = some p) :
    ∃ g off, a = some ⟨g, off, none⟩ ∧ g < hi ∧ w.cell? ⟨g, off + k * 4, none⟩ = some (.string p.1.name) ∧ w.cell? ⟨g, off + k * 4 + 1, none⟩ = some (.string p.1.text) ∧ w.cell? ⟨g, off + k * 4 + 2, none⟩ = some (.int .i64 p.1.parent) ∧ w.cell? ⟨g, off + k * 4 + 3, none⟩ = some (sv p.2) := by
  obtain ⟨⟨a', cap', e, h1, h2, h3, h4⟩, _⟩ := h
  cases e
  have hlt := (List.getElem?_eq_some_iff.1 hk).1
  rcases h4 with h4 | ⟨g, off, rfl, hg, hc⟩
  · omega
  · exact ⟨g, off, rfl, hg, hc k p hk 0 (by omega), hc k p hk 1 (by omega), hc k p hk 2 (by omega), hc k p hk 3 (by omega)⟩
theorem ReadN.form {hi : Nat} {w : World} {v : Value} {ns : List Nv} (h : ReadN hi w v ns) : ∃ a cap, v = .slice a ns.length cap ∧ ns.length ≤ cap ∧ cap ≤ 9223372036854775807 := by
  obtain ⟨⟨a, cap, e, h1, h2, _⟩, _⟩ := h
  exact ⟨a, cap, e, h1, h2⟩
theorem reads_form {hi : Nat} {w : World} {v : Value} {zs : List Int} (h : Reads .i64 hi w v zs) : ∃ a cap, v = .slice a zs.length cap ∧ zs.length ≤ cap ∧ cap ≤ 9223372036854775807 := by
  obtain ⟨a, cap, e, h1, h2, _⟩ := h
  exact ⟨a, cap, e, h1, h2⟩
theorem reads_at {hi n cap k : Nat} {w : World} {a : Option Addr} {zs : List Int} (h : Reads .i64 hi w (.slice a n cap) zs) (hk : k < zs.length) :
    ∃ g off, a = some ⟨g, off, none⟩ ∧ g < hi ∧ w.cell? ⟨g, off + k, none⟩ = some (.int .i64 (zs.getD k 0)) := by
  obtain ⟨a', cap', e, h1, h2, h3, h4⟩ := h
  cases e
  rcases h4 with h4 | ⟨g, off, rfl, hg, hc⟩
  · omega
  · exact ⟨g, off, rfl, hg, hc k hk⟩

theorem nil_size {α : Type} {l : List α} [DecidableEq α] : decide (l = []) = decide (l.length = 0) := decide_eq_decide.2 ⟨fun h => by rw [h]; rfl, List.eq_nil_of_length_eq_zero⟩

end Go.Proofs.Ytpkicliimhflgaa
