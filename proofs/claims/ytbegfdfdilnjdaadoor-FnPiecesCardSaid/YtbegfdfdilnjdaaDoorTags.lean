/- The walk of the law FnTags: it returns true, and writes nothing that was there. -/
import Derived.Test.YtbegfdfdilnjdaaDoorToks
import Derived.Test.YtbegfdfdilnjdaaDoorLawT
import Derived.Test.YtbegfdfdilnjdaaDoorFmtI
import Derived.Test.YtbegfdfdilnjdaaDoorDrawT
import Derived.Test.YtbegfdfdilnjdaaDoorRowOf
namespace Go.Proofs.YtbegfdfdilnjdaaDoor
open Go.ChangeShapes Go.WideShapes Go.ChangeAt Go.RowKit

theorem fmt_tag {s : ByteArray} {t : Tok} (h : tagB s.data.toList = some t) : ofL (fmtT t) = ⟨#[60]⟩ ++ s ++ ⟨#[62]⟩ := bytesEq (by
  rw [ofL_list, tagB_form h, append_list, append_list]; rfl)
theorem tok_eta (t : Tok) : (⟨t.kind, t.name, t.attrs, t.text⟩ : Tok) = t := rfl
theorem tag_fmt_size {s : ByteArray} {t : Tok} (h : tagB s.data.toList = some t) (hs : s.size ≤ 400) : t.name.size + (fmtAs t.attrs).length ≤ 1073741824 := by
  have h1 := congrArg List.length (tagB_form h)
  have hk := tagB_kind h
  rw [List.length_append, List.length_cons, size_list] at h1
  rcases hk with hk | hk
  · unfold fmtT at h1
    rw [if_pos hk] at h1
    simp only [List.length_append, List.length_cons, size_list, List.length_nil] at h1
    omega
  · have ha : t.attrs = [] := by
      unfold tagB at h
      split at h
      · cases h
      · split at h
        · split at h
          · cases h; rfl
          · cases h
        · split at h
          · cases h
          · split at h
            · cases h
            · split at h
              · cases h; exact absurd (show (1 : Int) = 2 from hk) (by decide)
              · cases h
    unfold fmtT at h1
    rw [if_neg (by omega), if_pos hk] at h1
    simp only [List.length_append, List.length_cons, size_list, List.length_nil] at h1
    rw [ha]
    simp only [fmtAs, List.length_nil]
    omega
theorem toks_tag {s : ByteArray} (h : ∀ b ∈ s.data.toList, b ≠ 62) : tokensB ((⟨#[60]⟩ : ByteArray) ++ s ++ ⟨#[62]⟩).data.toList = (tagB s.data.toList).toList := by
  rw [append_list, append_list]
  exact tokens_one h

theorem toks_tagC {s : ByteArray} (h : ∀ b ∈ s.data.toList, b ≠ 62) (hs : s.size ≤ 400) (w : World) :
    Calls Tryd.prog 13 #[.string ((⟨#[60]⟩ : ByteArray) ++ s ++ ⟨#[62]⟩)] w (ToksOut (tagB s.data.toList).toList w) := by
  have h1 := toks_impl ((⟨#[60]⟩ : ByteArray) ++ s ++ ⟨#[62]⟩) (by rw [size_app, size_app]; show 1 + s.size + 1 ≤ 536870912; omega) w
  rwa [toks_tag h] at h1

/-- The one token of a slice. -/
theorem toks_first {B : Nat} {w0 w : World} {v : Value} {p : Tv} (h : MineT B w0 w v [p]) :
    ∃ g c, v = .slice (some ⟨g, 0, none⟩) 1 c ∧ g < w.heap.size ∧ w.cell? ⟨g, 0, none⟩ = some (.int .i64 p.1.kind) ∧ w.cell? ⟨g, 1, none⟩ = some (.string p.1.name) ∧ w.cell? ⟨g, 2, none⟩ = some (sv p.2) ∧ w.cell? ⟨g, 3, none⟩ = some (.string p.1.text) := by
  have h1 := h.row.row
  rcases h1.2 with ⟨_, hz⟩ | ⟨g, cap, cur, rfl, _, hh, _, _, _⟩
  · cases hz
  · refine ⟨g, cap, rfl, heap_lt hh, ?_, ?_, ?_, ?_⟩
    · rw [h1.cellAt 0 (by simp)]; rfl
    · rw [h1.cellAt 1 (by simp)]; rfl
    · rw [h1.cellAt 2 (by simp)]; rfl
    · rw [h1.cellAt 3 (by simp)]; rfl
end Go.Proofs.YtbegfdfdilnjdaaDoor
