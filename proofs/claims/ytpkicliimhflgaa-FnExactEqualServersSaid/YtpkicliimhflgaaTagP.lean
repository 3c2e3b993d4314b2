/- Helper facts for the walks over tags: a struct of four cells in a block, append of one attribute at a step of a drawn region, and what TagOf answers, in plain words. No claim of its own. -/
import Derived.Test.YtpkicliimhflgaaSpl
import Derived.Test.YtpkicliimhflgaaFnd
import Derived.Test.YtpkicliimhflgaaVal
import Derived.Deep.AppendLies
import Derived.Deep.RegionLaw
import Derived.Deep.RegionWith
import Derived.Test.YtpkicliimhflgaaRawL
namespace Go.Proofs.Ytpkicliimhflgaa
open Go.ChangeShapes Go.WideShapes Go.ChangeAt Go.RowKit

theorem heap_four {w : World} {b : Nat} {x0 x1 x2 x3 : Value} {T : TypeId} (h : w.heap[b]? = some (.cells #[x0, x1, x2, x3] T (0, 0))) (u0 u1 u2 u3 : Value) :
    ((((w.setCell ⟨b, 0, none⟩ u0).setCell ⟨b, 1, none⟩ u1).setCell ⟨b, 2, none⟩ u2).setCell ⟨b, 3, none⟩ u3).heap[b]? = some (.cells #[u0, u1, u2, u3] T (0, 0)) := by
  have h0 := heap_one (o := 0) h u0
  have h1 := heap_one (o := 1) h0 u1
  have h2 := heap_one (o := 2) h1 u2
  have h3 := heap_one (o := 3) h2 u3
  rw [h3]; rfl
theorem cells_four {w : World} {b : Nat} {x0 x1 x2 x3 : Value} {T : TypeId} (h : w.heap[b]? = some (.cells #[x0, x1, x2, x3] T (0, 0))) :
    (w.cell? ⟨b, 0, none⟩ = some x0 ∧ w.cell? ⟨b, 1, none⟩ = some x1 ∧ w.cell? ⟨b, 2, none⟩ = some x2 ∧ w.cell? ⟨b, 3, none⟩ = some x3) ∧
    (w.frozen? ⟨b, 0, none⟩ = false ∧ w.frozen? ⟨b, 1, none⟩ = false ∧ w.frozen? ⟨b, 2, none⟩ = false ∧ w.frozen? ⟨b, 3, none⟩ = false) := by
  refine ⟨⟨?_, ?_, ?_, ?_⟩, ?_, ?_, ?_, ?_⟩
  · unfold World.cell?; rw [h]; rfl
  · unfold World.cell?; rw [h]; rfl
  · unfold World.cell?; rw [h]; rfl
  · unfold World.cell?; rw [h]; rfl
  · unfold World.frozen?; rw [h]; rfl
  · unfold World.frozen?; rw [h]; rfl
  · unfold World.frozen?; rw [h]; rfl
  · unfold World.frozen?; rw [h]; rfl
theorem below_four {B : Nat} {w w2 : World} (h : Below B w w2) {b : Nat} (hb : B ≤ b) (u0 u1 u2 u3 : Value) :
    Below B w ((((w2.setCell ⟨b, 0, none⟩ u0).setCell ⟨b, 1, none⟩ u1).setCell ⟨b, 2, none⟩ u2).setCell ⟨b, 3, none⟩ u3) :=
  (((h.setCell hb _).setCell hb _).setCell hb _).setCell hb _
theorem readsK_grown {α : Type} {enc : α → List Value} {k hi : Nat} {w : World} {v : Value} {xs : List α} (h : ReadsK enc k hi w v xs) (hh : hi ≤ w.heap.size) (n : Nat) (os : Array Obj) : ReadsK enc k hi (Sort.grow (w.drewN n) os) v xs := h.grw hh ⟨n, os, rfl⟩
theorem size_grown {hi : Nat} {w : World} (hh : hi ≤ w.heap.size) (n : Nat) (os : Array Obj) : hi ≤ (Sort.grow (w.drewN n) os).heap.size := by
  show hi ≤ (w.heap ++ os).size; simp; omega

/-- The token of a tag, or the zero token. -/
def tagT (s : ByteArray) : Tok := (tagB s.data.toList).getD tokZero
def tagOk (s : ByteArray) : Bool := (tagB s.data.toList).isSome
abbrev zTok : Value := .agg #[.int .i64 0, .string ⟨#[]⟩, .slice none 0 0, .string ⟨#[]⟩]
theorem tag_long {s : ByteArray} (h : 60 < s.size) : tagB s.data.toList = none := tagB_long (by rw [size_list]; exact h)
theorem tag_close_yes {s : ByteArray} {r : List UInt8} (h : s.size ≤ 60) (hs : s.data.toList = 47 :: r) (hn : isNm (ofL r) = true) : tagB s.data.toList = some (tokClose (ofL r)) := by
  have : r.length < 60 := by rw [← size_list, hs] at h; simp at h; omega
  rw [hs, tagB_close this, if_pos hn]
theorem tag_close_no {s : ByteArray} {r : List UInt8} (h : s.size ≤ 60) (hs : s.data.toList = 47 :: r) (hn : isNm (ofL r) = false) : tagB s.data.toList = none := by
  have : r.length < 60 := by rw [← size_list, hs] at h; simp at h; omega
  rw [hs, tagB_close this, if_neg (by rw [hn]; exact Bool.false_ne_true)]
theorem tag_open_none {s : ByteArray} {n : List UInt8} {ps : List (List UInt8)} (h : s.size ≤ 60) (h0 : s.data.toList[0]? ≠ some 47) (hs : splitB 32 s.data.toList = n :: ps) (ha : attrsB ps [] = none) : tagB s.data.toList = none := by
  rw [tagB_open (by rw [size_list]; exact h) h0 hs, ha]
theorem tag_open_no {s : ByteArray} {n : List UInt8} {ps : List (List UInt8)} {ats : List At} (h : s.size ≤ 60) (h0 : s.data.toList[0]? ≠ some 47) (hs : splitB 32 s.data.toList = n :: ps) (ha : attrsB ps [] = some ats) (hn : isNm (ofL n) = false ∨ 4 < ats.length) : tagB s.data.toList = none := by
  rw [tagB_open (by rw [size_list]; exact h) h0 hs, ha]
  refine if_neg fun hc => ?_
  rcases hn with hn | hn
  · rw [hn] at hc; exact Bool.false_ne_true hc.1
  · omega
theorem tag_open_yes {s : ByteArray} {n : List UInt8} {ps : List (List UInt8)} {ats : List At} (h : s.size ≤ 60) (h0 : s.data.toList[0]? ≠ some 47) (hs : splitB 32 s.data.toList = n :: ps) (ha : attrsB ps [] = some ats) (hn : isNm (ofL n) = true) (hl : ats.length ≤ 4) : tagB s.data.toList = some (tokOpen (ofL n) ats) := by
  rw [tagB_open (by rw [size_list]; exact h) h0 hs, ha]
  exact if_pos ⟨hn, hl⟩
/-- The attributes behind the first m pieces, those of which are taken. -/
def attTo (ps : List (List UInt8)) (m : Nat) (acc : List At) : Prop := attrsB ps [] = attrsB (ps.drop m) acc
theorem attTo.zero (ps : List (List UInt8)) : attTo ps 0 [] := by unfold attTo; rw [List.drop_zero]
theorem dropL_at {α : Type} {l : List α} {k : Nat} {a : α} (h : l[k]? = some a) : l.drop k = a :: l.drop (k + 1) := by
  have hk := (List.getElem?_eq_some_iff.1 h).1
  rw [List.drop_eq_getElem_cons hk, show l[k] = a from Option.some.inj ((List.getElem?_eq_getElem hk).symm.trans h)]
theorem attTo.bad {ps : List (List UInt8)} {m : Nat} {acc : List At} {p : List UInt8} (h : attTo ps m acc) (hp : ps[m]? = some p) (hb : attrB p = none) : attrsB ps [] = none := by
  unfold attTo at h; rw [h, dropL_at hp, attrsB, hb]
theorem attTo.twice {ps : List (List UInt8)} {m : Nat} {acc : List At} {p : List UInt8} {a : At} (h : attTo ps m acc) (hp : ps[m]? = some p) (hb : attrB p = some a) {v : ByteArray} (hf : findA acc a.1 = some v) : attrsB ps [] = none := by
  unfold attTo at h; rw [h, dropL_at hp, attrsB, hb]
  simp only
  rw [hf]; rfl
theorem attTo.succ {ps : List (List UInt8)} {m : Nat} {acc : List At} {p : List UInt8} {a : At} (h : attTo ps m acc) (hp : ps[m]? = some p) (hb : attrB p = some a) (hf : findA acc a.1 = none) : attTo ps (m + 1) (acc ++ [a]) := by
  unfold attTo at h ⊢; rw [h, dropL_at hp, attrsB, hb]
  simp only
  rw [hf]; rfl
theorem attTo.full {ps : List (List UInt8)} {m : Nat} {acc : List At} (h : attTo ps m acc) (hm : ps.length ≤ m) : attrsB ps [] = some acc := by
  unfold attTo at h; rw [h, List.drop_of_length_le hm, attrsB]
theorem attrB_len {p : List UInt8} (h : (splitB 61 p).length ≠ 2) : attrB p = none := by
  unfold attrB
  split
  · rename_i k v hs; rw [hs] at h; exact absurd rfl h
  · rfl
theorem attrB_yes {p k v : List UInt8} (h : splitB 61 p = [k, v]) (h1 : isNm (ofL k) = true) (h2 : isVal (ofL v) = true) : attrB p = some (ofL k, ofL v) := by
  unfold attrB; rw [h]; simp only; rw [if_pos ⟨h1, h2⟩]
theorem attrB_no {p k v : List UInt8} (h : splitB 61 p = [k, v]) (hn : isNm (ofL k) = false ∨ isVal (ofL v) = false) : attrB p = none := by
  unfold attrB; rw [h]; simp only
  refine if_neg fun hc => ?_
  rcases hn with hn | hn
  · rw [hn] at hc; exact Bool.false_ne_true hc.1
  · rw [hn] at hc; exact Bool.false_ne_true hc.2
theorem first_slash {s : ByteArray} (h : s.data.toList[0]? = some 47) : ∃ r, s.data.toList = 47 :: r := by
  cases hl : s.data.toList with
  | nil => rw [hl] at h; simp at h
  | cons b l => rw [hl] at h; simp at h; subst h; exact ⟨l, rfl⟩
theorem OwnK.slice {α : Type} {enc : α → List Value} {k : Nat} {e : TypeId} {lo hi : Nat} {w : World} {v : Value} {xs : List α} (h : OwnK enc k e lo hi w v xs) : ∃ a c, v = .slice a xs.length c := by
  rcases h.1.2 with ⟨rfl, h0⟩ | ⟨g, cap, cur, rfl, _⟩
  · exact ⟨none, 0, by rw [h0]⟩
  · exact ⟨_, _, rfl⟩
theorem OwnK.slice' {α : Type} {enc : α → List Value} {k : Nat} {e : TypeId} {lo hi : Nat} {w : World} {v : Value} {xs : List α} (h : OwnK enc k e lo hi w v xs) : ∃ a n c, v = .slice a n c := by
  obtain ⟨a, c, e⟩ := h.slice
  exact ⟨a, _, c, e⟩
theorem OwnK.strAt {lo hi : Nat} {w : World} {v : Value} {xs : List ByteArray} (h : OwnK encS 1 9 lo hi w v xs) (h0 : 0 < xs.length) :
    ∃ g cap, v = .slice (some ⟨g, 0, none⟩) xs.length cap ∧ lo ≤ g ∧ g < hi ∧ g < w.heap.size ∧ xs.length ≤ cap ∧ cap ≤ 9223372036854775807 ∧ ∀ (j : Nat) x, xs[j]? = some x → w.cell? ⟨g, j, none⟩ = some (.string x) := by
  have hr := h.reads encS_len
  have h1 := h.1
  rcases h1.2 with ⟨_, hz⟩ | ⟨g, cap, cur, rfl, hg, hh, hc, hm, _⟩
  · omega
  · refine ⟨g, cap, rfl, hg, h.2 g rfl, heap_lt hh, hc, by unfold maxLen at hm; omega, fun j x hj => ?_⟩
    have := hr.news encS_len j (.string x) (by
      have := flat_at encS_len hj (show 0 < 1 by decide)
      simpa [encS] using this)
    rwa [add_off, Nat.zero_add] at this
theorem OwnK.strCell {lo hi g n cap j : Nat} {w : World} {xs : List ByteArray} {x : ByteArray} (h : OwnK encS 1 9 lo hi w (.slice (some ⟨g, 0, none⟩) n cap) xs) (hx : xs[j]? = some x) : w.cell? ⟨g, j, none⟩ = some (.string x) := by
  have e : n = xs.length := by
    obtain ⟨a, c, e, _⟩ := h.reads encS_len
    injection e
  subst e
  have := (h.reads encS_len).news encS_len j (.string x) (by
    have := flat_at encS_len hx (show 0 < 1 by decide)
    simpa [encS] using this)
  rwa [add_off, Nat.zero_add] at this
theorem split_two {c : UInt8} {l : List UInt8} (h : (splS c l).length = 2) : ∃ k v, splitB c l = [k, v] ∧ splS c l = [ofL k, ofL v] := by
  unfold splS at h ⊢
  rw [List.length_map] at h
  match hs : splitB c l, h with
  | [k, v], _ => exact ⟨k, v, rfl, rfl⟩
theorem ownK_below {α : Type} {enc : α → List Value} {k : Nat} {e : TypeId} {lo hi B : Nat} {w w' : World} {v : Value} {xs : List α} (h : OwnK enc k e lo hi w v xs) (hb : Below B w w') (hB : hi ≤ B) : OwnK enc k e lo hi w' v xs := by
  refine ⟨⟨h.1.1, ?_⟩, h.2⟩
  rcases h.1.2 with h1 | ⟨g, cap, cur, h1, h2, h3, h4⟩
  · exact Or.inl h1
  · have hg := h.2 g (by rw [h1]; rfl)
    exact Or.inr ⟨g, cap, cur, h1, h2, by rw [hb.block g (by omega)]; exact h3, h4⟩
theorem ownK_set {α : Type} {enc : α → List Value} {k : Nat} {e : TypeId} {lo hi b o : Nat} {w : World} {v u : Value} {xs : List α} (h : OwnK enc k e lo hi w v xs) (hb : b < lo) : OwnK enc k e lo hi (w.setCell ⟨b, o, none⟩ u) v xs := by
  refine ⟨⟨h.1.1, ?_⟩, h.2⟩
  rcases h.1.2 with h1 | ⟨g, cap, cur, h1, h2, h3, h4⟩
  · exact Or.inl h1
  · exact Or.inr ⟨g, cap, cur, h1, h2, by rw [Below.heap_setCell _ _ _ _ (show g ≠ b by omega)]; exact h3, h4⟩
theorem ownK_set4 {α : Type} {enc : α → List Value} {k : Nat} {e : TypeId} {lo lo' hi b : Nat} {w : World} {v : Value} {xs : List α} (h : OwnK enc k e lo hi w v xs) (hb : b < lo) (hl : lo' ≤ lo) (hh : hi ≤ w.heap.size) (u0 u1 u2 u3 : Value) :
    OwnK enc k e lo' ((((w.setCell ⟨b, 0, none⟩ u0).setCell ⟨b, 1, none⟩ u1).setCell ⟨b, 2, none⟩ u2).setCell ⟨b, 3, none⟩ u3).heap.size ((((w.setCell ⟨b, 0, none⟩ u0).setCell ⟨b, 1, none⟩ u1).setCell ⟨b, 2, none⟩ u2).setCell ⟨b, 3, none⟩ u3) v xs :=
  (ownK_set (ownK_set (ownK_set (ownK_set h hb) hb) hb) hb).mono hl (Nat.le_trans hh (Nat.le_trans (size_set _ _ _) (Nat.le_trans (size_set _ _ _) (Nat.le_trans (size_set _ _ _) (size_set _ _ _)))))
theorem splS_pos (c : UInt8) (l : List UInt8) : 0 < (splS c l).length := by
  unfold splS; rw [List.length_map]
  cases h : splitB c l with
  | nil => exact absurd h (splitB_ne _ _)
  | cons a b => simp
end Go.Proofs.Ytpkicliimhflgaa
