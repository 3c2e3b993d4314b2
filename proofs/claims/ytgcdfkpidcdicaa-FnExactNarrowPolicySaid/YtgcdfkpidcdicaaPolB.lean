/- Helper contracts: IsPolicy of the program and of the model. Asked: the policy's slices read as named, its strings are not too long. -/
import Derived.Test.YtgcdfkpidcdicaaPolA
import Derived.Test.YtgcdfkpidcdicaaPolE
import Derived.Test.YtgcdfkpidcdicaaVal
namespace Go.Proofs.Ytgcdfkpidcdicaa
open Go.ChangeShapes Go.WideShapes Go.ChangeAt Go.RowKit

/-- The first k are names. -/
def nmTo (xs : List ByteArray) (k : Nat) : Prop := ∀ (j : Nat) (x : ByteArray), j < k → xs[j]? = some x → isNm x = true
theorem nmTo.zero (xs : List ByteArray) : nmTo xs 0 := fun _ _ h => absurd h (Nat.not_lt_zero _)
theorem nmTo.succ {xs : List ByteArray} {x : ByteArray} {k : Nat} (h : nmTo xs k) (hx : xs[k]? = some x) (hn : isNm x = true) : nmTo xs (k + 1) := by
  intro j y hj hy
  by_cases e : j = k
  · subst e; rw [hx] at hy; cases hy; exact hn
  · exact h j y (by omega) hy
theorem okHosts_full {xs : List ByteArray} {k : Nat} (h : nmTo xs k) (hk : xs.length = k) : okHosts xs = decide (xs.length ≤ 4) := by
  unfold okHosts
  have : xs.all isNm = true := List.all_eq_true.2 fun x hx => by
    obtain ⟨j, hj⟩ := List.mem_iff_getElem?.1 hx
    exact h j x (by have := (List.getElem?_eq_some_iff.1 hj).1; omega) hj
  rw [this, Bool.and_true]
theorem okHosts_bad {xs : List ByteArray} {x : ByteArray} {k : Nat} (hx : xs[k]? = some x) (h : isNm x = false) : okHosts xs = false := by
  unfold okHosts
  have : xs.all isNm = false := by
    rw [Bool.eq_false_iff]
    intro ha
    have := List.all_eq_true.1 ha x (List.mem_of_getElem? hx)
    rw [h] at this; cases this
  rw [this, Bool.and_false]
theorem okHosts_long {xs : List ByteArray} (h : ¬ xs.length ≤ 4) : okHosts xs = false := by
  unfold okHosts; rw [decide_eq_false h, Bool.false_and]

theorem nilReads (hi : Nat) (w : World) : ReadsK encS 1 hi w (.slice none 0 0) [] := ⟨none, 0, rfl, Nat.le_refl _, by omega, (fun _ => rfl), Or.inl rfl⟩
theorem ReadsK.len {hi n c : Nat} {w : World} {a : Option Addr} {xs : List ByteArray} (h : ReadsK encS 1 hi w (.slice a n c) xs) : n = xs.length := by
  obtain ⟨_, _, e, _⟩ := h
  injection e

/-- The strings of a policy are not too long. -/
def PolSm (p : Pol) : Prop := (p.scr.length + sumSt p.scr ≤ 1048576) ∧ (p.sty.length + sumSt p.sty ≤ 1048576) ∧ (p.img.length + sumSt p.img ≤ 1048576) ∧ p.non.size ≤ 1048576
theorem small_of {xs : List ByteArray} (h : xs.length + sumSt xs ≤ 1048576) : ∀ s ∈ xs, s.size ≤ 9223372036854775807 := fun s hs => by
  have := sum_le_at hs; unfold sumSt at h; omega
theorem isPol_off_no {scr sty img : List ByteArray} {non : ByteArray} (h : ¬ (scr.length = 0 ∧ sty.length = 0 ∧ img.length = 0 ∧ non.size = 0)) : isPol ⟨false, scr, sty, img, non⟩ = false := by
  rw [Bool.eq_false_iff]
  intro he
  unfold isPol at he
  rw [if_neg Bool.false_ne_true, Bool.and_eq_true, Bool.and_eq_true, Bool.and_eq_true] at he
  obtain ⟨⟨⟨a, b⟩, c⟩, d⟩ := he
  exact h ⟨of_decide_eq_true a, of_decide_eq_true b, of_decide_eq_true c, of_decide_eq_true d⟩
theorem isPol_off_yes {scr sty img : List ByteArray} {non : ByteArray} (h : scr.length = 0 ∧ sty.length = 0 ∧ img.length = 0 ∧ non.size = 0) : isPol ⟨false, scr, sty, img, non⟩ = true := by
  unfold isPol
  rw [if_neg Bool.false_ne_true, Bool.and_eq_true, Bool.and_eq_true, Bool.and_eq_true]
  exact ⟨⟨⟨decide_eq_true h.1, decide_eq_true h.2.1⟩, decide_eq_true h.2.2.1⟩, decide_eq_true h.2.2.2⟩
theorem isPol_eqZ (scr sty img : List ByteArray) (non : ByteArray) : eqP ⟨false, scr, sty, img, non⟩ polZ = isPol ⟨false, scr, sty, img, non⟩ := by
  have e : ∀ l : List ByteArray, decide (l = []) = decide (l.length = 0) := fun l => decide_eq_decide.2 List.length_eq_zero_iff.symm
  have e2 : decide (non = ⟨#[]⟩) = decide (non.size = 0) := decide_eq_decide.2 ⟨fun h => by rw [h]; rfl, emptyB⟩
  unfold eqP isPol polZ
  rw [if_neg Bool.false_ne_true]
  show ((false == false) && decide (scr = []) && decide (sty = []) && decide (img = []) && decide (non = ⟨#[]⟩)) = _
  rw [e, e, e, e2]; rfl

end Go.Proofs.Ytgcdfkpidcdicaa
