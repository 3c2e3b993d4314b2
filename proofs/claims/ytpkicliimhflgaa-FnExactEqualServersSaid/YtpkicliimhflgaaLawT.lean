/- Helper facts for the walks of the exact laws over tokens: bounds on the marks, the call's own tokens over the changes of memory. No claim of its own. -/
import Derived.Test.YtpkicliimhflgaaFeedP
import Derived.Test.YtpkicliimhflgaaRawL
namespace Go.Proofs.Ytpkicliimhflgaa
open Go.ChangeShapes Go.WideShapes Go.ChangeAt Go.RowKit

theorem tagB_attrs {l : List UInt8} {t : Tok} (h : tagB l = some t) : t.attrs.length ≤ 4 := by
  unfold tagB at h
  split at h
  · cases h
  · split at h
    · split at h
      · cases h; exact Nat.zero_le _
      · cases h
    · split at h
      · cases h
      · split at h
        · cases h
        · split at h
          · rename_i hh; cases h; exact hh.2
          · cases h
theorem feed_attrs (a : List UInt8) : ∀ t ∈ (feedB a).1, t.attrs.length ≤ 4 := by
  generalize hn : a.length = n
  induction n using Nat.strongRecOn generalizing a with
  | _ n ih =>
    by_cases h1 : 0 < idxB 60 a ∧ idxB 60 a < a.length
    · rw [feed_text h1.1 h1.2]
      intro t ht
      rcases List.mem_cons.1 ht with h | h
      · subst h; exact Nat.zero_le _
      · exact ih (a.length - idxB 60 a) (by omega) (a.drop (idxB 60 a)) List.length_drop t h
    · by_cases h2 : idxB 60 a = 0 ∧ idxB 62 a < a.length
      · rw [feed_tag h2.1 h2.2]
        intro t ht
        rcases List.mem_append.1 ht with h | h
        · exact tagB_attrs (Option.mem_toList.1 h)
        · exact ih (a.length - (idxB 62 a + 1)) (by omega) (a.drop (idxB 62 a + 1)) List.length_drop t h
      · have hl := idxB_le 60 a
        have hl2 := idxB_le 62 a
        rw [feed_end (x := a) (by omega) h1]
        intro t ht; cases ht
theorem end_attrs (r : List UInt8) : ∀ t ∈ endB r, t.attrs.length ≤ 4 := by
  intro t ht
  unfold endB at ht
  split at ht
  · cases ht
  · rw [List.mem_singleton] at ht; subst ht; exact Nat.zero_le _
theorem tokens_attrs (s : List UInt8) : ∀ t ∈ tokensB s, t.attrs.length ≤ 4 := by
  intro t ht
  rcases List.mem_append.1 ht with h | h
  · exact feed_attrs s t h
  · exact end_attrs _ t h
theorem atCells_count : ∀ ats : List At, countL (atCells ats) = 2 * ats.length
  | [] => rfl
  | a :: ats => by rw [atCells, countL, countL, Rw.count, Rw.count, atCells_count ats, List.length_cons]; omega
theorem mark_is_read {x : Rw} {lo hi k hi' : Nat} {w : World} (h : (x.mark k).OwnR lo hi w) (hh : hi ≤ hi') : (x.mark k).ReadR hi' w := Rw.ReadR.mono hh _ (Rw.OwnR.reads _ h)
theorem own_read {x : Rw} {lo hi hi' : Nat} {w : World} (h : x.OwnR lo hi w) (hh : hi ≤ hi') : x.ReadR hi' w := Rw.ReadR.mono hh _ (Rw.OwnR.reads _ h)
/-- What another call owns is as it was when this call's own is written. -/
theorem own_apart {x y : Rw} {lo hi lo' hi' : Nat} {w w' : World} (h : x.OwnR lo hi w) (hy : y.OwnR lo' hi' w) (hh : hi ≤ lo') (ho : OnlyB y.blocks w w') : x.OwnR lo hi w' := by
  refine Rw.OwnR.only ho x h fun b hb hby => ?_
  have h1 := Rw.OwnR.lt x h b hb
  have h2 := Rw.OwnR.lt y hy b hby
  omega
theorem own_back {y : Rw} {lo hi : Nat} {w0 w w' : World} (hb : Below lo w0 w) (hy : y.OwnR lo hi w) (hl : lo ≤ w.heap.size) (ho : OnlyB y.blocks w w') : Below lo w0 w' :=
  hb.trans (ho.below (fun b hbm => (Rw.OwnR.lt y hy b hbm).1) hl)
theorem optL_nodup (o : Option Nat) : o.toList.Nodup := by cases o <;> simp
end Go.Proofs.Ytpkicliimhflgaa
