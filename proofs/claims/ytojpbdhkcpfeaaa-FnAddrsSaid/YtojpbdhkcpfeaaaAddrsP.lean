/- Plain facts on addresses and their forms: what is parsed from the form of an address; what is parsed is an address. No program. -/
import Derived.Test.YtojpbdhkcpfeaaaPrs
import Derived.Test.YtojpbdhkcpfeaaaStr
namespace Go.Proofs.Ytojpbdhkcpfeaaa
open Go.ChangeShapes Go.WideShapes Go.ChangeAt Go.RowKit

theorem low_not47 {b : UInt8} (h : isLow b = true) : b ≠ 47 := by
  intro e; subst e
  exact absurd h (by decide)
theorem name_noslash {s : ByteArray} (h : isNm s = true) : ∀ b ∈ s.data.toList, b ≠ 47 := by
  unfold isNm at h
  have h2 := (Bool.and_eq_true_iff.1 h).2
  exact fun b hb => low_not47 (List.all_eq_true.1 h2 b hb)
theorem slashAt_join (l m : List UInt8) (h : ∀ b ∈ l, b ≠ 47) : slashAt (l ++ 47 :: m) = some l.length := by
  induction l with
  | nil => rfl
  | cons b l ih =>
    have hb : b ≠ 47 := h b List.mem_cons_self
    show slashAt (b :: (l ++ 47 :: m)) = _
    unfold slashAt
    rw [if_neg hb, ih fun c hc => h c (List.mem_cons_of_mem _ hc)]
    rfl
theorem prs_fmt_yes {h p base : ByteArray} (ha : isAd (h, p) = true) : prsA (fmtA (h, p)) base = ((h, p), true) := by
  have hn : isNm h = true := by unfold isAd at ha; exact (Bool.and_eq_true_iff.1 ha).1
  have e : (fmtA (h, p)).data.toList = h.data.toList ++ 47 :: p.data.toList := by
    rw [fmtA_yes ha, append_list, append_list, List.append_assoc]
    rfl
  have hp : parts (fmtA (h, p)) base = (h, p) := by
    have h1 : slashAt (fmtA (h, p)).data.toList = some h.size := by
      rw [e, slashAt_join _ _ (name_noslash hn), size_list]
    rw [parts_some h1]
    have hs : (fmtA (h, p)).size = h.size + 1 + p.size := by
      rw [← size_list, e]; simp; omega
    refine Prod.ext (bytesEq ?_) (bytesEq ?_)
    · show ((fmtA (h, p)).extract 0 h.size).data.toList = _
      rw [Lib.extract_data, e, List.drop_zero, Nat.sub_zero, ← size_list, List.take_left]
    · show ((fmtA (h, p)).extract (h.size + 1) (fmtA (h, p)).size).data.toList = _
      rw [Lib.extract_data, e, hs, ← size_list h, List.drop_append, List.drop_of_length_le (by omega)]
      simp
      exact List.take_of_length_le (by rw [size_list]; exact Nat.le_refl _)
  unfold prsA
  rw [hp, if_pos ha]
theorem prs_fmt_no {h p base : ByteArray} (ha : isAd (h, p) = false) : prsA (fmtA (h, p)) base = ((⟨#[]⟩, ⟨#[]⟩), false) := by
  have hp : parts (⟨#[]⟩ : ByteArray) base = (base, ⟨#[]⟩) := parts_none rfl
  have hno : isAd (base, (⟨#[]⟩ : ByteArray)) = false := by
    unfold isAd
    rw [isNm_len (s := (⟨#[]⟩ : ByteArray)) (by intro h; exact absurd h.1 (by decide)), Bool.and_false]
  unfold prsA
  rw [fmtA_no ha, hp, if_neg (by rw [hno]; exact Bool.false_ne_true)]
theorem prsA_ok {s base X Y : ByteArray} {B : Bool} (h : prsA s base = ((X, Y), B)) (hB : B = true) : isAd (X, Y) = true := by
  subst hB
  unfold prsA at h
  split at h
  · rename_i h1
    have := (Prod.mk.inj h).1
    rw [← this]; exact h1
  · cases (Prod.mk.inj h).2
end Go.Proofs.Ytojpbdhkcpfeaaa
