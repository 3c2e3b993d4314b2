/- Helper contract: takeBytes of the program gives a part of the slice. Asked: the slice reads as the list named, and the part lies in it. -/
import Derived.Test.YtemoegnijnhigaaHelpB
namespace Go.Proofs.Ytemoegnijnhigaa
open Go.ChangeShapes Go.WideShapes Go.ChangeAt Go.RowKit

theorem reads_empty (k : IntKind) (hi : Nat) (w : World) (a : Option Addr) : Reads k hi w (.slice a 0 0) [] := ⟨a, 0, rfl, Nat.le_refl _, by omega, fun _ => rfl, Or.inl rfl⟩
theorem reads_part {k : IntKind} {hi n cap : Nat} {w : World} {ad : Addr} {bs : List Int} (h : Reads k hi w (.slice (some ad) n cap) bs) {s t : Nat} (hst : s < t) (ht : t ≤ bs.length) :
    Reads k hi w (.slice (some (ad.add s)) (t - s) (t - s)) ((bs.take t).drop s) := by
  obtain ⟨a, cap', e, h1, h2, -, h4⟩ := h
  cases e
  have hl : ((bs.take t).drop s).length = t - s := by simp; omega
  rcases h4 with h4 | ⟨g, off, e2, hg, hc⟩
  · omega
  · cases e2
    have e3 : (⟨g, off, none⟩ : Addr).add s = ⟨g, off + s, none⟩ := by unfold Addr.add; split <;> simp_all
    rw [e3]
    refine ⟨_, t - s, by rw [hl], by rw [hl]; exact Nat.le_refl _, by omega, (fun h => by cases h), Or.inr ⟨g, off + s, rfl, hg, fun j hj => ?_⟩⟩
    rw [hl] at hj
    rw [Nat.add_assoc, hc (s + j) (by omega)]
    have e4 : ((bs.take t).drop s).getD j 0 = bs.getD (s + j) 0 := by
      rw [List.getD_eq_getElem?_getD, List.getD_eq_getElem?_getD, List.getElem?_drop, List.getElem?_take, if_pos (by omega)]
    rw [e4]

set_option maxHeartbeats 1000000 in
theorem take_any (v : Value) (hi : Nat) (bs : List Int) (s t : Nat) (w : World) (hr : Reads .u8 hi w v bs) (hst : s ≤ t) (ht : t ≤ bs.length) :
    Calls Try.prog 51 #[v, .int .i64 s, .int .i64 t] w fun e w' => (∃ v', e = .returned v' ∧ Reads .u8 hi w v' ((bs.take t).drop s)) ∧ w = w' := by
  have HR := Lib.hid hr
  obtain ⟨a, cap, rfl, h1, h2, h3, -⟩ := hr
  have HN := Lib.hid h3; clear h3
  by_cases hd : t = s
  · subst hd
    have he : (bs.take t).drop t = [] := List.drop_eq_nil_of_le (by simp; omega)
    have HE := Lib.hid he; clear he
    cases a with
    | none =>
      have hc := HN.out rfl
      subst hc
      have htt : t = 0 := by omega
      subst htt
      obtain ⟨n, hn⟩ : ∃ n, bs.length = n := ⟨_, rfl⟩
      have hn0 : n = 0 := by omega
      subst hn0
      rw [hn]
      go_enter Try.func51, Try.ntmps51
      go_wp2
      go_ret
      exact ⟨⟨_, rfl, reads_empty _ _ _ _⟩, rfl⟩
    | some ad =>
      go_enter Try.func51, Try.ntmps51
      go_wp2
      go_ret
      exact ⟨⟨_, rfl, by first | exact reads_empty _ _ _ _ | (rw [HE.out]; exact reads_empty _ _ _ _)⟩, rfl⟩
  · have hlt : s < t := by omega
    cases a with
    | none => have hc := HN.out rfl; omega
    | some ad =>
      have HP := Lib.hid (reads_part HR.out hlt ht)
      go_enter Try.func51, Try.ntmps51
      go_wp2
      go_ret
      exact ⟨⟨_, rfl, HP.out⟩, rfl⟩
end Go.Proofs.Ytemoegnijnhigaa
