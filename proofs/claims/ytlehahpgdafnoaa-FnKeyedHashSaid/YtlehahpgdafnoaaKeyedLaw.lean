/- The walk of the law FnKeyedHash: it returns true, and writes nothing that was there. -/
import Derived.Test.YtlehahpgdafnoaaDerive
import Derived.Test.YtlehahpgdafnoaaOwnG
import Derived.Test.YtlehahpgdafnoaaDrawP3
import Derived.Test.YtlehahpgdafnoaaBig
import Derived.Deep.DeepCutAuto
import Derived.Deep.RegionWith
namespace Go.Proofs.Ytlehahpgdafnoaa
open Go.ChangeShapes Go.WideShapes Go.ChangeAt Go.RowKit

theorem lin_zero {d q : Int} (hq : d * 1000003 = 2147483647 * q) : ∃ r, d = 2147483647 * r := by
  have h5 : d * (1000003 * 1523789695) = 2147483647 * (q * 1523789695) := by rw [← Int.mul_assoc, hq, Int.mul_assoc]
  have h6 : (1000003 : Int) * 1523789695 = 1 + 2147483647 * 709572 := by decide
  rw [h6, Int.mul_add, Int.mul_one, Int.mul_left_comm] at h5
  exact ⟨q * 1523789695 - d * 709572, by rw [Int.mul_sub]; exact (Int.sub_eq_iff_eq_add.2 h5.symm).symm⟩
theorem hstep_inj {a b m : Int} (a0 : 0 ≤ a) (a1 : a < 2147483647) (b0 : 0 ≤ b) (b1 : b < 2147483647) (h : (a * 1000003 + m + 13) % 2147483647 = (b * 1000003 + m + 13) % 2147483647) : a = b := by
  have hs := Int.emod_eq_emod_iff_emod_sub_eq_zero.1 h
  have he : a * 1000003 + m + 13 - (b * 1000003 + m + 13) = (a - b) * 1000003 := by rw [Int.sub_mul]; omega
  rw [he] at hs
  have hq := Int.mul_ediv_add_emod ((a - b) * 1000003) 2147483647
  rw [hs, Int.add_zero] at hq
  obtain ⟨r, hr⟩ := lin_zero hq.symm
  clear hq hs he h
  omega
theorem hstep_inj2 {a m n : Int} (a0 : 0 ≤ m) (a1 : m < 2147483647) (b0 : 0 ≤ n) (b1 : n < 2147483647) (h : (a * 1000003 + m + 13) % 2147483647 = (a * 1000003 + n + 13) % 2147483647) : m = n := by omega
theorem hashL_same {L L' : List Int} {i : Nat} (h : ∀ j, j ≠ i → L.getD j 0 = L'.getD j 0) : ∀ n, n ≤ i → hashL L n = hashL L' n := by
  intro n
  induction n with
  | zero => intro _; rfl
  | succ n ih => intro hn; simp only [hashL]; rw [ih (by omega), h n (by omega)]
theorem hashL_ne {L L' : List Int} {i : Nat} (h : ∀ j, j ≠ i → L.getD j 0 = L'.getD j 0) (hd : modI (L.getD i 0) 2147483647 ≠ modI (L'.getD i 0) 2147483647) : ∀ n, i < n → hashL L n ≠ hashL L' n := by
  intro n
  induction n with
  | zero => intro h; omega
  | succ n ih =>
    intro hn he
    simp only [hashL, hstep] at he
    by_cases hi : n = i
    · subst hi
      rw [hashL_same h n (Nat.le_refl _)] at he
      exact hd (hstep_inj2 (modI_M _).1 (modI_M _).2 (modI_M _).1 (modI_M _).2 he)
    · rw [h n hi] at he
      exact ih (by omega) (hstep_inj (hashL_bd _ _).1 (hashL_bd _ _).2 (hashL_bd _ _).1 (hashL_bd _ _).2 he)
theorem kh_ne {k : Int} {zs : List Int} {i : Nat} {y : Int} (hi : i < zs.length) (hd : modI y 2147483647 ≠ modI (zs.getD i 0) 2147483647) : kh k (zs.set i y) ≠ kh k zs := by
  unfold kh
  have hl : (k :: (zs.set i y ++ [k])).length = (k :: (zs ++ [k])).length := by simp
  rw [hl]
  refine hashL_ne (i := i + 1) ?_ ?_ _ (by simp; omega)
  · intro j hj
    cases j with
    | zero => rfl
    | succ j =>
      have hji : j ≠ i := by omega
      simp only [List.getD_eq_getElem?_getD, List.getElem?_cons_succ, List.getElem?_append, List.length_set]
      split
      · rw [List.getElem?_set_ne (by omega)]
      · rfl
  · have e1 : (k :: (zs.set i y ++ [k])).getD (i + 1) 0 = y := by
      simp only [List.getD_eq_getElem?_getD, List.getElem?_cons_succ, List.getElem?_append, List.length_set]
      rw [if_pos hi, List.getElem?_set_self hi]; rfl
    have e2 : (k :: (zs ++ [k])).getD (i + 1) 0 = zs.getD i 0 := by
      simp only [List.getD_eq_getElem?_getD, List.getElem?_cons_succ, List.getElem?_append]
      rw [if_pos hi]
    rw [e1, e2]; exact hd
theorem mod_moved {z x : Int} (hx0 : 0 ≤ x) (hx1 : x ≤ 255) : modI (modI (z + 1 + x) 2147483647) 2147483647 ≠ modI z 2147483647 := by
  unfold modI
  rw [if_pos (by omega), if_pos (by omega), if_pos (by omega)]
  omega
end Go.Proofs.Ytlehahpgdafnoaa
