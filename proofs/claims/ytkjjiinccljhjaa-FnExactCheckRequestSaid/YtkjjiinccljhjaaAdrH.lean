/- Helper contracts over the functions with which the laws copy, measure and compare one address. No conditions beyond the types. -/
import Derived.Test.YtkjjiinccljhjaaCmp
import Derived.Test.YtkjjiinccljhjaaRec
import Derived.Test.YtkjjiinccljhjaaPrs
namespace Go.Proofs.Ytkjjiinccljhjaa
open Go.ChangeShapes Go.WideShapes Go.ChangeAt Go.RowKit

theorem dec_self {α : Type} [DecidableEq α] (a : α) : decide (a = a) = true := decide_eq_true rfl
abbrev aggA (a : Ad) : Value := .agg #[.string a.1, .string a.2]

set_option maxHeartbeats 1000000 in
theorem toA_any (h p : ByteArray) (w : World) :
    Calls Try.prog 28 #[.agg #[.string h, .string p]] w fun e w' => e = .returned (.agg #[.string h, .string p]) ∧ Grw w w' := by
  go_enter Try.func28, Try.ntmps28
  go_wp2_with fail
  refine bodyPost_ret (v := .agg #[.string h, .string p]) (by simp [results, Try.results28, go_sem]) rfl ⟨rfl, ?_⟩
  exact (((Grw.refl _).alloc _).alloc _).alloc _

def SzOut (h p : ByteArray) (left : Int) (w : World) (e : Ending) (w' : World) : Prop :=
  ∃ r : Int, e = .returned (.int .i64 r) ∧ -1 ≤ r ∧ (0 ≤ r → r + h.size + p.size = left) ∧ Below w.heap.size w w'
set_option maxHeartbeats 1000000 in
theorem szA_any (h p : ByteArray) (left : Int) (h1 : h.size ≤ 9223372036854775807) (h2 : p.size ≤ 9223372036854775807) (l1 : -1 ≤ left) (l2 : left ≤ 1099511627776) (w : World) :
    Calls Try.prog 23 #[.agg #[.string h, .string p], .int .i64 left] w (SzOut h p left w) := by
  have HB := Lib.hid ((Below.refl w.heap.size w).alloc (Nat.le_refl _) (.cells #[.string h, .string p] 23))
  by_cases c1 : left - h.size < 0
  · go_enter Try.func23, Try.ntmps23
    go_wp2_with fail
    go_ret
    exact ⟨-1, rfl, by omega, by omega, HB.out⟩
  · by_cases c2 : left - h.size - p.size < 0
    · go_enter Try.func23, Try.ntmps23
      go_wp2_with fail
      go_ret
      exact ⟨-1, rfl, by omega, by omega, HB.out⟩
    · go_enter Try.func23, Try.ntmps23
      go_wp2_with fail
      go_ret
      exact ⟨left - h.size - p.size, rfl, by omega, by omega, HB.out⟩

theorem eqA_pair {h p h' p' : ByteArray} : decide ((h, p) = (h', p')) = (decide (h = h') && decide (p = p')) := by
  rw [← Bool.decide_and]
  apply decide_eq_decide.2
  exact Prod.mk.injEq _ _ _ _ ▸ Iff.rfl
end Go.Proofs.Ytkjjiinccljhjaa
