/- Helper contracts: Allows, AllowsInline, KindName of the program and of the model. Asked: the policy's slices read as named. -/
import Derived.Test.YtgcdfkpidcdicaaHasS
namespace Go.Proofs.Ytgcdfkpidcdicaa
open Go.ChangeShapes Go.WideShapes Go.ChangeAt Go.RowKit

theorem empP_size (s : ByteArray) : (s.toList == []) = decide (s.size = 0) := by
  by_cases h : s.size = 0
  · obtain rfl := emptyB h; rw [ByteArray.toList_eq]; rfl
  · rw [decide_eq_false h]
    refine beq_eq_false_iff_ne.2 fun e => h ?_
    rw [ByteArray.toList_eq] at e
    rw [← size_list, e]; rfl

/-- KindName. -/
def knB (k : Int) : ByteArray := if k = 1 then ⟨#[112, 97, 103, 101]⟩ else if k = 2 then ⟨#[115, 99, 114, 105, 112, 116]⟩ else if k = 3 then ⟨#[115, 116, 121, 108, 101]⟩ else if k = 4 then ⟨#[105, 109, 97, 103, 101]⟩ else if k = 5 then ⟨#[109, 111, 100, 117, 108, 101]⟩ else ⟨#[]⟩
end Go.Proofs.Ytgcdfkpidcdicaa
