/- What a row's condition on the five listed variables gives to the walks over ParseInt. Helper facts, no claim of its own. -/
import Derived.Test.YtcklhpghbfhjiaaDoorLaidFacts
import Derived.Test.YtcklhpghbfhjiaaDoorParse
namespace Go.Proofs.YtcklhpghbfhjiaaDoor
open Go.ChangeShapes Go.WideShapes Go.ChangeAt Go.RowKit

theorem gES : Tryd.prog.globalNamed "strconv.ErrSyntax" = some 0 := by kernel_rfl
theorem tES : (Tryd.prog.globals[0]?).map (·.type) = some 41 := by kernel_rfl
theorem gER : Tryd.prog.globalNamed "strconv.ErrRange" = some 1 := by kernel_rfl
theorem tER : (Tryd.prog.globals[1]?).map (·.type) = some 41 := by kernel_rfl
theorem cellsES : Tryd.prog.cellsOf 75 = 1 := by kernel_rfl
theorem cellsStr : Tryd.prog.cellsOf 9 = 1 := by kernel_rfl
theorem star : "*" ++ "errors.errorString" = "*errors.errorString" := by decide
theorem rowOf (u : TypeId) (h : Tryd.prog.typeName? 3 u = some "*errors.errorString") : u = 73 :=
  typeName_ptr_named (nm := "errors.errorString") (by rw [star]; kernel_rfl) (by kernel_rfl) (by decide) u (by rw [star]; exact h)
theorem laid_of {W : World} (h : laidMetH Tryd.prog laid5 W) : Laid W := by
  have hL := plain5 h
  obtain ⟨a0, s0, hv0, -, -, -⟩ := laid_sentinel hL.tail.tail.tail gER tER Tryd.underlying41 rowOf Tryd.underlying73 Tryd.underlying75 rfl rfl Tryd.underlying9 cellsES cellsStr
  obtain ⟨a1, s1, hv1, -, -, -⟩ := laid_sentinel hL.tail.tail.tail.tail gES tES Tryd.underlying41 rowOf Tryd.underlying73 Tryd.underlying75 rfl rfl Tryd.underlying9 cellsES cellsStr
  exact ⟨tab_of_laid5 h, ⟨_, _, hv1⟩, ⟨_, _, hv0⟩⟩
end Go.Proofs.YtcklhpghbfhjiaaDoor
