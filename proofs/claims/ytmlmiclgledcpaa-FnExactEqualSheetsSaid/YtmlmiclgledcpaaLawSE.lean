/- EqualSheets of model and program over copies that a law makes of its sheets. Helper facts, no claim of its own. -/
import Derived.Test.YtmlmiclgledcpaaEqS
import Derived.Test.YtmlmiclgledcpaaLawS
namespace Go.Proofs.Ytmlmiclgledcpaa
open Go.ChangeShapes Go.WideShapes Go.ChangeAt Go.RowKit

theorem eqS_data {x y : Rw} {u v : Value} {ss us : List Shv} {lo hi lo' hi' : Nat} {w : World} (h : x.data = (rwH u ss).data) (ho : x.OwnR lo hi w) (k : y.data = (rwH v us).data) (ko : y.OwnR lo' hi' w) :
    Calls Try.prog 43 #[x.cell, y.cell] w fun e w' => e = .returned (.bool (decide (ss.map Prod.fst = us.map Prod.fst))) ∧ Grw w w' := by
  obtain ⟨ss', e, hr⟩ := sheets_of_data h (rd_of ho)
  obtain ⟨us', e', hr'⟩ := sheets_of_data k (rd_of ko)
  rw [← e, ← e']
  exact eqH_spec _ _ ss' us' w hr hr'
theorem eqI_data {x y : Rw} {u v : Value} {ss us : List Shv} {lo hi lo' hi' : Nat} {w : World} (h : x.data = (rwH u ss).data) (ho : x.OwnR lo hi w) (k : y.data = (rwH v us).data) (ko : y.OwnR lo' hi' w) :
    Calls Try.prog 44 #[x.cell, y.cell] w fun e w' => e = .returned (.bool (decide (ss.map Prod.fst = us.map Prod.fst))) ∧ Grw w w' := by
  obtain ⟨ss', e, hr⟩ := sheets_of_data h (rd_of ho)
  obtain ⟨us', e', hr'⟩ := sheets_of_data k (rd_of ko)
  rw [← e, ← e']
  exact eqH_impl _ _ ss' us' w hr hr'
end Go.Proofs.Ytmlmiclgledcpaa
