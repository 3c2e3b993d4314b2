/- EqualServers of model and program over copies that a law makes of its servers. Helper facts, no claim of its own. -/
import Derived.Test.YtpkicliimhflgaaLawV
import Derived.Test.YtpkicliimhflgaaSvE
import Derived.Test.YtpkicliimhflgaaSvF
namespace Go.Proofs.Ytpkicliimhflgaa
open Go.ChangeShapes Go.WideShapes Go.ChangeAt Go.RowKit

theorem eqvS_data {x y : Rw} {u v : Value} {ss us : List Se} {lo hi lo' hi' : Nat} {w : World} (h : x.data = (rwV u ss).data) (ho : x.OwnR lo hi w) (k : y.data = (rwV v us).data) (ko : y.OwnR lo' hi' w) :
    Calls Try.prog 13 #[x.cell, y.cell] w fun e w' => e = .returned (.bool (decide (ss.map Prod.fst = us.map Prod.fst))) ∧ Grw w w' := by
  obtain ⟨ss', e, hr⟩ := servers_of_data h (rd_of ho)
  obtain ⟨us', e', hr'⟩ := servers_of_data k (rd_of ko)
  rw [← e, ← e']
  exact eqSvs_spec _ _ ss' us' w hr hr'
theorem eqvI_data {x y : Rw} {u v : Value} {ss us : List Se} {lo hi lo' hi' : Nat} {w : World} (h : x.data = (rwV u ss).data) (ho : x.OwnR lo hi w) (k : y.data = (rwV v us).data) (ko : y.OwnR lo' hi' w) :
    Calls Try.prog 14 #[x.cell, y.cell] w fun e w' => e = .returned (.bool (decide (ss.map Prod.fst = us.map Prod.fst))) ∧ Grw w w' := by
  obtain ⟨ss', e, hr⟩ := servers_of_data h (rd_of ho)
  obtain ⟨us', e', hr'⟩ := servers_of_data k (rd_of ko)
  rw [← e, ← e']
  exact eqSvs_impl _ _ ss' us' w hr hr'
end Go.Proofs.Ytpkicliimhflgaa
