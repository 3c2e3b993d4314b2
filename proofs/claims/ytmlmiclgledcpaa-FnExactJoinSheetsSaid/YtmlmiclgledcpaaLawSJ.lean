/- JoinSheets of model and program over copies that a law makes of its sheets; how many marks a sheet takes. Helper facts, no claim of its own. -/
import Derived.Test.YtmlmiclgledcpaaJnS
import Derived.Test.YtmlmiclgledcpaaLawS
import Derived.Test.YtmlmiclgledcpaaLawBd
namespace Go.Proofs.Ytmlmiclgledcpaa
open Go.ChangeShapes Go.WideShapes Go.ChangeAt Go.RowKit

theorem mkH_one (y : Rw) (hy : IsSheetS y) (lo hi k0 : Nat) (q : Int) (hq : q = k0) (w : World) (ho : OwnRL lo hi w [y]) (hd : (blocksL [y]).Nodup) (hk : k0 + countL [y] ≤ 4611686018427387904) :
    Calls Try.prog 40 #[y.cell, .int .i64 q] w fun e w' => e = .returned (.int .i64 ((k0 + countL [y] : Nat) : Int)) ∧ OwnRL lo hi w' (markL [y] k0) ∧ OnlyB (blocksL [y]) w w' := by
  have e1 : countL [y] = y.count := by rw [countL, countL]; omega
  have e2 : blocksL [y] = y.blocks := by rw [blocksL, blocksL, List.append_nil]
  rw [e1] at hk ⊢; rw [e2] at hd ⊢
  refine (mk_SheetS y hy lo hi k0 q hq w (ownL_one.1 ho) hd hk).mono ?_
  rintro e w' ⟨h1, h2, h3⟩
  exact ⟨h1, by rw [markL, markL]; exact ownL_one.2 h2, h3⟩
theorem ruCells_count : ∀ rs : List Ru, countL (ruCells rs) = 2 * rs.length
  | [] => rfl
  | r :: rs => by rw [ruCells, countL, countL, Rw.count, Rw.count, ruCells_count rs, List.length_cons]; omega
theorem rwU_count (v : Value) (rs : List Ru) : (rwU v rs).count = 2 * rs.length := by rw [rwU, Rw.count, ruCells_count]
theorem shCells_count : ∀ ss : List Shv, countL (shCells ss) = 2 * (flatR ss).length
  | [] => rfl
  | p :: ss => by
    rw [shCells, countL, rwU_count, shCells_count ss, flatR, flatR, List.flatMap_cons, List.length_append]; omega
theorem rwH_count (v : Value) (ss : List Shv) : (rwH v ss).count = 2 * (flatR ss).length := by rw [rwH, Rw.count, shCells_count]
theorem jS_data {x : Rw} {u : Value} {ss : List Shv} {lo hi : Nat} {w : World} (h : x.data = (rwH u ss).data) (ho : x.OwnR lo hi w) (ok : ShsOk ss) :
    Calls Try.prog 37 #[x.cell] w (JoinForm (flatR ss) w) := by
  obtain ⟨us, e, hr⟩ := sheets_of_data h (rd_of ho)
  rw [← flatR_of e]
  exact join_spec _ us w hr (ok.of e)
theorem jI_data {x : Rw} {u : Value} {ss : List Shv} {lo hi : Nat} {w : World} (h : x.data = (rwH u ss).data) (ho : x.OwnR lo hi w) (ok : ShsOk ss) :
    Calls Try.prog 38 #[x.cell] w (JoinForm (flatR ss) w) := by
  obtain ⟨us, e, hr⟩ := sheets_of_data h (rd_of ho)
  rw [← flatR_of e]
  exact join_impl _ us w hr (ok.of e)
theorem optL_nodup2 (v : Value) (rs : List Ru) : (blocksL [rwU v rs]).Nodup := by rw [blocksL, blocksL, List.append_nil, rwU_blocks]; exact optL_nodup _
end Go.Proofs.Ytmlmiclgledcpaa
