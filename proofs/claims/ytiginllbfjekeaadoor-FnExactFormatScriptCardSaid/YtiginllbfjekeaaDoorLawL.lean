/- Copies, comparisons, marks of lines in the laws. Helper facts, no claim of its own. -/
import Derived.Test.YtiginllbfjekeaaDoorRowL
import Derived.Test.YtiginllbfjekeaaDoorRawL
import Derived.Test.YtiginllbfjekeaaDoorLawT
namespace Go.Proofs.YtiginllbfjekeaaDoor
open Go.ChangeShapes Go.WideShapes Go.ChangeAt Go.RowKit

theorem toLn_one (v : Value) (rs : List Lnv) (w : World) (r : (rwLn v rs).ReadR w.heap.size w) (h : (rwLn v rs).weight ≤ 1048576) :
    Calls Tryd.prog 22 #[v] w fun e w' => ∃ y : Rw, e = .returned y.cell ∧ IsLineS y ∧ y.data = (rwLn v rs).data ∧ OwnRL w.heap.size w'.heap.size w' [y] ∧ (blocksL [y]).Nodup ∧ Below w.heap.size w w' := by
  refine (to_LineS (rwLn v rs) (rwLn_is v rs) w r (Nat.le_trans h (by decide))).mono ?_
  rintro e w' ⟨y, rfl, h1, h2, h3, h4, h5⟩
  exact ⟨y, rfl, h1, h2, ownL_one.2 h4, by rw [blocksL, blocksL, List.append_nil]; exact h3, h5⟩

theorem mkLn_one (y : Rw) (hy : IsLineS y) (lo hi k0 : Nat) (q : Int) (hq : q = k0) (w : World) (ho : OwnRL lo hi w [y]) (hd : (blocksL [y]).Nodup) (hk : k0 + countL [y] ≤ 4611686018427387904) :
    Calls Tryd.prog 19 #[y.cell, .int .i64 q] w fun e w' => e = .returned (.int .i64 ((k0 + countL [y] : Nat) : Int)) ∧ OwnRL lo hi w' (markL [y] k0) ∧ OnlyB (blocksL [y]) w w' := by
  have e1 : countL [y] = y.count := by rw [countL, countL]; omega
  have e2 : blocksL [y] = y.blocks := by rw [blocksL, blocksL, List.append_nil]
  rw [e1] at hk ⊢; rw [e2] at hd ⊢
  refine (mk_LineS y hy lo hi k0 q hq w (ownL_one.1 ho) hd hk).mono ?_
  rintro e w' ⟨h1, h2, h3⟩
  exact ⟨h1, by rw [markL, markL]; exact ownL_one.2 h2, h3⟩

theorem hdLn_one (y : Rw) (hy : IsLineS y) (hi k0 : Nat) (q : Int) (hq : q = k0) (w : World) (hr : ReadRL hi w (markL [y] k0)) (hh : hi ≤ w.heap.size) (hk : k0 + countL [y] ≤ 4611686018427387904) :
    Calls Tryd.prog 20 #[y.cell, .int .i64 q] w fun e w' => e = .returned (.int .i64 ((k0 + countL [y] : Nat) : Int)) ∧ Grw w w' := by
  have e1 : countL [y] = y.count := by rw [countL, countL]; omega
  rw [e1] at hk ⊢
  refine hd_LineS y hy hi k0 q hq w ?_ hh hk
  rw [markL, markL] at hr
  exact readRL_iff.1 hr _ (by simp)
theorem optL_nodupL (v : Value) (rs : List Lnv) : (blocksL [rwLn v rs]).Nodup := by rw [blocksL, blocksL, List.append_nil, rwLn_blocks]; exact optL_nodup _
end Go.Proofs.YtiginllbfjekeaaDoor
