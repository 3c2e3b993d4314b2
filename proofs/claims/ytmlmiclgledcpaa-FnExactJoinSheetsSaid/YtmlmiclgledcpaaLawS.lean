/- The helper contracts of chapter 7 over copies that a law makes of its sheets. Helper facts, no claim of its own. -/
import Derived.Test.YtmlmiclgledcpaaColM
import Derived.Test.YtmlmiclgledcpaaRowS
import Derived.Test.YtmlmiclgledcpaaLawT
namespace Go.Proofs.Ytmlmiclgledcpaa
open Go.ChangeShapes Go.WideShapes Go.ChangeAt Go.RowKit

theorem toH_one (v : Value) (ss : List Shv) (w : World) (r : (rwH v ss).ReadR w.heap.size w) (h : (rwH v ss).weight ≤ 1048576) :
    Calls Try.prog 29 #[v] w fun e w' => ∃ y : Rw, e = .returned y.cell ∧ IsSheetS y ∧ y.data = (rwH v ss).data ∧ OwnRL w.heap.size w'.heap.size w' [y] ∧ (blocksL [y]).Nodup ∧ Below w.heap.size w w' := by
  refine (to_SheetS (rwH v ss) (rwH_is v ss) w r (Nat.le_trans h (by decide))).mono ?_
  rintro e w' ⟨y, rfl, h1, h2, h3, h4, h5⟩
  exact ⟨y, rfl, h1, h2, ownL_one.2 h4, by rw [blocksL, blocksL, List.append_nil]; exact h3, h5⟩
theorem colS_data {x : Rw} {u : Value} {ss : List Shv} {lo hi : Nat} {w : World} (h : x.data = (rwH u ss).data) (ho : x.OwnR lo hi w) (ok : ShsOk ss) (nm : ByteArray) :
    Calls Try.prog 28 #[x.cell, .string nm] w fun e w' => e = .returned (.int .i64 (colOf (flatR ss) nm)) ∧ Grw w w' := by
  obtain ⟨us, e, hr⟩ := sheets_of_data h (rd_of ho)
  have ok2 := ok.of e
  refine (colorOf_spec _ us nm w hr (Nat.le_trans ok2.len (by decide)) ok2.each).mono ?_
  rintro e w' ⟨rfl, rfl⟩
  exact ⟨by rw [flatR_of e], Grw.refl _⟩
theorem colI_data {x : Rw} {u : Value} {ss : List Shv} {lo hi : Nat} {w : World} (h : x.data = (rwH u ss).data) (ho : x.OwnR lo hi w) (ok : ShsOk ss) (nm : ByteArray) (hnm : nm.size ≤ 9223372036854775807) :
    Calls Try.prog 30 #[x.cell, .string nm] w fun e w' => e = .returned (.int .i64 (colOf (flatR ss) nm)) ∧ Below w.heap.size w w' := by
  obtain ⟨us, e, hr⟩ := sheets_of_data h (rd_of ho)
  have ok2 := ok.of e
  refine (colorOf_impl _ us nm hnm w hr (Nat.le_trans ok2.len (by decide)) ok2.each ok2.ok (Nat.le_trans ok2.tot (by decide))).mono ?_
  rintro e w' ⟨rfl, hb⟩
  exact ⟨by rw [flatR_of e], hb⟩
end Go.Proofs.Ytmlmiclgledcpaa
