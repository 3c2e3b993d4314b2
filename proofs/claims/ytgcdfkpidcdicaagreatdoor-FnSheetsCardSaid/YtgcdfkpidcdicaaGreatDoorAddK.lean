/- Helper contracts: openElement and closeElement of the program. -/
import Derived.Test.YtgcdfkpidcdicaaGreatDoorAddJ
namespace Go.Proofs.YtgcdfkpidcdicaaGreatDoor
open Go.ChangeShapes Go.WideShapes Go.ChangeAt Go.RowKit

/-- What a function answers that changes a builder in a box: a number, and the builder then. -/
def BOut (B : Nat) (w0 : World) (c : Nat) (b : Bd) (z : Int) (w : World) (e : Ending) (w' : World) : Prop :=
  ∃ nv ov, e = .returned (.int .i64 z) ∧ Box2 w' c nv ov ∧ Upd c w w' ∧ BdAt B w0 w' nv ov b

theorem cpA_up {w X : World} {v : Value} {xs : List At} (hr : ReadsK encA 2 w.heap.size w v xs) (hl : xs.length ≤ 68719476736) (hb : Below w.heap.size w X) :
    Calls Tryz.prog 134 #[v] X fun e w' => ∃ xa xn xc, e = .returned (.slice xa xn xc) ∧ OwnK encA 2 187 w.heap.size w'.heap.size w' (.slice xa xn xc) xs ∧ Below w.heap.size w w' := by
  refine (cpA_impl v _ xs X (hr.below hb (Nat.le_refl _)) hb.size (by omega)).mono ?_
  rintro e w' ⟨v', rfl, ho, hb'⟩
  obtain ⟨⟨a, n, c⟩, rfl⟩ := ho.sv
  exact ⟨a, n, c, rfl, ho.mono hb.size (Nat.le_refl _), hb.trans (hb'.mono hb.size)⟩
theorem openB_full {b : Bd} {n : ByteArray} {ats : List (ByteArray × ByteArray)} (hv : isVoid n = false) (h8 : 8 ≤ b.opn.length) : openB b n ats = (b, -1) := by
  unfold openB; rw [if_pos ⟨hv, h8⟩]
theorem openB_no {b : Bd} {n : ByteArray} {ats : List (ByteArray × ByteArray)} (hr : roomB b = false) : openB b n ats = (b, -1) := by
  unfold openB; split
  · rfl
  · rfl
theorem openB_yes {b : Bd} {n : ByteArray} {ats : List (ByteArray × ByteArray)} (hv : isVoid n = false) (h8 : ¬ 8 ≤ b.opn.length) (hr : roomB b = true) : openB b n ats = (⟨b.nodes ++ [⟨n, ⟨#[]⟩, lastOpen b, ats⟩], b.opn ++ [(b.nodes.length : Int)]⟩, (b.nodes.length : Int)) := by
  unfold openB; rw [if_neg (fun h => h8 h.2), if_neg (by rw [hr]; decide), if_pos hv]
theorem openB_void {b : Bd} {n : ByteArray} {ats : List (ByteArray × ByteArray)} (hv : isVoid n = true) (hr : roomB b = true) : openB b n ats = (⟨b.nodes ++ [⟨n, ⟨#[]⟩, lastOpen b, ats⟩], b.opn⟩, (b.nodes.length : Int)) := by
  unfold openB; rw [if_neg (fun h => by rw [hv] at h; exact absurd h.1 (by decide)), if_neg (by rw [hr]; decide), if_neg (by rw [hv]; decide)]
end Go.Proofs.YtgcdfkpidcdicaaGreatDoor
