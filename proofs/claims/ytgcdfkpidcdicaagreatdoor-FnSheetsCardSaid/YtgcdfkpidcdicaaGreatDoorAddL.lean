/- Helper contracts: addMarkup, AddToken and AddTokens of the program. -/
import Derived.Test.YtgcdfkpidcdicaaGreatDoorAddI
import Derived.Test.YtgcdfkpidcdicaaGreatDoorAddK
import Derived.Test.YtgcdfkpidcdicaaGreatDoorFmtA
namespace Go.Proofs.YtgcdfkpidcdicaaGreatDoor
open Go.ChangeShapes Go.WideShapes Go.ChangeAt Go.RowKit

theorem BdAt.lens {B : Nat} {w0 w : World} {nv ov : Value} {b : Bd} (h : BdAt B w0 w nv ov b) : ∃ a n c a' n' c', nv = .slice a n c ∧ ov = .slice a' n' c' := by
  obtain ⟨ns, _, hm, ho⟩ := h
  obtain ⟨a, c, e⟩ := mineN_form hm
  obtain ⟨a', c', e'⟩ := mine_form ho
  exact ⟨_, _, _, _, _, _, e, e'⟩
theorem BOut.from {B : Nat} {w0 w w1 : World} {c : Nat} {b : Bd} {z : Int} {e : Ending} {w' : World} (h : BOut B w0 c b z w1 e w') (hu : Upd c w w1) : BOut B w0 c b z w e w' := by
  obtain ⟨nv, ov, h1, h2, h3, h4⟩ := h
  exact ⟨nv, ov, h1, h2, hu.trans h3, h4⟩

theorem addToks_len : ∀ (ts : List Tok) (b : Bd), (addToks b ts).nodes.length ≤ max 40 b.nodes.length ∧ (addToks b ts).opn.length ≤ max 8 b.opn.length
  | [], b => by rw [addToks]; omega
  | t :: ts, b => by
    have h := addToks_len ts (addTok b t).1
    have h2 := (addTok_W b t).2
    rw [addToks]; omega
theorem addToks_more {b : Bd} {ts : List Tok} {k : Nat} {t : Tok} (h : ts[k]? = some t) : addToks b (ts.take (k + 1)) = (addTok (addToks b (ts.take k)) t).1 := by
  rw [take_moreN h, addToks_append]

/-- The token's cells. -/
theorem ReadT.at {hi n cap k : Nat} {w : World} {a : Option Addr} {ts : List Tv} {p : Tv} (h : ReadT hi w (.slice a n cap) ts) (hk : ts[k]? = some p) :
    ∃ g off, a = some ⟨g, off, none⟩ ∧ g < hi ∧ w.cell? ⟨g, off + k * 4, none⟩ = some (.int .i64 p.1.kind) ∧ w.cell? ⟨g, off + k * 4 + 1, none⟩ = some (.string p.1.name) ∧ w.cell? ⟨g, off + k * 4 + 2, none⟩ = some (sv p.2) ∧ w.cell? ⟨g, off + k * 4 + 3, none⟩ = some (.string p.1.text) := by
  obtain ⟨⟨a', cap', e, h1, h2, h3, h4⟩, _⟩ := h
  cases e
  have hlt := (List.getElem?_eq_some_iff.1 hk).1
  rcases h4 with h4 | ⟨g, off, rfl, hg, hc⟩
  · omega
  · exact ⟨g, off, rfl, hg, hc k p hk 0 (by omega), hc k p hk 1 (by omega), hc k p hk 2 (by omega), hc k p hk 3 (by omega)⟩
theorem ReadT.form {hi : Nat} {w : World} {v : Value} {ts : List Tv} (h : ReadT hi w v ts) : ∃ a cap, v = .slice a ts.length cap ∧ ts.length ≤ cap ∧ cap ≤ 9223372036854775807 := by
  obtain ⟨⟨a, cap, e, h1, h2, _⟩, _⟩ := h
  exact ⟨a, cap, e, h1, h2⟩

end Go.Proofs.YtgcdfkpidcdicaaGreatDoor
