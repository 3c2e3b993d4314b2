/- append to a slice of rules of the call's own; strings in a slice of strings. Helper facts, no claim of its own. -/
import Derived.Test.YtmlmiclgledcpaaDoorSh
import Derived.Test.YtmlmiclgledcpaaDoorNd
import Derived.Test.YtmlmiclgledcpaaDoorTagP
import Derived.Deep.AppendLies
namespace Go.Proofs.YtmlmiclgledcpaaDoor
open Go.ChangeShapes Go.WideShapes Go.ChangeAt Go.RowKit

theorem grown_rfl (w : World) (r : Option Nat) : w.grownBy w r := ⟨rfl, rfl, rfl, Nat.le_refl _, fun _ _ _ => rfl⟩
theorem ReadsK.str {hi n cap k : Nat} {w : World} {a : Option Addr} {xs : List ByteArray} {s : ByteArray} (h : ReadsK encS 1 hi w (.slice a n cap) xs) (hk : xs[k]? = some s) : ∃ g off, a = some ⟨g, off, none⟩ ∧ g < hi ∧ w.cell? ⟨g, off + k, none⟩ = some (.string s) := by
  obtain ⟨a', c', e, _, _, _, hc⟩ := h
  injection e with e1 e2 e3; subst e1
  rcases hc with h0 | ⟨g, off, rfl, hg, hc⟩
  · have := (List.getElem?_eq_some_iff.1 hk).1; omega
  · refine ⟨g, off, rfl, hg, ?_⟩
    have := hc k s hk 0 (by omega)
    rwa [Nat.mul_one] at this
/-- append to rules of the call's own; what else is written is told. -/
theorem wpList_appUG {w : World} {ops : Array Oper} {rest : List Oper} {o : Oper} {a : Act} {Q : Exit → Act → World → Prop} (hgd : o.guard = none) (s x : Operand)
    (ho : o.op = .call { callee := .builtin .append, args := #[s, x], argTypes := #[22, 22] })
    (B : Nat) (w0 : World) (v : Value) (rs : List Ru) (hs : a.eval s = v) (hM : MineK encU 2 42 B w0 w v rs) (vx : Value) (top : Nat) (us : List Ru) (hx : a.eval x = vx) (hr : ReadsK encU 2 top w vx us)
    (hlen : rs.length + us.length ≤ 137438953472)
    (h : ∀ v' w', MineK encU 2 42 B w0 w' v' (rs ++ us) → w.grownBy w' v.ownBlock → wpList Tryd.prog ops Q rest (a.put o.dst v') w') : wpList Tryd.prog ops Q (o :: rest) a w := by
  obtain ⟨i, hi, hz, hsize, hby⟩ := info_parts infoRu
  obtain ⟨ad, cap, rfl, h1, h2, h3, h4⟩ := id hr
  cases ad with
  | none =>
    obtain ⟨rfl, _, rfl⟩ := hr.nil
    refine wpList_append_own_none hgd s x _ ho B _ i 2 Tryd.underlying22 hi v rs.length _ hs hM.row hx ?_
    exact h v w (by simpa using hM) (grown_rfl _ _)
  | some ad =>
    refine wpList_append_own _ hgd s x _ ho B _ i _ 2 24 Tryd.underlying22 hi hz hsize hby (by rfl) (by decide) v rs.length _ hs hM.row ad us.length cap (us.flatMap encU) hx (flat_len encU_len us) (hr.news encU_len) ?_ ?_ ?_ hM.size ?_
    · intro u hu
      obtain ⟨y, _, hy⟩ := List.mem_flatMap.1 hu
      exact encU_one y u hy
    · unfold maxLen; omega
    · omega
    · intro v' w' hown hgr _
      exact h v' w' (hM.grow hown hgr) hgr
theorem readsU_at (w : World) (H : Nat) (hH : w.heap.size = H) (nm : ByteArray) (c : Int) : ReadsK encU 2 (H + 1) (w.alloc (.cells #[.string nm, .int .i64 c] 42)) (.slice (some ⟨H, 0, none⟩) 1 1) [(nm, c)] := by
  subst hH; exact readsK_one2 encU 42 w (x := (nm, c)) rfl
theorem mineU_form {B : Nat} {w0 w : World} {v : Value} {rs : List Ru} (h : MineK encU 2 42 B w0 w v rs) : ∃ a c, v = .slice a rs.length c ∧ rs.length ≤ c ∧ c ≤ 9223372036854775807 := by
  obtain ⟨a, c, e, h1, h2, _⟩ := h.own.reads encU_len
  exact ⟨a, c, e, h1, h2⟩
/-- append of one rule to rules of the call's own, at a step of a region that draws its order. -/
theorem step_appUt {w : World} {ops : Array Oper} {o : Oper} {a : Act} {K : Act → World → Prop} {Q : Exit → Act → World → Prop} {E : Prop} (hgd : o.guard = none) (s x : Operand)
    (ho : o.op = .call { callee := .builtin .append, args := #[s, x], argTypes := #[22, 22] })
    (B : Nat) (w0 : World) (v : Value) (xs : List Ru) (hs : a.eval s = v) (hM : MineK encU 2 42 B w0 w v xs) (ad : Addr) (top : Nat) (y : Ru) (hx : a.eval x = .slice (some ad) 1 1) (hr : ReadsK encU 2 top w (.slice (some ad) 1 1) [y])
    (hlen : xs.length + 1 ≤ 137438953472)
    (h : ∀ v' w', MineK encU 2 42 B w0 w' v' (xs ++ [y]) → w.grownBy w' v.ownBlock → K (a.put o.dst v') w') :
    if Region.wanted o (yielded ops a.tmps) = true then Oper.wp Tryd.prog o a w K Q else E := by
  obtain ⟨i, hi, hz, hsize, hby⟩ := info_parts infoRu
  refine step_append_lies w hgd s x _ ho B _ i _ 2 24 Tryd.underlying22 hi hz hsize hby (by rfl) (by decide) v xs.length _ hs hM.row ad 1 1 ([y].flatMap encU) hx (flat_len encU_len [y]) (hr.news encU_len) ?_ (by omega) ?_ ?_ hM.size w.heap.size rfl ?_
  · intro u hu
    obtain ⟨z, _, hz⟩ := List.mem_flatMap.1 hu
    exact encU_one z u hz
  · unfold maxLen; omega
  · omega
  · intro g cap w' hown hgr _ _
    exact h _ w' (hM.grow (ys := [y]) hown hgr) hgr
theorem ru_ne : 42 ≠ 24 ∧ 42 ≠ 9 := by decide

end Go.Proofs.YtmlmiclgledcpaaDoor
