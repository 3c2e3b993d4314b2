/- What the walk of the law on AddTokens uses besides: lists of tokens that came in, the calls in one form. No claim of its own. -/
import Derived.Test.YtjiogmbiiojhgaaLawA
namespace Go.Proofs.Ytjiogmbiiojhgaa
open Go.ChangeShapes Go.WideShapes Go.ChangeAt Go.RowKit

theorem tkCells_cnt : ∀ ts : List Tv, countL (tkCells ts) = tkW (ts.map Prod.fst)
  | [] => rfl
  | p :: ts => by
    rw [tkCells, countL, countL, countL, countL, Rw.count, Rw.count, Rw.count, rwA, Rw.count, atCells_count', tkCells_cnt ts, List.map_cons, tkW]; omega
theorem rwT_cnt (v : Value) (ts : List Tv) : (rwT v ts).count = tkW (ts.map Prod.fst) := by rw [rwT, Rw.count, tkCells_cnt]
theorem tkCells_w : ∀ ts : List Tv, tkW (ts.map Prod.fst) ≤ 3 * ts.length + 2 * weightL (tkCells ts)
  | [] => Nat.le_refl _
  | p :: ts => by
    have := tkCells_w ts
    rw [tkCells, weightL, weightL, weightL, weightL, rwA, Rw.weight, Rw.weight, Rw.weight, Rw.weight, List.map_cons, tkW, List.length_cons]; omega
theorem rwT_w (v : Value) (ts : List Tv) : tkW (ts.map Prod.fst) ≤ 3 * (rwT v ts).weight := by
  have := tkCells_w ts
  rw [rwT, Rw.weight]; omega
/-- What AddTokens answers, with the places of all that it made. -/
def AddsForm (b : Bd) (ts : List Tok) (X : World) (e : Ending) (w' : World) : Prop :=
  ∃ na nn nc oa on oc ns, e = .returned (.agg #[.slice na nn nc, .slice oa on oc]) ∧ ns.map Prod.fst = (addToks b ts).nodes ∧ BdM X.heap.size X w' (.slice na nn nc) (.slice oa on oc) ns (addToks b ts).opn
theorem addsForm {b : Bd} {ts : List Tok} {X w' : World} {e : Ending} (h : AddsOut b ts X e w') : AddsForm b ts X e w' := by
  obtain ⟨nv, ov, he, hb⟩ := h
  obtain ⟨na, nn, nc, oa, on, oc, rfl, rfl⟩ := hb.lens
  obtain ⟨ns, hns, hm, ho⟩ := hb
  exact ⟨na, nn, nc, oa, on, oc, ns, he, hns, ⟨hm, ho⟩⟩
theorem ownTs {lo hi : Nat} {w : World} {y : Rw} {u : Value} {ts : List Tv} (d : y.data = (rwT u ts).data) (h : OwnRL lo hi w [y]) : ∃ tvs : List Tv, tvs.map Prod.fst = ts.map Prod.fst ∧ ReadT w.heap.size w y.cell tvs := toks_of_data d (rd_of (ownL_one.1 h))
theorem addsS_any {X : World} {nv ov lv : Value} {b : Bd} {ts : List Tok} (hb : BdIn X.heap.size X nv ov b) (ht : ∃ tvs : List Tv, tvs.map Prod.fst = ts ∧ ReadT X.heap.size X lv tvs) (hf : ndW b.nodes + tkW ts ≤ 68719476736) (hfo : b.opn.length ≤ 68719476736) :
    Calls Try.prog 23 #[.agg #[nv, ov], lv] X (AddsForm b ts X) := by
  obtain ⟨tvs, h1, h2⟩ := ht
  exact (adds_spec nv ov b lv tvs ts h1 X hb h2 hf hfo).mono fun _ _ h => addsForm h
theorem addsI_any {X : World} {nv ov lv : Value} {b : Bd} {ts : List Tok} (hb : BdIn X.heap.size X nv ov b) (ht : ∃ tvs : List Tv, tvs.map Prod.fst = ts ∧ ReadT X.heap.size X lv tvs) (hf : ndW b.nodes + tkW ts ≤ 68719476736) (hfo : b.opn.length ≤ 68719476736) :
    Calls Try.prog 22 #[.agg #[nv, ov], lv] X (AddsForm b ts X) := by
  obtain ⟨tvs, h1, h2⟩ := ht
  exact (adds_impl nv ov b lv tvs ts h1 X hb h2 hf hfo).mono fun _ _ h => addsForm h
theorem toS_one (v : Value) (ts : List Tv) (w : World) (rx : (rwT v ts).ReadR w.heap.size w) (hl : (rwT v ts).weight ≤ 1048576) :
    Calls Try.prog 44 #[v] w fun e w' => ∃ y : Rw, e = .returned y.cell ∧ IsTokenS y ∧ y.data = (rwT v ts).data ∧ OwnRL w.heap.size w'.heap.size w' [y] ∧ (blocksL [y]).Nodup ∧ Below w.heap.size w w' := by
  refine (to_TokenS (rwT v ts) (rwT_is _ _) w rx (by omega)).mono ?_
  rintro e w' ⟨y, rfl, i, d, hn, ho, hb⟩
  exact ⟨y, rfl, i, d, ownL_one.2 ho, by rw [blocksL, blocksL, List.append_nil]; exact hn, hb⟩
theorem mkS_one (y : Rw) (hy : IsTokenS y) (lo hi k0 : Nat) (q : Int) (hq : q = k0) (w : World) (ho : OwnRL lo hi w [y]) (hd : (blocksL [y]).Nodup) (hk : k0 + countL [y] ≤ 4611686018427387904) :
    Calls Try.prog 46 #[y.cell, .int .i64 q] w fun e w' => e = .returned (.int .i64 ((k0 + countL [y] : Nat) : Int)) ∧ OwnRL lo hi w' (markL [y] k0) ∧ OnlyB (blocksL [y]) w w' := by
  have e1 : countL [y] = y.count := by rw [countL, countL]; omega
  have e2 : blocksL [y] = y.blocks := by rw [blocksL, blocksL, List.append_nil]
  rw [e1] at hk ⊢; rw [e2] at hd ⊢
  refine (mk_TokenS y hy lo hi k0 q hq w (ownL_one.1 ho) hd hk).mono ?_
  rintro e w' ⟨h1, h2, h3⟩
  exact ⟨h1, by rw [markL, markL]; exact ownL_one.2 h2, h3⟩
end Go.Proofs.Ytjiogmbiiojhgaa
