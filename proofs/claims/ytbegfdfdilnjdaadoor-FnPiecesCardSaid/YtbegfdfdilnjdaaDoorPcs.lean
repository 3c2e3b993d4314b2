/- Helper facts for the law FnPieces: how long a token's text may be; a class of worlds for a region whose callees make memory; a slice of tokens while the box beside it is written. No claim of its own. -/
import Derived.Test.YtbegfdfdilnjdaaDoorTags
import Derived.Test.YtbegfdfdilnjdaaDoorDrawPc
namespace Go.Proofs.YtbegfdfdilnjdaaDoor
open Go.ChangeShapes Go.WideShapes Go.ChangeAt Go.RowKit

theorem tag_fmt_le {l : List UInt8} {t : Tok} (h : tagB l = some t) : t.name.size + (fmtAs t.attrs).length ≤ l.length := by
  have h1 := congrArg List.length (tagB_form h)
  have hk := tagB_kind h
  rw [List.length_append, List.length_cons] at h1
  rcases hk with hk | hk
  · unfold fmtT at h1
    rw [if_pos hk] at h1
    simp only [List.length_append, List.length_cons, size_list, List.length_nil] at h1
    omega
  · have ha : t.attrs = [] := by
      unfold tagB at h
      split at h
      · cases h
      · split at h
        · split at h
          · cases h; rfl
          · cases h
        · split at h
          · cases h
          · split at h
            · cases h
            · split at h
              · cases h; exact absurd (show (1 : Int) = 2 from hk) (by decide)
              · cases h
    unfold fmtT at h1
    rw [if_neg (by omega), if_pos hk] at h1
    simp only [List.length_append, List.length_cons, size_list, List.length_nil] at h1
    rw [ha]
    simp only [fmtAs, List.length_nil]
    omega
theorem feed_fmt (a : List UInt8) : ∀ t ∈ (feedB a).1, t.name.size + (fmtAs t.attrs).length ≤ a.length := by
  generalize hn : a.length = n
  induction n using Nat.strongRecOn generalizing a with
  | _ n ih =>
    by_cases h1 : 0 < idxB 60 a ∧ idxB 60 a < a.length
    · rw [feed_text h1.1 h1.2]
      intro t ht
      rcases List.mem_cons.1 ht with h | h
      · subst h
        exact Nat.zero_le _
      · exact Nat.le_trans (ih (a.length - idxB 60 a) (by omega) (a.drop (idxB 60 a)) List.length_drop t h) (by omega)
    · by_cases h2 : idxB 60 a = 0 ∧ idxB 62 a < a.length
      · rw [feed_tag h2.1 h2.2]
        intro t ht
        rcases List.mem_append.1 ht with h | h
        · have h3 := tag_fmt_le (Option.mem_toList.1 h)
          simp only [List.length_drop, List.length_take] at h3
          omega
        · exact Nat.le_trans (ih (a.length - (idxB 62 a + 1)) (by omega) (a.drop (idxB 62 a + 1)) List.length_drop t h) (by omega)
      · have hl := idxB_le 60 a
        have hl2 := idxB_le 62 a
        rw [feed_end (x := a) (by omega) h1]
        intro t ht; cases ht
theorem tokens_fmt (s : List UInt8) : ∀ t ∈ tokensB s, t.name.size + (fmtAs t.attrs).length ≤ s.length := by
  intro t ht
  rcases List.mem_append.1 ht with h | h
  · exact feed_fmt s t h
  · unfold endB at h
    split at h
    · cases h
    · rw [List.mem_singleton] at h; subst h
      exact Nat.zero_le _

/-- A world behind w in which of what lay in w nothing is written. -/
structure BelowBy (w : World) where
  at' : World
  hb : Below w.heap.size w at'
theorem wp_region_quiet_below {P : Program} {id : Nat} {Q : Exit → Act → World → Prop} {a : Act} {w : World} {l : List Oper} (hm : P.follows .mixedOrders = true) (hB : Region.lexB .any l.toArray = true)
    (h : wpQuiet P l.toArray (fun w' => ∃ p : BelowBy w, w' = p.at') (fun a' => ∀ w', (∃ p : BelowBy w, w' = p.at') → Q .normal a' w') l a) : (Code.region id l.toArray true).wp P Q a w :=
  wp_region_quiet (C := fun w' => ∃ p : BelowBy w, w' = p.at') hm hB ⟨⟨w.drew, (Below.refl _ w).drew⟩, rfl⟩ (by simpa using h)
theorem Calls.below_of {P : Program} {f : FuncId} {args : Array Value} {w : World} (p : BelowBy w) {v : Value} (h : Calls P f args p.at' fun e w' => e = .returned v ∧ Below p.at'.heap.size p.at' w') :
    Calls P f args p.at' fun e w'' => e = .returned v ∧ ∃ q : BelowBy w, w'' = q.at' :=
  h.mono fun _ w' ⟨he, hb⟩ => ⟨he, ⟨w', p.hb.trans (hb.mono p.hb.size)⟩, rfl⟩
theorem cell_below {w : World} {a : Addr} {v : Value} (hb : a.block < w.heap.size) (h : w.cell? a = some v) (p : BelowBy w) : p.at'.cell? a = some v := (p.hb.cell hb).trans h

theorem tk_ne_tz : 27 ≠ 38 ∧ 67 ≠ 38 := by decide
/-- What is owned lies in no block of another type. -/
theorem ownK_setT {α : Type} {enc : α → List Value} {k : Nat} {e T : TypeId} {lo hi b o : Nat} {w : World} {v u : Value} {xs : List α} {cs : Array Value} (h : OwnK enc k e lo hi w v xs) (hb : w.heap[b]? = some (.cells cs T (0, 0))) (hne : e ≠ T) : OwnK enc k e lo hi (w.setCell ⟨b, o, none⟩ u) v xs := by
  refine ⟨⟨h.1.1, ?_⟩, h.2⟩
  rcases h.1.2 with h1 | ⟨g, cap, cur, h1, h2, h3, h4⟩
  · exact Or.inl h1
  · refine Or.inr ⟨g, cap, cur, h1, h2, ?_, h4⟩
    rw [Below.heap_setCell _ _ _ _ (show g ≠ b from fun e' => ?_)]
    · exact h3
    · subst e'
      rw [h3] at hb
      injection hb with h5
      injection h5 with _ h6 _
      exact hne h6
theorem MineT.setT {B b : Nat} {w0 w : World} {v u : Value} {ts : List Tv} {cs : Array Value} (h : MineT B w0 w v ts) (hb : w.heap[b]? = some (.cells cs 38 (0, 0))) (hB : B ≤ b) : MineT B w0 (w.setCell ⟨b, 0, none⟩ u) v ts :=
  ⟨⟨(ownK_setT h.row.own hb tk_ne_tz.1).1, h.row.below.setCell hB _, Nat.le_trans h.row.size (size_set _ _ _)⟩, fun p hp => (ownK_setT (h.inn p hp) hb tk_ne_tz.2).mono (Nat.le_refl _) (size_set _ _ _), h.nod⟩
/-- The cells of token k of a slice of the call's own. -/
theorem MineT.tokAt {B : Nat} {w0 w : World} {v : Value} {ts : List Tv} {k : Nat} {p : Tv} (h : MineT B w0 w v ts) (hk : ts[k]? = some p) :
    ∃ g c, v = .slice (some ⟨g, 0, none⟩) ts.length c ∧ g < w.heap.size ∧ w.cell? ⟨g, k * 4, none⟩ = some (.int .i64 p.1.kind) ∧ w.cell? ⟨g, k * 4 + 1, none⟩ = some (.string p.1.name) ∧ w.cell? ⟨g, k * 4 + 2, none⟩ = some (sv p.2) ∧ w.cell? ⟨g, k * 4 + 3, none⟩ = some (.string p.1.text) ∧ OwnK encA 2 67 B w.heap.size w (sv p.2) p.1.attrs := by
  obtain ⟨a, c, rfl, _, _, _, hcells⟩ := h.row.own.reads encT_len
  have hlt := (List.getElem?_eq_some_iff.1 hk).1
  have hin := h.inn p (List.mem_of_getElem? hk)
  rcases hcells with h0 | ⟨g, off, rfl, hg, hc⟩
  · omega
  · obtain ⟨g', cap, e⟩ : ∃ g' cap, (Value.slice (some ⟨g, off, none⟩) ts.length c) = .slice (some ⟨g', 0, none⟩) ts.length cap := by
      rcases h.row.row.2 with ⟨e, _⟩ | ⟨g', cap, cur, e, _⟩
      · cases e
      · exact ⟨g', cap, e⟩
    cases e
    simp only [Nat.zero_add] at hc
    exact ⟨g, c, rfl, hg, hc k p hk 0 (by omega), hc k p hk 1 (by omega), hc k p hk 2 (by omega), hc k p hk 3 (by omega), hin⟩
theorem row_ne_box {w : World} {B k n b : Nat} {e T : TypeId} {v : Value} {xs : List Value} {cs : Array Value} (h : w.ownsRow B e k v n xs) (hb : w.heap[b]? = some (.cells cs T (0, 0))) (hne : e ≠ T) : some b ≠ v.ownBlock := by
  intro hv
  rcases h.2 with ⟨rfl, _⟩ | ⟨g, cap, cur, rfl, _, h3, _⟩
  · cases hv
  · have e1 : b = g := Option.some.inj hv
    subst e1
    rw [h3] at hb
    injection hb with h5
    injection h5 with _ h6 _
    exact hne h6
/-- append to such a slice: boxes of another type stay. -/
theorem wpList_appTG {w : World} {ops : Array Oper} {rest : List Oper} {o : Oper} {a : Act} {Q : Exit → Act → World → Prop} (hgd : o.guard = none) (s x : Operand)
    (ho : o.op = .call { callee := .builtin .append, args := #[s, x], argTypes := #[31, 31] })
    (B : Nat) (w0 : World) (v : Value) (ts : List Tv) (hs : a.eval s = v) (hM : MineT B w0 w v ts) (vx : Value) (top : Nat) (us : List Tv) (hx : a.eval x = vx) (hr : ReadsK encT 4 top w vx us)
    (hin : ∀ p ∈ us, OwnK encA 2 67 B w.heap.size w (sv p.2) p.1.attrs) (hnd : (insB ts ++ insB us).Nodup)
    (hlen : ts.length + us.length ≤ 137438953472)
    (h : ∀ v' w', MineT B w0 w' v' (ts ++ us) → (∀ (b : Nat) (cs : Array Value), w.heap[b]? = some (.cells cs 38 (0, 0)) → w'.heap[b]? = some (.cells cs 38 (0, 0))) → wpList Tryd.prog ops Q rest (a.put o.dst v') w') : wpList Tryd.prog ops Q (o :: rest) a w := by
  obtain ⟨i, hi, hz, hsize, hby⟩ := info_parts infoTk
  obtain ⟨ad, cap, rfl, h1, h2, h3, h4⟩ := id hr
  cases ad with
  | none =>
    obtain ⟨rfl, _, rfl⟩ := hr.nil
    refine wpList_append_own_none hgd s x _ ho B _ i 4 Tryd.underlying31 hi v ts.length _ hs hM.row.row hx ?_
    exact h v w (by simpa using hM) (fun _ _ hb => hb)
  | some ad =>
    refine wpList_append_own _ hgd s x _ ho B _ i _ 4 64 Tryd.underlying31 hi hz hsize hby (by rfl) (by decide) v ts.length _ hs hM.row.row ad us.length cap (us.flatMap encT) hx (flat_len encT_len us) (hr.news encT_len) ?_ ?_ ?_ hM.row.size ?_
    · intro u hu
      obtain ⟨y, _, hy⟩ := List.mem_flatMap.1 hu
      exact encT_one y u hy
    · unfold maxLen; omega
    · have : (ts.length + us.length) * 64 ≤ (ts.length + us.length) * 1024 := Nat.mul_le_mul_left _ (by omega)
      omega
    · intro v' w' hown hgr hn
      refine h v' w' ⟨hM.row.grow hown hgr, fun p hp => ?_, by rw [insB_append]; exact hnd⟩ (fun b cs hb => (hgr.block b (heap_lt hb) (row_ne_box hM.row.row hb tk_ne_tz.1)).trans hb)
      have hall : OwnK encA 2 67 B w.heap.size w (sv p.2) p.1.attrs := by
        rcases List.mem_append.1 hp with h | h
        · exact hM.inn p h
        · exact hin p h
      refine ⟨hall.1.kept hgr ?_, fun g hg => Nat.lt_of_lt_of_le (hall.2 g hg) hgr.size⟩
      cases hv : (sv p.2).ownBlock with
      | none => exact Or.inl rfl
      | some g =>
        right
        intro e
        exact rows_ne hM.row.row hall.1 tk_ne_at e.symm hv
end Go.Proofs.YtbegfdfdilnjdaaDoor
