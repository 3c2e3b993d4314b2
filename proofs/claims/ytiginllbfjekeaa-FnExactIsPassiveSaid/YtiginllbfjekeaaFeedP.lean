/- Helper facts for the walks over the pieces of a page: a slice of tokens of the call's own over the changes of memory, what is answered, in plain words; the pieces that the program takes. No claim of its own. -/
import Derived.Test.YtiginllbfjekeaaTagP
namespace Go.Proofs.Ytiginllbfjekeaa
open Go.ChangeShapes Go.WideShapes Go.ChangeAt Go.RowKit

theorem MineT.alloc {B : Nat} {w0 w : World} {v : Value} {ts : List Tv} (h : MineT B w0 w v ts) (o : Obj) : MineT B w0 (w.alloc o) v ts := h.later ((Below.refl _ w).alloc (Nat.le_refl _) o)
theorem MineT.rebase {B B' : Nat} {w0 w0' w : World} {v : Value} {ts : List Tv} (h : MineT B w0 w v ts) (hB : B' ≤ B) (hb : Below B' w0' w) : MineT B' w0' w v ts :=
  ⟨⟨(h.row.own.mono hB (Nat.le_refl _)).1, hb, Nat.le_trans hB h.row.size⟩, fun p hp => (h.inn p hp).mono hB (Nat.le_refl _), h.nod⟩
theorem MineT.set {B b o : Nat} {w0 w : World} {v u : Value} {ts : List Tv} (h : MineT B w0 w v ts) (hb : b < B) : MineT B (w.setCell ⟨b, o, none⟩ u) (w.setCell ⟨b, o, none⟩ u) v ts :=
  ⟨⟨(ownK_set h.row.own hb).1, Below.refl _ _, Nat.le_trans h.row.size (size_set _ _ _)⟩, fun p hp => (ownK_set (h.inn p hp) hb).mono (Nat.le_refl _) (size_set _ _ _), h.nod⟩
theorem MineT.slice {B : Nat} {w0 w : World} {v : Value} {ts : List Tv} (h : MineT B w0 w v ts) : ∃ a n c, v = .slice a n c := h.row.own.slice'
theorem heap_one1 {w : World} {b : Nat} {x u : Value} {T : TypeId} (h : w.heap[b]? = some (.cells #[x] T (0, 0))) : (w.setCell ⟨b, 0, none⟩ u).heap[b]? = some (.cells #[u] T (0, 0)) := by
  rw [heap_one (o := 0) h u]; rfl
theorem cells_one {w : World} {b : Nat} {x : Value} {T : TypeId} (h : w.heap[b]? = some (.cells #[x] T (0, 0))) : w.cell? ⟨b, 0, none⟩ = some x ∧ w.frozen? ⟨b, 0, none⟩ = false := by
  refine ⟨?_, ?_⟩
  · unfold World.cell?; rw [h]; rfl
  · unfold World.frozen?; rw [h]; rfl

/-- What FeedText answers for the bytes x: the tokens, all the call's own, and what remains. -/
def FeedOut (x : List UInt8) (w : World) (e : Ending) (w' : World) : Prop :=
  ∃ v ts, e = .returned (.tuple #[v, .agg #[.string (ofL (feedB x).2)]]) ∧ ts.map Prod.fst = (feedB x).1 ∧ MineT w.heap.size w w' v ts
/-- What EndText and TokensOf answer: these tokens, all the call's own. -/
def ToksOut (l : List Tok) (w : World) (e : Ending) (w' : World) : Prop :=
  ∃ v ts, e = .returned v ∧ ts.map Prod.fst = l ∧ MineT w.heap.size w w' v ts
/-- One token more. -/
theorem toks_more {x y z : List UInt8} {ts : List Tv} {p : Tv} (h : feedB x = (ts.map Prod.fst ++ (feedB y).1, (feedB y).2)) (hy : feedB y = (p.1 :: (feedB z).1, (feedB z).2)) : feedB x = ((ts ++ [p]).map Prod.fst ++ (feedB z).1, (feedB z).2) := by
  rw [h, hy]; simp
theorem toks_none {x y z : List UInt8} {ts : List Tv} (h : feedB x = (ts.map Prod.fst ++ (feedB y).1, (feedB y).2)) (hy : feedB y = ((feedB z).1, (feedB z).2)) : feedB x = (ts.map Prod.fst ++ (feedB z).1, (feedB z).2) := by
  rw [h, hy]
theorem toks_end {x y : List UInt8} {ts : List Tv} (h : feedB x = (ts.map Prod.fst ++ (feedB y).1, (feedB y).2)) (hy : feedB y = ([], y)) : ts.map Prod.fst = (feedB x).1 ∧ y = (feedB x).2 := by
  rw [h, hy]; simp
theorem tag_inside (y : List UInt8) (e : Nat) : (ofL y).extract 1 e = ofL ((y.take e).drop 1) := by
  rw [extract_eq, ofL_list]
  congr 1
  rw [List.drop_take]
/-- What TagOf answers, by cases. -/
theorem tagOut_cases {s : ByteArray} {w : World} {e : Ending} {w' : World} (h : TagOut s w e w') :
    (∃ a n c, tagB s.data.toList = none ∧ e = .returned (.tuple #[.agg #[.int .i64 0, .string ⟨#[]⟩, .slice a n c, .string ⟨#[]⟩], .bool false]) ∧ Below w.heap.size w w') ∨
    ∃ t a n c, tagB s.data.toList = some t ∧ e = .returned (.tuple #[.agg #[.int .i64 t.kind, .string t.name, .slice a n c, .string t.text], .bool true]) ∧ OwnK encA 2 104 w.heap.size w'.heap.size w' (.slice a n c) t.attrs ∧ Below w.heap.size w w' := by
  obtain ⟨⟨a, n, c⟩, he, ho, hb⟩ := h
  cases ht : tagB s.data.toList with
  | none =>
    have e1 : tagT s = tokZero := by unfold tagT; rw [ht]; rfl
    have e2 : tagOk s = false := by unfold tagOk; rw [ht]; rfl
    refine Or.inl ⟨a, n, c, rfl, ?_, hb⟩
    rw [he, e2, e1]; rfl
  | some t =>
    have e1 : tagT s = t := by unfold tagT; rw [ht]; rfl
    have e2 : tagOk s = true := by unfold tagOk; rw [ht]; rfl
    refine Or.inr ⟨t, a, n, c, rfl, ?_, ?_, hb⟩
    · rw [he, e2, e1]; rfl
    · rw [e1] at ho; exact ho
/-- One token in a new block, whose number is known otherwise. -/
theorem readsT_at (w : World) (p : Tv) (H : Nat) (hH : w.heap.size = H) {k : Int} {nm tx : ByteArray} {u : Value} (h1 : p.1.kind = k) (h2 : p.1.name = nm) (h3 : sv p.2 = u) (h4 : p.1.text = tx) :
    ReadsK encT 4 (H + 1) (w.alloc (.cells #[.int .i64 k, .string nm, u, .string tx] 30)) (.slice (some ⟨H, 0, none⟩) 1 1) [p] := by
  subst hH; exact readsT_one w p h1 h2 h3 h4
/-- A slice of one new token. -/
theorem mineT_lit {B : Nat} {w0 w : World} (p : Tv) (H : Nat) (hH : w.heap.size = H) (hB : B ≤ w.heap.size) (hb : Below B w0 w) {k : Int} {nm tx : ByteArray} {u : Value} (h1 : p.1.kind = k) (h2 : p.1.name = nm) (h3 : sv p.2 = u) (h4 : p.1.text = tx)
    (hi : OwnK encA 2 104 B w.heap.size w (sv p.2) p.1.attrs) : MineT B w0 (w.alloc (.cells #[.int .i64 k, .string nm, u, .string tx] 30)) (.slice (some ⟨H, 0, none⟩) 1 1) [p] := by
  subst hH; subst h1; subst h2; subst h3; subst h4
  have ha : Below w.heap.size w (w.alloc (.cells #[.int .i64 p.1.kind, .string p.1.name, sv p.2, .string p.1.text] 30)) := (Below.refl _ w).alloc (Nat.le_refl _) _
  refine ⟨⟨?_, hb.trans (ha.mono hB), by rw [size_alloc]; omega⟩, fun q hq => ?_, ?_⟩
  · have := World.ownsRow_lit (base := B) (e := 30) (size := 4) w #[.int .i64 p.1.kind, .string p.1.name, sv p.2, .string p.1.text] 1 hB (by decide) (by simp)
    exact this
  · rw [List.mem_singleton] at hq
    subst hq
    exact (hi.later ha).mono (Nat.le_refl _) ha.size
  · unfold insB
    rw [List.flatMap_cons, List.flatMap_nil, List.append_nil]
    cases (sv p.2).ownBlock with
    | none => exact List.nodup_nil
    | some g => simp
theorem endB_nil : endB [] = [] := by simp [endB]
theorem endB_tag {r : List UInt8} (h : r[0]? = some 60) : endB r = [] := by unfold endB; rw [if_pos (Or.inr h)]
theorem endB_text {r : List UInt8} (h : r ≠ []) (h2 : r[0]? ≠ some 60) : endB r = [tokText (ofL r)] := by unfold endB; rw [if_neg (by rintro (h3 | h3); exact h h3; exact h2 h3)]
theorem toks_nodup {B : Nat} {w0 wr w1 : World} {v : Value} {ts : List Tv} {p : Tv} {hi : Nat} (h : MineT B w0 wr v ts) (ho : OwnK encA 2 104 wr.heap.size hi w1 (sv p.2) p.1.attrs) : (insB ts ++ insB [p]).Nodup := by
  rw [List.nodup_append]
  refine ⟨h.nod, ?_, fun a ha b hb e => ?_⟩
  · unfold insB
    rw [List.flatMap_cons, List.flatMap_nil, List.append_nil]
    cases (sv p.2).ownBlock with
    | none => exact List.nodup_nil
    | some g => simp
  · subst e
    obtain ⟨q, hq, hb2⟩ := insB_mem.1 hb
    rw [List.mem_singleton] at hq
    subst hq
    have h1 := (h.lt a ha).2
    have h2 := (ho.1.lt a hb2).1
    omega
theorem idx_tag {y : List UInt8} (h0 : idxB 60 y = 0) (h1 : idxB 62 y < y.length) : 1 ≤ idxB 62 y := by
  cases y with
  | nil => exact absurd h1 (Nat.not_lt_zero _)
  | cons b l =>
    have hb : b = 60 := by
      have := idxB_at (c := 60) (l := b :: l) (by rw [h0]; simp)
      rw [h0] at this
      simpa using this
    subst hb
    rw [idxB, if_neg (by decide)]; omega
end Go.Proofs.Ytiginllbfjekeaa
