/- Lines of a script in memory: what it means that a slice value reads as a list of them; append to lines of the call's own. Helper facts, no claim of its own. -/
import Derived.Test.YtiginllbfjekeaaDoorDpLine
import Derived.Test.YtiginllbfjekeaaDoorTk
import Derived.Test.YtiginllbfjekeaaDoorNd
import Derived.Test.YtiginllbfjekeaaDoorTagP
import Derived.Deep.AppendLies
namespace Go.Proofs.YtiginllbfjekeaaDoor
open Go.ChangeShapes Go.WideShapes Go.ChangeAt Go.RowKit

/-- A line: its Op and its Text. -/
abbrev Lnv := Int × ByteArray
def encL (r : Lnv) : List Value := [.int .i64 r.1, .string r.2]
theorem encL_len (r : Lnv) : (encL r).length = 2 := rfl
theorem encL_one (r : Lnv) : ∀ u ∈ encL r, u.oneCell' = true := by
  intro u hu
  simp only [encL, List.mem_cons, List.mem_nil_iff, or_false] at hu
  rcases hu with rfl | rfl <;> rfl
theorem infoLn : (Tryd.prog.info? 47).map (fun i => (i.zero, i.size, i.bytes)) = some (some (.agg #[.int .i64 0, .string ⟨#[]⟩]), 2, 24) := by kernel_rfl
theorem ln_at {xs : List Lnv} {j : Nat} (h : j < xs.length) : ∃ a b, xs[j]? = some (a, b) := ⟨xs[j].1, xs[j].2, List.getElem?_eq_getElem h⟩

def lnCells : List Lnv → List Rw
  | [] => []
  | a :: rs => .leaf (.int .i64 a.1) :: .leaf (.string a.2) :: lnCells rs
/-- A slice of lines. -/
def rwLn (v : Value) (rs : List Lnv) : Rw := .sl v rs.length 2 47 (lnCells rs)
theorem rwLn_cell (v : Value) (rs : List Lnv) : (rwLn v rs).cell = v := rfl
theorem lnCells_map : ∀ rs : List Lnv, (lnCells rs).map Rw.cell = rs.flatMap encL
  | [] => rfl
  | a :: rs => by rw [lnCells, List.map_cons, List.map_cons, lnCells_map rs, List.flatMap_cons]; rfl
theorem lnCells_len : ∀ rs : List Lnv, (lnCells rs).length = rs.length * 2
  | [] => rfl
  | a :: rs => by rw [lnCells, List.length_cons, List.length_cons, lnCells_len rs, List.length_cons]; omega
theorem lnCells_at : ∀ {rs : List Lnv} {j : Nat} {a : Lnv}, rs[j]? = some a → (lnCells rs)[j * 2]? = some (.leaf (.int .i64 a.1)) ∧ (lnCells rs)[j * 2 + 1]? = some (.leaf (.string a.2))
  | [], j, a, h => by simp at h
  | b :: rs, 0, a, h => by
    have : b = a := by simpa using h
    subst this; exact ⟨rfl, rfl⟩
  | b :: rs, j + 1, a, h => by
    have ih := lnCells_at (rs := rs) (j := j) (by simpa using h)
    rw [show (j + 1) * 2 = j * 2 + 1 + 1 by omega, lnCells]
    simpa using ih
theorem lnCells_leaf : ∀ {rs : List Lnv}, ∀ c ∈ lnCells rs, ∃ v, c = .leaf v ∧ v.oneCell' = true
  | [], c, h => by cases h
  | a :: rs, c, h => by
    rw [lnCells] at h
    rcases List.mem_cons.1 h with h | h
    · exact ⟨_, h, rfl⟩
    · rcases List.mem_cons.1 h with h | h
      · exact ⟨_, h, rfl⟩
      · exact lnCells_leaf c h
theorem lnCells_blocks (rs : List Lnv) : blocksL (lnCells rs) = [] := blocksL_nil fun c hc => by
  obtain ⟨s, rfl, _⟩ := lnCells_leaf c hc
  rw [Rw.blocks]
theorem rwLn_blocks (v : Value) (rs : List Lnv) : (rwLn v rs).blocks = v.ownBlock.toList := by rw [rwLn, Rw.blocks, lnCells_blocks, List.append_nil]
theorem rwLn_is (v : Value) (rs : List Lnv) : IsLineS (rwLn v rs) :=
  ⟨v, rs.length, _, lnCells rs, rfl, fun j hj => by
    obtain ⟨a, b, h⟩ := ln_at hj
    obtain ⟨h1, h2⟩ := lnCells_at h
    exact ⟨a, b, h1, h2⟩⟩
theorem rwLn_own {lo hi : Nat} {w : World} {v : Value} {rs : List Lnv} (h : OwnK encL 2 47 lo hi w v rs) : (rwLn v rs).OwnR lo hi w := by
  rw [rwLn, Rw.OwnR]
  exact ⟨by rw [lnCells_map]; exact h, ownRL_iff.2 fun c hc => by obtain ⟨s, rfl, hs⟩ := lnCells_leaf c hc; rw [Rw.OwnR]; exact hs⟩
theorem rwLn_reads {hi : Nat} {w : World} {v : Value} {rs : List Lnv} (h : ReadsK encL 2 hi w v rs) : (rwLn v rs).ReadR hi w := by
  rw [rwLn, Rw.ReadR]
  have h0 := h
  obtain ⟨a, cap, rfl, h1, h2, h3, h4⟩ := h
  refine ⟨⟨a, cap, rfl, lnCells_len rs, h1, h2, h3, ?_⟩, readRL_iff.2 fun c hc => by obtain ⟨s, rfl, hs⟩ := lnCells_leaf c hc; rw [Rw.ReadR]; exact hs⟩
  rcases h4 with h4 | ⟨g, off, rfl, hg, hc⟩
  · exact Or.inl h4
  · refine Or.inr ⟨g, off, rfl, hg, fun j c hj => ?_⟩
    rw [lnCells_map] at hj
    have := h0.news encL_len j c hj
    rwa [add_off] at this
theorem rwLn_data (v u : Value) (rs : List Lnv) : (rwLn v rs).data = (rwLn u rs).data := by rw [rwLn, rwLn, Rw.data, Rw.data]
theorem lines_of_data {x : Rw} {u : Value} {rs : List Lnv} {hi : Nat} {w : World} (h : x.data = (rwLn u rs).data) (hr : x.ReadR hi w) : ReadsK encL 2 hi w x.cell rs := by
  cases x with
  | leaf v => rw [rwLn, Rw.data, Rw.data] at h; cases h
  | sl v n k e cs =>
    rw [rwLn, Rw.data, Rw.data] at h
    obtain ⟨rfl, hd⟩ := Dt.sl.inj h
    have hl : cs.length = rs.length * 2 := by have := congrArg List.length hd; rwa [dataL_len, dataL_len, lnCells_len] at this
    rw [Rw.ReadR] at hr
    obtain ⟨⟨a, cap, rfl, h1, h2, h3, h4, h5⟩, _⟩ := hr
    have hn : n = rs.length := by omega
    subst hn
    refine ⟨a, cap, rfl, h2, h3, h4, ?_⟩
    rcases h5 with h5 | ⟨g, off, rfl, hg, hc⟩
    · exact Or.inl h5
    · refine Or.inr ⟨g, off, rfl, hg, fun j y hj i hi' => ?_⟩
      obtain ⟨k1, k2⟩ := lnCells_at hj
      have hjl := (List.getElem?_eq_some_iff.1 hj).1
      have one : ∀ (m : Nat) (s : Value), m < cs.length → (lnCells rs)[m]? = some (.leaf s) → w.cell? ⟨g, off + m, none⟩ = some s := by
        intro m s hm hs
        obtain ⟨c, hcm⟩ : ∃ c, cs[m]? = some c := ⟨_, List.getElem?_eq_getElem hm⟩
        have e1 := leaf_of_data (data_same hd hcm hs)
        refine hc m _ ?_
        rw [List.getElem?_map, hcm, e1]; rfl
      rcases (show i = 0 ∨ i = 1 by omega) with rfl | rfl
      · exact one (j * 2) _ (by omega) k1
      · rw [Nat.add_assoc]; exact one (j * 2 + 1) _ (by omega) k2
/-- A line in a slice of lines. -/
theorem ReadsK.line {hi n cap k : Nat} {w : World} {a : Option Addr} {rs : List Lnv} {r : Lnv} (h : ReadsK encL 2 hi w (.slice a n cap) rs) (hk : rs[k]? = some r) : ∃ g off, a = some ⟨g, off, none⟩ ∧ g < hi ∧ w.cell? ⟨g, off + k * 2, none⟩ = some (.int .i64 r.1) ∧ w.cell? ⟨g, off + k * 2 + 1, none⟩ = some (.string r.2) := by
  obtain ⟨a', c', e, _, _, _, hc⟩ := h
  injection e with e1 e2 e3; subst e1
  rcases hc with h0 | ⟨g, off, rfl, hg, hc⟩
  · have := (List.getElem?_eq_some_iff.1 hk).1; omega
  · exact ⟨g, off, rfl, hg, hc k r hk 0 (by omega), hc k r hk 1 (by omega)⟩
/-- What a line may be. -/
def LnOk (r : Lnv) : Prop := r.2.size ≤ 9223372036854775807 ∧ -9223372036854775808 ≤ r.1 ∧ r.1 ≤ 9223372036854775807
theorem lnCells_small : ∀ {rs : List Lnv}, (∀ r ∈ rs, LnOk r) → SmallL (lnCells rs)
  | [], _ => trivial
  | r :: rs, h => by
    have h1 := h r List.mem_cons_self
    rw [lnCells]
    refine smallL_iff.2 fun c hc => ?_
    rcases List.mem_cons.1 hc with e | hc
    · rw [e, Rw.Small]; exact Nat.zero_le _
    rcases List.mem_cons.1 hc with e | hc
    · rw [e, Rw.Small]; exact h1.1
    · exact smallL_iff.1 (lnCells_small fun q hq => h q (List.mem_cons_of_mem _ hq)) c hc
theorem rwLn_small {v : Value} {rs : List Lnv} (h : ∀ r ∈ rs, LnOk r) : (rwLn v rs).Small := by rw [rwLn, Rw.Small]; exact lnCells_small h
def sumL (rs : List Lnv) : Nat := (rs.map fun r => r.2.size).sum
theorem lnCells_weight : ∀ rs : List Lnv, weightL (lnCells rs) = sumL rs
  | [] => rfl
  | r :: rs => by
    have h1 : (Rw.leaf (.int .i64 r.1)).weight = 0 := rfl
    rw [lnCells, weightL, weightL, lnCells_weight rs, h1, Nat.zero_add, sumL, sumL, List.map_cons, List.sum_cons]; rfl
theorem rwLn_weight (v : Value) (rs : List Lnv) : (rwLn v rs).weight = rs.length + sumL rs := by rw [rwLn, Rw.weight, lnCells_weight]
theorem lnCells_count : ∀ rs : List Lnv, countL (lnCells rs) = 2 * rs.length
  | [] => rfl
  | r :: rs => by rw [lnCells, countL, countL, Rw.count, Rw.count, lnCells_count rs, List.length_cons]; omega
theorem rwLn_count (v : Value) (rs : List Lnv) : (rwLn v rs).count = 2 * rs.length := by rw [rwLn, Rw.count, lnCells_count]
theorem takeL {α : Type} {xs : List α} {k : Nat} {x : α} (h : xs[k]? = some x) : xs.take (k + 1) = xs.take k ++ [x] := by
  rw [List.take_add_one, h]; rfl
theorem sumL_take (rs : List Lnv) (k : Nat) : sumL (rs.take k) ≤ sumL rs := by
  have : sumL rs = sumL (rs.take k) + sumL (rs.drop k) := by
    conv => lhs; rw [← List.take_append_drop k rs]
    unfold sumL; rw [List.map_append, List.sum_append]
  omega
theorem sumL_at {rs : List Lnv} {k : Nat} {r : Lnv} (h : rs[k]? = some r) : sumL (rs.take k) + r.2.size ≤ sumL rs := by
  have h1 := sumL_take rs (k + 1)
  rw [takeL h] at h1
  unfold sumL at h1 ⊢
  rw [List.map_append, List.sum_append] at h1
  simpa using h1

/-- append to lines of the call's own; what else is written is told. -/
theorem wpList_appLG {w : World} {ops : Array Oper} {rest : List Oper} {o : Oper} {a : Act} {Q : Exit → Act → World → Prop} (hgd : o.guard = none) (s x : Operand)
    (ho : o.op = .call { callee := .builtin .append, args := #[s, x], argTypes := #[25, 25] })
    (B : Nat) (w0 : World) (v : Value) (rs : List Lnv) (hs : a.eval s = v) (hM : MineK encL 2 47 B w0 w v rs) (vx : Value) (top : Nat) (us : List Lnv) (hx : a.eval x = vx) (hr : ReadsK encL 2 top w vx us)
    (hlen : rs.length + us.length ≤ 137438953472)
    (h : ∀ v' w', MineK encL 2 47 B w0 w' v' (rs ++ us) → w.grownBy w' v.ownBlock → wpList Tryd.prog ops Q rest (a.put o.dst v') w') : wpList Tryd.prog ops Q (o :: rest) a w := by
  obtain ⟨i, hi, hz, hsize, hby⟩ := info_parts infoLn
  obtain ⟨ad, cap, rfl, h1, h2, h3, h4⟩ := id hr
  cases ad with
  | none =>
    obtain ⟨rfl, _, rfl⟩ := hr.nil
    refine wpList_append_own_none hgd s x _ ho B _ i 2 Tryd.underlying25 hi v rs.length _ hs hM.row hx ?_
    exact h v w (by simpa using hM) ⟨rfl, rfl, rfl, Nat.le_refl _, fun _ _ _ => rfl⟩
  | some ad =>
    refine wpList_append_own _ hgd s x _ ho B _ i _ 2 24 Tryd.underlying25 hi hz hsize hby (by rfl) (by decide) v rs.length _ hs hM.row ad us.length cap (us.flatMap encL) hx (flat_len encL_len us) (hr.news encL_len) ?_ ?_ ?_ hM.size ?_
    · intro u hu
      obtain ⟨y, _, hy⟩ := List.mem_flatMap.1 hu
      exact encL_one y u hy
    · unfold maxLen; omega
    · omega
    · intro v' w' hown hgr _
      exact h v' w' (hM.grow hown hgr) hgr
theorem readsL_at (w : World) (H : Nat) (hH : w.heap.size = H) (op : Int) (tx : ByteArray) : ReadsK encL 2 (H + 1) (w.alloc (.cells #[.int .i64 op, .string tx] 47)) (.slice (some ⟨H, 0, none⟩) 1 1) [(op, tx)] := by
  subst hH; exact readsK_one2 encL 47 w (x := (op, tx)) rfl
theorem mineL_form {B : Nat} {w0 w : World} {v : Value} {rs : List Lnv} (h : MineK encL 2 47 B w0 w v rs) : ∃ a c, v = .slice a rs.length c ∧ rs.length ≤ c ∧ c ≤ 9223372036854775807 := by
  obtain ⟨a, c, e, h1, h2, _⟩ := h.own.reads encL_len
  exact ⟨a, c, e, h1, h2⟩
theorem ln_ne : 47 ≠ 9 := by decide
end Go.Proofs.YtiginllbfjekeaaDoor
