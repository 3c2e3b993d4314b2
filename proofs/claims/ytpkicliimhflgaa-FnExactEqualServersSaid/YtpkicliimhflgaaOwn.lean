/- Helper facts on slices of numbers: what it means that a slice value reads as a list of numbers, that a call owns it, and how both are carried over the changes of memory. No claim of its own. -/
import Derived.Test.YtpkicliimhflgaaRows
import Derived.WalkKit
import Derived.ProofKit
import Derived.OpenShut
import Derived.LoopTactic
import Derived.Lib.Hide
import Derived.Below
import Derived.OneCell
import Derived.OwnWalk
import Derived.Laws.Rows
import Derived.Laws.AppendOwnNone
import Derived.Laws.BitsLemmas
import Derived.Lib.EndianBits
import Derived.Lib.AppendZeros
import Derived.Deep.QuietTactic
import Derived.BigQuiet
namespace Go.Proofs.Ytpkicliimhflgaa
open Go.ChangeShapes Go.WideShapes Go.ChangeAt Go.RowKit

theorem info8 : (Try.prog.info? 5).map (fun i => (i.zero, i.size, i.bytes)) = some (some (.int .u8 0), 1, 1) := by kernel_rfl
theorem info64 : (Try.prog.info? 3).map (fun i => (i.zero, i.size, i.bytes)) = some (some (.int .i64 0), 1, 8) := by kernel_rfl

/-- Nothing lies otherwise than before: at most numbers were drawn. -/
structure Same (w w' : World) : Prop where
  os : w'.os = w.os
  tape : w'.tape = w.tape
  output : w'.output = w.output
  heap : w'.heap = w.heap
theorem Same.refl (w : World) : Same w w := ⟨rfl, rfl, rfl, rfl⟩
theorem Same.trans {a b c : World} (h : Same a b) (k : Same b c) : Same a c := ⟨k.os.trans h.os, k.tape.trans h.tape, k.output.trans h.output, k.heap.trans h.heap⟩
theorem Same.below {w w' : World} (h : Same w w') (B : Nat) : Below B w w' := ⟨h.os, h.tape, h.output, by rw [h.heap]; exact Nat.le_refl _, fun _ _ => by rw [h.heap]⟩
theorem Same.cell {w w' : World} (h : Same w w') (p : Addr) : w'.cell? p = w.cell? p := World.cell?_of_block (w := w) (by rw [h.heap])

/-- The slice value reads as these numbers; its block is below hi. -/
def Reads (k : IntKind) (hi : Nat) (w : World) (v : Value) (zs : List Int) : Prop :=
  ∃ (a : Option Addr) (cap : Nat), v = .slice a zs.length cap ∧ zs.length ≤ cap ∧ cap ≤ 9223372036854775807 ∧ (a = none → cap = 0) ∧ (zs.length = 0 ∨ ∃ g off, a = some ⟨g, off, none⟩ ∧ g < hi ∧ ∀ j, j < zs.length → w.cell? ⟨g, off + j, none⟩ = some (.int k (zs.getD j 0)))
/-- The slice value is the call's own, in a block from lo on and below hi, and holds these numbers. -/
def Own (k : IntKind) (e : TypeId) (lo hi : Nat) (w : World) (v : Value) (zs : List Int) : Prop :=
  w.ownsRow lo e 1 v zs.length (zs.map (.int k)) ∧ ∀ g, v.ownBlock = some g → g < hi
def Bytes (zs : List Int) : Prop := ∀ z ∈ zs, 0 ≤ z ∧ z < 256
def Ints (zs : List Int) : Prop := ∀ z ∈ zs, -9223372036854775808 ≤ z ∧ z ≤ 9223372036854775807

theorem Bytes.at {zs : List Int} (h : Bytes zs) (j : Nat) : 0 ≤ zs.getD j 0 ∧ zs.getD j 0 < 256 := by
  by_cases hj : j < zs.length
  · rw [List.getD_eq_getElem?_getD, List.getElem?_eq_getElem hj]; exact h _ (List.getElem_mem hj)
  · rw [List.getD_eq_getElem?_getD, List.getElem?_eq_none (by omega)]; simp
theorem Ints.at {zs : List Int} (h : Ints zs) (j : Nat) : -9223372036854775808 ≤ zs.getD j 0 ∧ zs.getD j 0 ≤ 9223372036854775807 := by
  by_cases hj : j < zs.length
  · rw [List.getD_eq_getElem?_getD, List.getElem?_eq_getElem hj]; exact h _ (List.getElem_mem hj)
  · rw [List.getD_eq_getElem?_getD, List.getElem?_eq_none (by omega)]; simp
theorem getD_at {zs : List Int} {j : Nat} (hj : j < zs.length) : zs[j]? = some (zs.getD j 0) := by
  rw [List.getD_eq_getElem?_getD, List.getElem?_eq_getElem hj]; rfl

theorem Reads.below {k : IntKind} {hi B : Nat} {w w' : World} {v : Value} {zs : List Int} (h : Reads k hi w v zs) (hb : Below B w w') (hB : hi ≤ B) : Reads k hi w' v zs := by
  obtain ⟨a, cap, e, h1, h2, hnil, h3⟩ := h
  refine ⟨a, cap, e, h1, h2, hnil, ?_⟩
  rcases h3 with h3 | ⟨g, off, e2, hg, hc⟩
  · exact Or.inl h3
  · exact Or.inr ⟨g, off, e2, hg, fun j hj => by rw [hb.cell (show g < B by omega)]; exact hc j hj⟩
theorem Reads.mono {k : IntKind} {hi hi' : Nat} {w : World} {v : Value} {zs : List Int} (h : Reads k hi w v zs) (hh : hi ≤ hi') : Reads k hi' w v zs := by
  obtain ⟨a, cap, e, h1, h2, hnil, h3⟩ := h
  refine ⟨a, cap, e, h1, h2, hnil, ?_⟩
  rcases h3 with h3 | ⟨g, off, e2, hg, hc⟩
  · exact Or.inl h3
  · exact Or.inr ⟨g, off, e2, by omega, hc⟩
theorem Reads.same {k : IntKind} {hi : Nat} {w w' : World} {v : Value} {zs : List Int} (h : Reads k hi w v zs) (hs : Same w w') : Reads k hi w' v zs := h.below (hs.below hi) (Nat.le_refl _)

theorem Own.lt {k : IntKind} {e : TypeId} {lo hi : Nat} {w : World} {v : Value} {zs : List Int} (h : Own k e lo hi w v zs) : ∀ g, v.ownBlock = some g → lo ≤ g ∧ g < w.heap.size := h.1.lt
theorem Own.reads {k : IntKind} {e : TypeId} {lo hi : Nat} {w : World} {v : Value} {zs : List Int} (h : Own k e lo hi w v zs) : Reads k hi w v zs := by
  obtain ⟨h1, h2⟩ := h
  have h3 := h1
  rcases h1.2 with ⟨rfl, h0⟩ | ⟨g, cap, cur, rfl, hg, hh, hc, hm, _⟩
  · exact ⟨none, 0, by rw [h0], by omega, by omega, (fun _ => rfl), Or.inl h0⟩
  · refine ⟨_, cap, rfl, hc, by unfold maxLen at hm; omega, (fun h => by cases h), Or.inr ⟨g, 0, rfl, h2 g rfl, fun j hj => ?_⟩⟩
    rw [Nat.zero_add, h3.cellAt j (by omega), List.getElem?_map, getD_at hj]
    rfl
theorem Own.mono {k : IntKind} {e : TypeId} {lo hi lo' hi' : Nat} {w : World} {v : Value} {zs : List Int} (h : Own k e lo hi w v zs) (hl : lo' ≤ lo) (hh : hi ≤ hi') : Own k e lo' hi' w v zs := by
  refine ⟨⟨h.1.1, ?_⟩, fun g hg => by have := h.2 g hg; omega⟩
  rcases h.1.2 with h1 | ⟨g, cap, cur, h1, h2, h3⟩
  · exact Or.inl h1
  · exact Or.inr ⟨g, cap, cur, h1, by omega, h3⟩
theorem Own.below {k : IntKind} {e : TypeId} {lo hi B : Nat} {w w' : World} {v : Value} {zs : List Int} (h : Own k e lo hi w v zs) (hb : Below B w w') (hB : hi ≤ B) : Own k e lo hi w' v zs := by
  refine ⟨⟨h.1.1, ?_⟩, h.2⟩
  rcases h.1.2 with h1 | ⟨g, cap, cur, h1, h2, h3, h4⟩
  · exact Or.inl h1
  · have hg := h.2 g (by rw [h1]; rfl)
    exact Or.inr ⟨g, cap, cur, h1, h2, by rw [hb.block g (by omega)]; exact h3, h4⟩
theorem Own.later {k : IntKind} {e : TypeId} {lo hi : Nat} {w w' : World} {v : Value} {zs : List Int} (h : Own k e lo hi w v zs) (hb : Below w.heap.size w w') : Own k e lo hi w' v zs := by
  refine ⟨⟨h.1.1, ?_⟩, h.2⟩
  rcases h.1.2 with h1 | ⟨g, cap, cur, h1, h2, h3, h4⟩
  · exact Or.inl h1
  · have hg := (h.1.lt g (by rw [h1]; rfl)).2
    exact Or.inr ⟨g, cap, cur, h1, h2, by rw [hb.block g hg]; exact h3, h4⟩
/-- Writing another slice's block leaves this one as it was. -/
theorem Own.apart {k k' : IntKind} {e e' : TypeId} {lo hi lo' hi' : Nat} {w w' : World} {v u : Value} {zs ys : List Int} (h : Own k e lo hi w v zs) (hu : Own k' e' lo' hi' w u ys) (hd : hi ≤ lo' ∨ hi' ≤ lo) (hg : w.grownBy w' u.ownBlock) : Own k e lo hi w' v zs := by
  refine ⟨h.1.kept hg ?_, h.2⟩
  cases hv : v.ownBlock with
  | none => exact Or.inl rfl
  | some g =>
    right
    intro e
    have h1 := h.2 g hv
    have h2 := (h.1.lt g hv).1
    have h3 := hu.2 g e.symm
    have h4 := (hu.1.lt g e.symm).1
    omega
theorem Own.back {k : IntKind} {e : TypeId} {lo hi : Nat} {w w0 w' : World} {v : Value} {zs : List Int} (h : Own k e lo hi w v zs) (hb : Below lo w0 w) (hlo : lo ≤ w.heap.size) (hg : w.grownBy w' v.ownBlock) : Below lo w0 w' :=
  hb.grown hg hlo fun g hv => (h.1.lt g hv).1

/-- The first m cells are the numbers' own. -/
def Upto (k : IntKind) (zs : List Int) (m : Nat) (xs : List Value) : Prop := ∀ j, j < m → xs[j]? = some (.int k (zs.getD j 0))
theorem Upto.zero (k : IntKind) (zs : List Int) (xs : List Value) : Upto k zs 0 xs := fun _ h => absurd h (Nat.not_lt_zero _)
theorem Upto.set {k : IntKind} {zs : List Int} {m : Nat} {xs : List Value} (h : Upto k zs m xs) (hm : m < xs.length) : Upto k zs (m + 1) (xs.set m (.int k (zs.getD m 0))) := by
  intro j hj
  rw [List.getElem?_set]
  by_cases e : m = j
  · subst e; rw [if_pos rfl, if_pos hm]
  · rw [if_neg e]; exact h j (by omega)
theorem Upto.full {k : IntKind} {zs : List Int} {n : Nat} {xs : List Value} (h : Upto k zs n xs) (hx : xs.length = n) (hz : zs.length = n) : xs = zs.map (.int k) := by
  apply List.ext_getElem?
  intro j
  by_cases hj : j < n
  · rw [h j hj, List.getElem?_map, getD_at (by omega)]; rfl
  · rw [List.getElem?_eq_none (by omega), List.getElem?_eq_none (by simp; omega)]
theorem grown_trans {a b c : World} {r : Option Nat} (h : a.grownBy b r) (k : b.grownBy c r) : a.grownBy c r :=
  ⟨k.os.trans h.os, k.tape.trans h.tape, k.output.trans h.output, Nat.le_trans h.size k.size, fun i hi hn => (k.block i (Nat.lt_of_lt_of_le hi h.size) hn).trans (h.block i hi hn)⟩
theorem Reads.nil {k : IntKind} {hi n cap : Nat} {w : World} {zs : List Int} (h : Reads k hi w (.slice none n cap) zs) : zs = [] ∧ n = 0 ∧ cap = 0 := by
  obtain ⟨a, cap', e, h1, h2, hnil, h3⟩ := h
  cases e
  have hc := hnil rfl
  exact ⟨List.eq_nil_of_length_eq_zero (by omega), by omega, hc⟩
theorem Reads.news {k : IntKind} {hi n cap : Nat} {w : World} {ad : Addr} {zs : List Int} (h : Reads k hi w (.slice (some ad) n cap) zs) : ∀ j u, (zs.map (Value.int k))[j]? = some u → w.cell? (ad.add j) = some u := by
  obtain ⟨a, cap', e, h1, h2, hnil, h3⟩ := h
  cases e
  intro j u hu
  have hj : j < zs.length := by
    rcases Nat.lt_or_ge j zs.length with h | h
    · exact h
    · rw [List.getElem?_eq_none (by simpa using h)] at hu; cases hu
  rcases h3 with h3 | ⟨g, off, e2, hg, hc⟩
  · omega
  · cases e2
    have e3 : (⟨g, off, none⟩ : Addr).add j = ⟨g, off + j, none⟩ := by unfold Addr.add; split <;> simp_all
    rw [e3, hc j hj]
    rw [List.getElem?_map, getD_at hj] at hu
    exact hu
theorem nums_oneCell (k : IntKind) (zs : List Int) : ∀ u ∈ zs.map (Value.int k), u.oneCell' = true := by
  intro u hu
  obtain ⟨z, _, rfl⟩ := List.mem_map.1 hu
  rfl

/-- A slice of the call's own, in a block from B on, while of what lay below B nothing was written. -/
structure Mine (k : IntKind) (e : TypeId) (B : Nat) (w0 w : World) (v : Value) (zs : List Int) : Prop where
  row : w.ownsRow B e 1 v zs.length (zs.map (.int k))
  below : Below B w0 w
  size : B ≤ w.heap.size
theorem Mine.own {k : IntKind} {e : TypeId} {B : Nat} {w0 w : World} {v : Value} {zs : List Int} (h : Mine k e B w0 w v zs) : Own k e B w.heap.size w v zs := ⟨h.row, fun g hg => (h.row.lt g hg).2⟩
theorem Mine.grow {k : IntKind} {e : TypeId} {B : Nat} {w0 w w' : World} {v v' : Value} {zs ys : List Int} (h : Mine k e B w0 w v zs) (h1 : w'.ownsRow B e 1 v' (zs.length + ys.length) (zs.map (.int k) ++ ys.map (.int k))) (hg : w.grownBy w' v.ownBlock) : Mine k e B w0 w' v' (zs ++ ys) :=
  ⟨by simpa using h1, h.below.grown hg h.size fun g hv => (h.row.lt g hv).1, Nat.le_trans h.size hg.size⟩
theorem Mine.alloc {k : IntKind} {e : TypeId} {B : Nat} {w0 w : World} {v : Value} {zs : List Int} (h : Mine k e B w0 w v zs) (o : Obj) : Mine k e B w0 (w.alloc o) v zs := ⟨h.row.alloc o, h.below.alloc h.size o, by have := h.size; simp; omega⟩
theorem Mine.later {k : IntKind} {e : TypeId} {B : Nat} {w0 w w' : World} {v : Value} {zs : List Int} (h : Mine k e B w0 w v zs) (hb : Below w.heap.size w w') : Mine k e B w0 w' v zs :=
  ⟨(h.own.later hb).1, h.below.trans (hb.mono h.size), Nat.le_trans h.size hb.size⟩
theorem Mine.empty (k : IntKind) (e : TypeId) (w0 w : World) (B : Nat) (hb : Below B w0 w) (hB : B ≤ w.heap.size) : Mine k e B w0 (w.alloc (.cells #[] e)) (.slice (some ⟨w.heap.size, 0, none⟩) 0 0) [] :=
  ⟨World.ownsRow_made (base := B) (e := e) (size := 1) w #[] 0 hB (by decide) rfl, hb.alloc hB _, by simp; omega⟩
theorem Mine.nil (k : IntKind) (e : TypeId) (w0 w : World) (B : Nat) (hb : Below B w0 w) (hB : B ≤ w.heap.size) : Mine k e B w0 w (.slice none 0 0) [] :=
  ⟨World.ownsRow_nil _ _ _ _, hb, hB⟩

/-- One number in a new block: what append takes. -/
theorem reads_one (k : IntKind) (e : TypeId) (w : World) {x z : Int} (h : x = z) : Reads k (w.heap.size + 1) (w.alloc (.cells #[.int k x] e)) (.slice (some ⟨w.heap.size, 0, none⟩) 1 1) [z] := by
  subst h
  refine ⟨_, 1, rfl, by simp, by omega, (fun h => by cases h), Or.inr ⟨_, 0, rfl, by omega, fun j hj => ?_⟩⟩
  have : j = 0 := by simp at hj; omega
  subst this
  simp

/-- append to a slice of the call's own, of whatever reads as numbers. -/
theorem wpList_app {P : Program} {w : World} {ops : Array Oper} {rest : List Oper} {o : Oper} {a : Act} {Q : Exit → Act → World → Prop} (hgd : o.guard = none) (s x : Operand) (t : TypeId)
    (ho : o.op = .call { callee := .builtin .append, args := #[s, x], argTypes := #[t, t] })
    (k : IntKind) (e : TypeId) (i : TypeInfo) (z : Value) (bytes : Nat) (ht : P.underlying t = some (.slice e)) (hi : P.info? e = some i) (hz : i.zero = some z) (hsize : i.size = 1) (hby : i.bytes = bytes) (hzs : z.cells.size = 1)
    (B : Nat) (w0 : World) (v : Value) (zs : List Int) (hs : a.eval s = v) (hM : Mine k e B w0 w v zs) (vx : Value) (top : Nat) (ys : List Int) (hx : a.eval x = vx) (hr : Reads k top w vx ys)
    (hby8 : bytes ≤ 8) (hlen : zs.length + ys.length ≤ 17592186044416)
    (h : ∀ v' w', Mine k e B w0 w' v' (zs ++ ys) → wpList P ops Q rest (a.put o.dst v') w') : wpList P ops Q (o :: rest) a w := by
  obtain ⟨ad, cap, rfl, h1, h2, h3, h4⟩ := id hr
  cases ad with
  | none =>
    obtain ⟨rfl, _, rfl⟩ := hr.nil
    refine wpList_append_own_none hgd s x t ho B e i 1 ht hi v zs.length _ hs hM.row hx ?_
    have h5 := h v w (by simpa using hM)
    exact h5
  | some ad =>
    refine wpList_append_own _ hgd s x t ho B e i z 1 bytes ht hi hz hsize hby hzs (by decide) v zs.length _ hs hM.row ad ys.length cap (ys.map (.int k)) hx (by simp) hr.news (nums_oneCell _ _) ?_ ?_ hM.size ?_
    · unfold maxLen; omega
    · have : (zs.length + ys.length) * bytes ≤ (zs.length + ys.length) * 8 := Nat.mul_le_mul_left _ hby8
      omega
    · intro v' w' hown hgr _
      exact h v' w' (hM.grow hown hgr)
end Go.Proofs.Ytpkicliimhflgaa
