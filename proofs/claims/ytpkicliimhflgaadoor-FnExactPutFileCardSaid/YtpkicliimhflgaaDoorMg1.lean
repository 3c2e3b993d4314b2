/- Helper facts on slices of numbers: what it means that a slice value reads as a list of numbers, that a call owns it, and how both are carried over the changes of memory. No claim of its own. Helper facts on slices whose elements are laid in k cells each (structs of plain fields): what it means that a slice value reads as a list of them, that a call owns it, and how both are carried over the changes of memory. No claim of its own. Helper contract over markText, the text that the laws write as a mark. Asked: the number is below 2^62. Helper facts on data with slices in slices: what lies where, that a call owns all of it, and how that is carried over the changes of memory; the marks that a law writes into it. No claim of its own. Plain facts on strings as lists of bytes. No program. Helper contracts over the functions with which the laws copy, compare, measure and mark slices, by program (deep.py). Asked: what lies in memory is as named. Helper contracts over the functions with which the laws copy, measure and compare one response. No conditions beyond the types. -/
import Derived.Test.YtpkicliimhflgaaDoorRows
import Derived.WalkKit
import Derived.ProofKit
import Derived.OpenShut
import Derived.LoopTactic
import Derived.Lib.Hide
import Derived.Below
import Derived.OneCell
import Derived.OwnWalk
import Derived.Laws.Rows
import Derived.Laws.AppendOwnNone
import Derived.Laws.BitsLemmas
import Derived.Lib.EndianBits
import Derived.Lib.AppendZeros
import Derived.Deep.QuietTactic
import Derived.BigQuiet
import Derived.Sort.Grow
import Derived.Lib.Strings
import Derived.Lib.Walk
import Derived.Lib.ItoaNum
import Derived.Laws.IdiomStrings
import Derived.Lib.Slices
import Derived.Lib.Bytealg
import Derived.Laws.Strings
import Derived.Shelf.SlSortCmp.QuietGrown
namespace Go.Proofs.YtpkicliimhflgaaDoor

open Go.ChangeShapes Go.WideShapes Go.ChangeAt Go.RowKit

theorem info8 : (Tryd.prog.info? 5).map (fun i => (i.zero, i.size, i.bytes)) = some (some (.int .u8 0), 1, 1) := by kernel_rfl
theorem info64 : (Tryd.prog.info? 3).map (fun i => (i.zero, i.size, i.bytes)) = some (some (.int .i64 0), 1, 8) := by kernel_rfl

/-- Nothing lies otherwise than before: at most numbers were drawn. -/
structure Same (w w' : World) : Prop where
  os : w'.os = w.os
  tape : w'.tape = w.tape
  output : w'.output = w.output
  heap : w'.heap = w.heap
theorem Same.refl (w : World) : Same w w := ⟨rfl, rfl, rfl, rfl⟩
theorem Same.trans {a b c : World} (h : Same a b) (k : Same b c) : Same a c := ⟨k.os.trans h.os, k.tape.trans h.tape, k.output.trans h.output, k.heap.trans h.heap⟩
theorem Same.below {w w' : World} (h : Same w w') (B : Nat) : Below B w w' := ⟨h.os, h.tape, h.output, by rw [h.heap]; exact Nat.le_refl _, fun _ _ => by rw [h.heap]⟩
theorem Same.cell {w w' : World} (h : Same w w') (p : Addr) : w'.cell? p = w.cell? p := World.cell?_of_block (w := w) (by rw [h.heap])

/-- The slice value reads as these numbers; its block is below hi. -/
def Reads (k : IntKind) (hi : Nat) (w : World) (v : Value) (zs : List Int) : Prop :=
  ∃ (a : Option Addr) (cap : Nat), v = .slice a zs.length cap ∧ zs.length ≤ cap ∧ cap ≤ 9223372036854775807 ∧ (a = none → cap = 0) ∧ (zs.length = 0 ∨ ∃ g off, a = some ⟨g, off, none⟩ ∧ g < hi ∧ ∀ j, j < zs.length → w.cell? ⟨g, off + j, none⟩ = some (.int k (zs.getD j 0)))
/-- The slice value is the call's own, in a block from lo on and below hi, and holds these numbers. -/
def Own (k : IntKind) (e : TypeId) (lo hi : Nat) (w : World) (v : Value) (zs : List Int) : Prop :=
  w.ownsRow lo e 1 v zs.length (zs.map (.int k)) ∧ ∀ g, v.ownBlock = some g → g < hi
def Bytes (zs : List Int) : Prop := ∀ z ∈ zs, 0 ≤ z ∧ z < 256
def Ints (zs : List Int) : Prop := ∀ z ∈ zs, -9223372036854775808 ≤ z ∧ z ≤ 9223372036854775807

theorem Bytes.at {zs : List Int} (h : Bytes zs) (j : Nat) : 0 ≤ zs.getD j 0 ∧ zs.getD j 0 < 256 := by
  by_cases hj : j < zs.length
  · rw [List.getD_eq_getElem?_getD, List.getElem?_eq_getElem hj]; exact h _ (List.getElem_mem hj)
  · rw [List.getD_eq_getElem?_getD, List.getElem?_eq_none (by omega)]; simp
theorem Ints.at {zs : List Int} (h : Ints zs) (j : Nat) : -9223372036854775808 ≤ zs.getD j 0 ∧ zs.getD j 0 ≤ 9223372036854775807 := by
  by_cases hj : j < zs.length
  · rw [List.getD_eq_getElem?_getD, List.getElem?_eq_getElem hj]; exact h _ (List.getElem_mem hj)
  · rw [List.getD_eq_getElem?_getD, List.getElem?_eq_none (by omega)]; simp
theorem getD_at {zs : List Int} {j : Nat} (hj : j < zs.length) : zs[j]? = some (zs.getD j 0) := by
  rw [List.getD_eq_getElem?_getD, List.getElem?_eq_getElem hj]; rfl

theorem Reads.below {k : IntKind} {hi B : Nat} {w w' : World} {v : Value} {zs : List Int} (h : Reads k hi w v zs) (hb : Below B w w') (hB : hi ≤ B) : Reads k hi w' v zs := by
  obtain ⟨a, cap, e, h1, h2, hnil, h3⟩ := h
  refine ⟨a, cap, e, h1, h2, hnil, ?_⟩
  rcases h3 with h3 | ⟨g, off, e2, hg, hc⟩
  · exact Or.inl h3
  · exact Or.inr ⟨g, off, e2, hg, fun j hj => by rw [hb.cell (show g < B by omega)]; exact hc j hj⟩
theorem Reads.mono {k : IntKind} {hi hi' : Nat} {w : World} {v : Value} {zs : List Int} (h : Reads k hi w v zs) (hh : hi ≤ hi') : Reads k hi' w v zs := by
  obtain ⟨a, cap, e, h1, h2, hnil, h3⟩ := h
  refine ⟨a, cap, e, h1, h2, hnil, ?_⟩
  rcases h3 with h3 | ⟨g, off, e2, hg, hc⟩
  · exact Or.inl h3
  · exact Or.inr ⟨g, off, e2, by omega, hc⟩
theorem Reads.same {k : IntKind} {hi : Nat} {w w' : World} {v : Value} {zs : List Int} (h : Reads k hi w v zs) (hs : Same w w') : Reads k hi w' v zs := h.below (hs.below hi) (Nat.le_refl _)

theorem Own.lt {k : IntKind} {e : TypeId} {lo hi : Nat} {w : World} {v : Value} {zs : List Int} (h : Own k e lo hi w v zs) : ∀ g, v.ownBlock = some g → lo ≤ g ∧ g < w.heap.size := h.1.lt
theorem Own.reads {k : IntKind} {e : TypeId} {lo hi : Nat} {w : World} {v : Value} {zs : List Int} (h : Own k e lo hi w v zs) : Reads k hi w v zs := by
  obtain ⟨h1, h2⟩ := h
  have h3 := h1
  rcases h1.2 with ⟨rfl, h0⟩ | ⟨g, cap, cur, rfl, hg, hh, hc, hm, _⟩
  · exact ⟨none, 0, by rw [h0], by omega, by omega, (fun _ => rfl), Or.inl h0⟩
  · refine ⟨_, cap, rfl, hc, by unfold maxLen at hm; omega, (fun h => by cases h), Or.inr ⟨g, 0, rfl, h2 g rfl, fun j hj => ?_⟩⟩
    rw [Nat.zero_add, h3.cellAt j (by omega), List.getElem?_map, getD_at hj]
    rfl
theorem Own.mono {k : IntKind} {e : TypeId} {lo hi lo' hi' : Nat} {w : World} {v : Value} {zs : List Int} (h : Own k e lo hi w v zs) (hl : lo' ≤ lo) (hh : hi ≤ hi') : Own k e lo' hi' w v zs := by
  refine ⟨⟨h.1.1, ?_⟩, fun g hg => by have := h.2 g hg; omega⟩
  rcases h.1.2 with h1 | ⟨g, cap, cur, h1, h2, h3⟩
  · exact Or.inl h1
  · exact Or.inr ⟨g, cap, cur, h1, by omega, h3⟩
theorem Own.below {k : IntKind} {e : TypeId} {lo hi B : Nat} {w w' : World} {v : Value} {zs : List Int} (h : Own k e lo hi w v zs) (hb : Below B w w') (hB : hi ≤ B) : Own k e lo hi w' v zs := by
  refine ⟨⟨h.1.1, ?_⟩, h.2⟩
  rcases h.1.2 with h1 | ⟨g, cap, cur, h1, h2, h3, h4⟩
  · exact Or.inl h1
  · have hg := h.2 g (by rw [h1]; rfl)
    exact Or.inr ⟨g, cap, cur, h1, h2, by rw [hb.block g (by omega)]; exact h3, h4⟩
theorem Own.later {k : IntKind} {e : TypeId} {lo hi : Nat} {w w' : World} {v : Value} {zs : List Int} (h : Own k e lo hi w v zs) (hb : Below w.heap.size w w') : Own k e lo hi w' v zs := by
  refine ⟨⟨h.1.1, ?_⟩, h.2⟩
  rcases h.1.2 with h1 | ⟨g, cap, cur, h1, h2, h3, h4⟩
  · exact Or.inl h1
  · have hg := (h.1.lt g (by rw [h1]; rfl)).2
    exact Or.inr ⟨g, cap, cur, h1, h2, by rw [hb.block g hg]; exact h3, h4⟩
/-- Writing another slice's block leaves this one as it was. -/
theorem Own.apart {k k' : IntKind} {e e' : TypeId} {lo hi lo' hi' : Nat} {w w' : World} {v u : Value} {zs ys : List Int} (h : Own k e lo hi w v zs) (hu : Own k' e' lo' hi' w u ys) (hd : hi ≤ lo' ∨ hi' ≤ lo) (hg : w.grownBy w' u.ownBlock) : Own k e lo hi w' v zs := by
  refine ⟨h.1.kept hg ?_, h.2⟩
  cases hv : v.ownBlock with
  | none => exact Or.inl rfl
  | some g =>
    right
    intro e
    have h1 := h.2 g hv
    have h2 := (h.1.lt g hv).1
    have h3 := hu.2 g e.symm
    have h4 := (hu.1.lt g e.symm).1
    omega
theorem Own.back {k : IntKind} {e : TypeId} {lo hi : Nat} {w w0 w' : World} {v : Value} {zs : List Int} (h : Own k e lo hi w v zs) (hb : Below lo w0 w) (hlo : lo ≤ w.heap.size) (hg : w.grownBy w' v.ownBlock) : Below lo w0 w' :=
  hb.grown hg hlo fun g hv => (h.1.lt g hv).1

/-- The first m cells are the numbers' own. -/
def Upto (k : IntKind) (zs : List Int) (m : Nat) (xs : List Value) : Prop := ∀ j, j < m → xs[j]? = some (.int k (zs.getD j 0))
theorem Upto.zero (k : IntKind) (zs : List Int) (xs : List Value) : Upto k zs 0 xs := fun _ h => absurd h (Nat.not_lt_zero _)
theorem Upto.set {k : IntKind} {zs : List Int} {m : Nat} {xs : List Value} (h : Upto k zs m xs) (hm : m < xs.length) : Upto k zs (m + 1) (xs.set m (.int k (zs.getD m 0))) := by
  intro j hj
  rw [List.getElem?_set]
  by_cases e : m = j
  · subst e; rw [if_pos rfl, if_pos hm]
  · rw [if_neg e]; exact h j (by omega)
theorem Upto.full {k : IntKind} {zs : List Int} {n : Nat} {xs : List Value} (h : Upto k zs n xs) (hx : xs.length = n) (hz : zs.length = n) : xs = zs.map (.int k) := by
  apply List.ext_getElem?
  intro j
  by_cases hj : j < n
  · rw [h j hj, List.getElem?_map, getD_at (by omega)]; rfl
  · rw [List.getElem?_eq_none (by omega), List.getElem?_eq_none (by simp; omega)]
theorem grown_trans {a b c : World} {r : Option Nat} (h : a.grownBy b r) (k : b.grownBy c r) : a.grownBy c r :=
  ⟨k.os.trans h.os, k.tape.trans h.tape, k.output.trans h.output, Nat.le_trans h.size k.size, fun i hi hn => (k.block i (Nat.lt_of_lt_of_le hi h.size) hn).trans (h.block i hi hn)⟩
theorem Reads.nil {k : IntKind} {hi n cap : Nat} {w : World} {zs : List Int} (h : Reads k hi w (.slice none n cap) zs) : zs = [] ∧ n = 0 ∧ cap = 0 := by
  obtain ⟨a, cap', e, h1, h2, hnil, h3⟩ := h
  cases e
  have hc := hnil rfl
  exact ⟨List.eq_nil_of_length_eq_zero (by omega), by omega, hc⟩
theorem Reads.news {k : IntKind} {hi n cap : Nat} {w : World} {ad : Addr} {zs : List Int} (h : Reads k hi w (.slice (some ad) n cap) zs) : ∀ j u, (zs.map (Value.int k))[j]? = some u → w.cell? (ad.add j) = some u := by
  obtain ⟨a, cap', e, h1, h2, hnil, h3⟩ := h
  cases e
  intro j u hu
  have hj : j < zs.length := by
    rcases Nat.lt_or_ge j zs.length with h | h
    · exact h
    · rw [List.getElem?_eq_none (by simpa using h)] at hu; cases hu
  rcases h3 with h3 | ⟨g, off, e2, hg, hc⟩
  · omega
  · cases e2
    have e3 : (⟨g, off, none⟩ : Addr).add j = ⟨g, off + j, none⟩ := by unfold Addr.add; split <;> simp_all
    rw [e3, hc j hj]
    rw [List.getElem?_map, getD_at hj] at hu
    exact hu
theorem nums_oneCell (k : IntKind) (zs : List Int) : ∀ u ∈ zs.map (Value.int k), u.oneCell' = true := by
  intro u hu
  obtain ⟨z, _, rfl⟩ := List.mem_map.1 hu
  rfl

/-- A slice of the call's own, in a block from B on, while of what lay below B nothing was written. -/
structure Mine (k : IntKind) (e : TypeId) (B : Nat) (w0 w : World) (v : Value) (zs : List Int) : Prop where
  row : w.ownsRow B e 1 v zs.length (zs.map (.int k))
  below : Below B w0 w
  size : B ≤ w.heap.size
theorem Mine.own {k : IntKind} {e : TypeId} {B : Nat} {w0 w : World} {v : Value} {zs : List Int} (h : Mine k e B w0 w v zs) : Own k e B w.heap.size w v zs := ⟨h.row, fun g hg => (h.row.lt g hg).2⟩
theorem Mine.grow {k : IntKind} {e : TypeId} {B : Nat} {w0 w w' : World} {v v' : Value} {zs ys : List Int} (h : Mine k e B w0 w v zs) (h1 : w'.ownsRow B e 1 v' (zs.length + ys.length) (zs.map (.int k) ++ ys.map (.int k))) (hg : w.grownBy w' v.ownBlock) : Mine k e B w0 w' v' (zs ++ ys) :=
  ⟨by simpa using h1, h.below.grown hg h.size fun g hv => (h.row.lt g hv).1, Nat.le_trans h.size hg.size⟩
theorem Mine.alloc {k : IntKind} {e : TypeId} {B : Nat} {w0 w : World} {v : Value} {zs : List Int} (h : Mine k e B w0 w v zs) (o : Obj) : Mine k e B w0 (w.alloc o) v zs := ⟨h.row.alloc o, h.below.alloc h.size o, by have := h.size; simp; omega⟩
theorem Mine.later {k : IntKind} {e : TypeId} {B : Nat} {w0 w w' : World} {v : Value} {zs : List Int} (h : Mine k e B w0 w v zs) (hb : Below w.heap.size w w') : Mine k e B w0 w' v zs :=
  ⟨(h.own.later hb).1, h.below.trans (hb.mono h.size), Nat.le_trans h.size hb.size⟩
theorem Mine.empty (k : IntKind) (e : TypeId) (w0 w : World) (B : Nat) (hb : Below B w0 w) (hB : B ≤ w.heap.size) : Mine k e B w0 (w.alloc (.cells #[] e)) (.slice (some ⟨w.heap.size, 0, none⟩) 0 0) [] :=
  ⟨World.ownsRow_made (base := B) (e := e) (size := 1) w #[] 0 hB (by decide) rfl, hb.alloc hB _, by simp; omega⟩
theorem Mine.nil (k : IntKind) (e : TypeId) (w0 w : World) (B : Nat) (hb : Below B w0 w) (hB : B ≤ w.heap.size) : Mine k e B w0 w (.slice none 0 0) [] :=
  ⟨World.ownsRow_nil _ _ _ _, hb, hB⟩

/-- One number in a new block: what append takes. -/
theorem reads_one (k : IntKind) (e : TypeId) (w : World) {x z : Int} (h : x = z) : Reads k (w.heap.size + 1) (w.alloc (.cells #[.int k x] e)) (.slice (some ⟨w.heap.size, 0, none⟩) 1 1) [z] := by
  subst h
  refine ⟨_, 1, rfl, by simp, by omega, (fun h => by cases h), Or.inr ⟨_, 0, rfl, by omega, fun j hj => ?_⟩⟩
  have : j = 0 := by simp at hj; omega
  subst this
  simp

/-- append to a slice of the call's own, of whatever reads as numbers. -/
theorem wpList_app {P : Program} {w : World} {ops : Array Oper} {rest : List Oper} {o : Oper} {a : Act} {Q : Exit → Act → World → Prop} (hgd : o.guard = none) (s x : Operand) (t : TypeId)
    (ho : o.op = .call { callee := .builtin .append, args := #[s, x], argTypes := #[t, t] })
    (k : IntKind) (e : TypeId) (i : TypeInfo) (z : Value) (bytes : Nat) (ht : P.underlying t = some (.slice e)) (hi : P.info? e = some i) (hz : i.zero = some z) (hsize : i.size = 1) (hby : i.bytes = bytes) (hzs : z.cells.size = 1)
    (B : Nat) (w0 : World) (v : Value) (zs : List Int) (hs : a.eval s = v) (hM : Mine k e B w0 w v zs) (vx : Value) (top : Nat) (ys : List Int) (hx : a.eval x = vx) (hr : Reads k top w vx ys)
    (hby8 : bytes ≤ 8) (hlen : zs.length + ys.length ≤ 17592186044416)
    (h : ∀ v' w', Mine k e B w0 w' v' (zs ++ ys) → wpList P ops Q rest (a.put o.dst v') w') : wpList P ops Q (o :: rest) a w := by
  obtain ⟨ad, cap, rfl, h1, h2, h3, h4⟩ := id hr
  cases ad with
  | none =>
    obtain ⟨rfl, _, rfl⟩ := hr.nil
    refine wpList_append_own_none hgd s x t ho B e i 1 ht hi v zs.length _ hs hM.row hx ?_
    have h5 := h v w (by simpa using hM)
    exact h5
  | some ad =>
    refine wpList_append_own _ hgd s x t ho B e i z 1 bytes ht hi hz hsize hby hzs (by decide) v zs.length _ hs hM.row ad ys.length cap (ys.map (.int k)) hx (by simp) hr.news (nums_oneCell _ _) ?_ ?_ hM.size ?_
    · unfold maxLen; omega
    · have : (zs.length + ys.length) * bytes ≤ (zs.length + ys.length) * 8 := Nat.mul_le_mul_left _ hby8
      omega
    · intro v' w' hown hgr _
      exact h v' w' (hM.grow hown hgr)

end Go.Proofs.YtpkicliimhflgaaDoor
namespace Go.Proofs.YtpkicliimhflgaaDoor
open Go.ChangeShapes Go.WideShapes Go.ChangeAt Go.RowKit

theorem grow_below (w : World) (q : Nat) (os : Array Obj) : Below w.heap.size w (Sort.grow (w.drewN q) os) :=
  ⟨rfl, rfl, rfl, by show w.heap.size ≤ (w.heap ++ os).size; simp, fun k hk => by show (w.heap ++ os)[k]? = _; rw [Array.getElem?_append_left hk]⟩

/-- Numbers were drawn, blocks were laid; nothing else. -/
def Grw (w w' : World) : Prop := ∃ q os, w' = Sort.grow (w.drewN q) os
theorem Grw.refl (w : World) : Grw w w := ⟨0, #[], by rw [Sort.grow_empty]; rfl⟩
theorem Grw.trans {a b c : World} (h : Grw a b) (k : Grw b c) : Grw a c := by
  obtain ⟨q, os, rfl⟩ := h
  obtain ⟨q', os', rfl⟩ := k
  exact ⟨q + q', os ++ os', by show Sort.grow (Sort.grow ((a.drewN q).drewN q') os) os' = _; rw [Sort.grow_grow, World.drewN_drewN]⟩
theorem Grw.alloc {a b : World} (h : Grw a b) (o : Obj) : Grw a (b.alloc o) := h.trans ⟨0, #[o], by rw [Sort.alloc_eq_grow]; rfl⟩
theorem Grw.drewN {a b : World} (h : Grw a b) (n : Nat) : Grw a (b.drewN n) := h.trans ⟨n, #[], by rw [Sort.grow_empty]⟩
theorem Grw.drew {a b : World} (h : Grw a b) : Grw a b.drew := h.drewN 1
theorem Grw.below {a b : World} (h : Grw a b) : Below a.heap.size a b := by obtain ⟨q, os, rfl⟩ := h; exact grow_below a q os
theorem below_undrew {B : Nat} {a b : World} (h : Below B a.drew b) : Below B a b := ⟨h.os, h.tape, h.output, h.size, h.block⟩

section
variable {α : Type} {enc : α → List Value} {k : Nat}

theorem flat_len (hk : ∀ x, (enc x).length = k) (xs : List α) : (xs.flatMap enc).length = xs.length * k := by
  induction xs with
  | nil => simp
  | cons x xs ih => rw [List.flatMap_cons, List.length_append, ih, hk, List.length_cons, Nat.add_mul]; omega
theorem flat_at (hk : ∀ x, (enc x).length = k) {xs : List α} {j : Nat} {x : α} (h : xs[j]? = some x) {i : Nat} (hi : i < k) : (xs.flatMap enc)[j * k + i]? = (enc x)[i]? := by
  induction xs generalizing j with
  | nil => simp at h
  | cons y xs ih =>
    rw [List.flatMap_cons]
    cases j with
    | zero =>
      simp only [List.getElem?_cons_zero, Option.some.injEq] at h
      subst h
      rw [Nat.zero_mul, Nat.zero_add, List.getElem?_append_left (by rw [hk]; exact hi)]
    | succ j =>
      rw [List.getElem?_append_right (by rw [hk, Nat.add_mul]; omega), hk, show (j + 1) * k + i - k = j * k + i by rw [Nat.add_mul]; omega]
      exact ih (by simpa using h)

/-- The slice value reads as these elements; its block is below hi. -/
def ReadsK (enc : α → List Value) (k hi : Nat) (w : World) (v : Value) (xs : List α) : Prop :=
  ∃ (a : Option Addr) (cap : Nat), v = .slice a xs.length cap ∧ xs.length ≤ cap ∧ cap ≤ 9223372036854775807 ∧ (a = none → cap = 0) ∧ (xs.length = 0 ∨ ∃ g off, a = some ⟨g, off, none⟩ ∧ g < hi ∧ ∀ j x, xs[j]? = some x → ∀ i, i < k → w.cell? ⟨g, off + j * k + i, none⟩ = (enc x)[i]?)
/-- The slice value is the call's own, in a block from lo on and below hi, and holds these elements. -/
def OwnK (enc : α → List Value) (k : Nat) (e : TypeId) (lo hi : Nat) (w : World) (v : Value) (xs : List α) : Prop :=
  w.ownsRow lo e k v xs.length (xs.flatMap enc) ∧ ∀ g, v.ownBlock = some g → g < hi

theorem ReadsK.below {hi B : Nat} {w w' : World} {v : Value} {xs : List α} (h : ReadsK enc k hi w v xs) (hb : Below B w w') (hB : hi ≤ B) : ReadsK enc k hi w' v xs := by
  obtain ⟨a, cap, e, h1, h2, hnil, h3⟩ := h
  refine ⟨a, cap, e, h1, h2, hnil, ?_⟩
  rcases h3 with h3 | ⟨g, off, e2, hg, hc⟩
  · exact Or.inl h3
  · exact Or.inr ⟨g, off, e2, hg, fun j x hj i hi' => by rw [hb.cell (show g < B by omega)]; exact hc j x hj i hi'⟩
theorem ReadsK.mono {hi hi' : Nat} {w : World} {v : Value} {xs : List α} (h : ReadsK enc k hi w v xs) (hh : hi ≤ hi') : ReadsK enc k hi' w v xs := by
  obtain ⟨a, cap, e, h1, h2, hnil, h3⟩ := h
  refine ⟨a, cap, e, h1, h2, hnil, ?_⟩
  rcases h3 with h3 | ⟨g, off, e2, hg, hc⟩
  · exact Or.inl h3
  · exact Or.inr ⟨g, off, e2, by omega, hc⟩
theorem ReadsK.same {hi : Nat} {w w' : World} {v : Value} {xs : List α} (h : ReadsK enc k hi w v xs) (hs : Same w w') : ReadsK enc k hi w' v xs := h.below (hs.below hi) (Nat.le_refl _)
theorem ReadsK.nil {hi n cap : Nat} {w : World} {xs : List α} (h : ReadsK enc k hi w (.slice none n cap) xs) : xs = [] ∧ n = 0 ∧ cap = 0 := by
  obtain ⟨a, cap', e, h1, h2, hnil, h3⟩ := h
  cases e
  have hc := hnil rfl
  exact ⟨List.eq_nil_of_length_eq_zero (by omega), by omega, hc⟩
theorem ReadsK.news (hk : ∀ x, (enc x).length = k) {hi n cap : Nat} {w : World} {ad : Addr} {xs : List α} (h : ReadsK enc k hi w (.slice (some ad) n cap) xs) : ∀ j u, (xs.flatMap enc)[j]? = some u → w.cell? (ad.add j) = some u := by
  obtain ⟨a, cap', e, h1, h2, hnil, h3⟩ := h
  cases e
  intro t u hu
  have ht : t < xs.length * k := by
    rw [← flat_len hk]
    exact (List.getElem?_eq_some_iff.1 hu).1
  have hk0 : 0 < k := by
    rcases Nat.eq_zero_or_pos k with h | h
    · subst h; simp at ht
    · exact h
  have hj : t / k < xs.length := by rw [Nat.div_lt_iff_lt_mul hk0]; exact ht
  have hi' : t % k < k := Nat.mod_lt _ hk0
  have e1 : t / k * k + t % k = t := Nat.div_add_mod' t k
  obtain ⟨x, hx⟩ : ∃ x, xs[t / k]? = some x := ⟨_, List.getElem?_eq_getElem hj⟩
  rcases h3 with h3 | ⟨g, off, e2, hg, hc⟩
  · rw [h3] at hj; exact absurd hj (Nat.not_lt_zero _)
  · cases e2
    have e3 : (⟨g, off, none⟩ : Addr).add t = ⟨g, off + t, none⟩ := by unfold Addr.add; split <;> simp_all
    have h4 := flat_at hk hx hi'
    rw [e1, hu] at h4
    have h5 := hc (t / k) x hx (t % k) hi'
    rw [Nat.add_assoc, e1] at h5
    rw [e3, h5, ← h4]

theorem ReadsK.grw {hi : Nat} {w w' : World} {v : Value} {xs : List α} (h : ReadsK enc k hi w v xs) (hh : hi ≤ w.heap.size) (hg : Grw w w') : ReadsK enc k hi w' v xs := h.below hg.below hh

theorem OwnK.lt {e : TypeId} {lo hi : Nat} {w : World} {v : Value} {xs : List α} (h : OwnK enc k e lo hi w v xs) : ∀ g, v.ownBlock = some g → lo ≤ g ∧ g < w.heap.size := h.1.lt
theorem OwnK.reads (hk : ∀ x, (enc x).length = k) {e : TypeId} {lo hi : Nat} {w : World} {v : Value} {xs : List α} (h : OwnK enc k e lo hi w v xs) : ReadsK enc k hi w v xs := by
  obtain ⟨h1, h2⟩ := h
  have h3 := h1
  rcases h1.2 with ⟨rfl, h0⟩ | ⟨g, cap, cur, rfl, hg, hh, hc, hm, _⟩
  · exact ⟨none, 0, by rw [h0], by omega, by omega, (fun _ => rfl), Or.inl h0⟩
  · refine ⟨_, cap, rfl, hc, by unfold maxLen at hm; omega, (fun h => by cases h), Or.inr ⟨g, 0, rfl, h2 g rfl, fun j x hj i hi' => ?_⟩⟩
    have hjl := (List.getElem?_eq_some_iff.1 hj).1
    have := Nat.mul_le_mul_right k (show j + 1 ≤ xs.length by omega)
    rw [Nat.add_mul] at this
    rw [Nat.zero_add, h3.cellAt (j * k + i) (by omega), flat_at hk hj hi']
theorem OwnK.mono {e : TypeId} {lo hi lo' hi' : Nat} {w : World} {v : Value} {xs : List α} (h : OwnK enc k e lo hi w v xs) (hl : lo' ≤ lo) (hh : hi ≤ hi') : OwnK enc k e lo' hi' w v xs := by
  refine ⟨⟨h.1.1, ?_⟩, fun g hg => by have := h.2 g hg; omega⟩
  rcases h.1.2 with h1 | ⟨g, cap, cur, h1, h2, h3⟩
  · exact Or.inl h1
  · exact Or.inr ⟨g, cap, cur, h1, by omega, h3⟩
theorem OwnK.later {e : TypeId} {lo hi : Nat} {w w' : World} {v : Value} {xs : List α} (h : OwnK enc k e lo hi w v xs) (hb : Below w.heap.size w w') : OwnK enc k e lo hi w' v xs := by
  refine ⟨⟨h.1.1, ?_⟩, h.2⟩
  rcases h.1.2 with h1 | ⟨g, cap, cur, h1, h2, h3, h4⟩
  · exact Or.inl h1
  · have hg := (h.1.lt g (by rw [h1]; rfl)).2
    exact Or.inr ⟨g, cap, cur, h1, h2, by rw [hb.block g hg]; exact h3, h4⟩
theorem OwnK.apart {β : Type} {enc' : β → List Value} {k' : Nat} {e e' : TypeId} {lo hi lo' hi' : Nat} {w w' : World} {v u : Value} {xs : List α} {ys : List β} (h : OwnK enc k e lo hi w v xs) (hu : OwnK enc' k' e' lo' hi' w u ys) (hd : hi ≤ lo' ∨ hi' ≤ lo) (hg : w.grownBy w' u.ownBlock) : OwnK enc k e lo hi w' v xs := by
  refine ⟨h.1.kept hg ?_, h.2⟩
  cases hv : v.ownBlock with
  | none => exact Or.inl rfl
  | some g =>
    right
    intro e
    have h1 := h.2 g hv
    have h2 := (h.1.lt g hv).1
    have h3 := hu.2 g e.symm
    have h4 := (hu.1.lt g e.symm).1
    omega
theorem OwnK.back {e : TypeId} {lo hi : Nat} {w w0 w' : World} {v : Value} {xs : List α} (h : OwnK enc k e lo hi w v xs) (hb : Below lo w0 w) (hlo : lo ≤ w.heap.size) (hg : w.grownBy w' v.ownBlock) : Below lo w0 w' :=
  hb.grown hg hlo fun g hv => (h.1.lt g hv).1

/-- The first m elements' cells are the elements' own. -/
def UptoK (enc : α → List Value) (k : Nat) (xs : List α) (m : Nat) (cs : List Value) : Prop := ∀ j x, j < m → xs[j]? = some x → ∀ i, i < k → cs[j * k + i]? = (enc x)[i]?
theorem UptoK.zero (enc : α → List Value) (k : Nat) (xs : List α) (cs : List Value) : UptoK enc k xs 0 cs := fun _ _ h => absurd h (Nat.not_lt_zero _)
theorem UptoK.full (hk : ∀ x, (enc x).length = k) {xs : List α} {n : Nat} {cs : List Value} (h : UptoK enc k xs n cs) (hc : cs.length = n * k) (hx : xs.length = n) : cs = xs.flatMap enc := by
  apply List.ext_getElem?
  intro t
  by_cases ht : t < n * k
  · have hk0 : 0 < k := by
      rcases Nat.eq_zero_or_pos k with h | h
      · subst h; simp at ht
      · exact h
    have hj : t / k < n := by rw [Nat.div_lt_iff_lt_mul hk0]; exact ht
    have hi' : t % k < k := Nat.mod_lt _ hk0
    have e1 : t / k * k + t % k = t := Nat.div_add_mod' t k
    obtain ⟨x, hx'⟩ : ∃ x, xs[t / k]? = some x := ⟨_, List.getElem?_eq_getElem (by omega)⟩
    have h1 := h (t / k) x hj hx' (t % k) hi'
    have h2 := flat_at hk hx' hi'
    rw [e1] at h1 h2
    rw [h1, h2]
  · rw [List.getElem?_eq_none (by omega), List.getElem?_eq_none (by rw [flat_len hk, hx]; omega)]
/-- Elements of two cells: both stored. -/
theorem UptoK.set2 {enc : α → List Value} {xs : List α} {m : Nat} {cs : List Value} {x : α} {u v : Value} (h : UptoK enc 2 xs m cs) (hm : m * 2 + 1 < cs.length) (hx : xs[m]? = some x) (he : enc x = [u, v]) : UptoK enc 2 xs (m + 1) ((cs.set (m * 2) u).set (m * 2 + 1) v) := by
  intro j y hj hy i hi'
  by_cases e : j = m
  · subst e
    rw [hx] at hy
    cases hy
    rw [he]
    rcases (show i = 0 ∨ i = 1 by omega) with rfl | rfl
    · rw [List.getElem?_set_ne (by omega), Nat.add_zero, List.getElem?_set_self (by omega)]; rfl
    · rw [List.getElem?_set_self (by rw [List.length_set]; exact hm)]; rfl
  · rw [List.getElem?_set_ne (by omega), List.getElem?_set_ne (by omega)]
    exact h j y (by omega) hy i hi'

/-- A slice of the call's own, in a block from B on, while of what lay below B nothing was written. -/
structure MineK (enc : α → List Value) (k : Nat) (e : TypeId) (B : Nat) (w0 w : World) (v : Value) (xs : List α) : Prop where
  row : w.ownsRow B e k v xs.length (xs.flatMap enc)
  below : Below B w0 w
  size : B ≤ w.heap.size
theorem MineK.own {e : TypeId} {B : Nat} {w0 w : World} {v : Value} {xs : List α} (h : MineK enc k e B w0 w v xs) : OwnK enc k e B w.heap.size w v xs := ⟨h.row, fun g hg => (h.row.lt g hg).2⟩
theorem MineK.grow {e : TypeId} {B : Nat} {w0 w w' : World} {v v' : Value} {xs ys : List α} (h : MineK enc k e B w0 w v xs) (h1 : w'.ownsRow B e k v' (xs.length + ys.length) (xs.flatMap enc ++ ys.flatMap enc)) (hg : w.grownBy w' v.ownBlock) : MineK enc k e B w0 w' v' (xs ++ ys) :=
  ⟨by simpa using h1, h.below.grown hg h.size fun g hv => (h.row.lt g hv).1, Nat.le_trans h.size hg.size⟩
theorem MineK.alloc {e : TypeId} {B : Nat} {w0 w : World} {v : Value} {xs : List α} (h : MineK enc k e B w0 w v xs) (o : Obj) : MineK enc k e B w0 (w.alloc o) v xs := ⟨h.row.alloc o, h.below.alloc h.size o, by have := h.size; simp; omega⟩
theorem MineK.later {e : TypeId} {B : Nat} {w0 w w' : World} {v : Value} {xs : List α} (h : MineK enc k e B w0 w v xs) (hb : Below w.heap.size w w') : MineK enc k e B w0 w' v xs :=
  ⟨(h.own.later hb).1, h.below.trans (hb.mono h.size), Nat.le_trans h.size hb.size⟩
theorem MineK.empty (enc : α → List Value) (k : Nat) (e : TypeId) (w0 w : World) (B : Nat) (hb : Below B w0 w) (hB : B ≤ w.heap.size) : MineK enc k e B w0 (w.alloc (.cells #[] e)) (.slice (some ⟨w.heap.size, 0, none⟩) 0 0) [] :=
  ⟨World.ownsRow_made (base := B) (e := e) (size := k) w #[] 0 hB (by decide) (by simp), hb.alloc hB _, by simp; omega⟩
theorem MineK.nil (enc : α → List Value) (k : Nat) (e : TypeId) (w0 w : World) (B : Nat) (hb : Below B w0 w) (hB : B ≤ w.heap.size) : MineK enc k e B w0 w (.slice none 0 0) [] :=
  ⟨World.ownsRow_nil _ _ _ _, hb, hB⟩
/-- One element of two cells in a new block: what append takes. -/
theorem readsK_one2 (enc : α → List Value) (e : TypeId) (w : World) {x : α} {u v : Value} (he : enc x = [u, v]) : ReadsK enc 2 (w.heap.size + 1) (w.alloc (.cells #[u, v] e)) (.slice (some ⟨w.heap.size, 0, none⟩) 1 1) [x] := by
  refine ⟨_, 1, rfl, by simp, by omega, (fun h => by cases h), Or.inr ⟨_, 0, rfl, by omega, fun j y hy i hi' => ?_⟩⟩
  have hj : j = 0 := by have := (List.getElem?_eq_some_iff.1 hy).1; simp at this; omega
  subst hj
  simp only [List.getElem?_cons_zero, Option.some.injEq] at hy
  subst hy
  rw [he]
  rcases (show i = 0 ∨ i = 1 by omega) with rfl | rfl <;> simp

/-- append to a slice of the call's own, of whatever reads as elements of the same cells. -/
theorem wpList_appK {P : Program} {w : World} {ops : Array Oper} {rest : List Oper} {o : Oper} {a : Act} {Q : Exit → Act → World → Prop} (hgd : o.guard = none) (s x : Operand) (t : TypeId)
    (ho : o.op = .call { callee := .builtin .append, args := #[s, x], argTypes := #[t, t] })
    (hk : ∀ x, (enc x).length = k) (h1c : ∀ x, ∀ u ∈ enc x, u.oneCell' = true) (hk0 : 0 < k)
    (e : TypeId) (i : TypeInfo) (z : Value) (bytes : Nat) (ht : P.underlying t = some (.slice e)) (hi : P.info? e = some i) (hz : i.zero = some z) (hsize : i.size = k) (hby : i.bytes = bytes) (hzs : z.cells.size = k)
    (B : Nat) (w0 : World) (v : Value) (xs : List α) (hs : a.eval s = v) (hM : MineK enc k e B w0 w v xs) (vx : Value) (top : Nat) (ys : List α) (hx : a.eval x = vx) (hr : ReadsK enc k top w vx ys)
    (hby8 : bytes ≤ 1024) (hlen : xs.length + ys.length ≤ 137438953472)
    (h : ∀ v' w', MineK enc k e B w0 w' v' (xs ++ ys) → (v' = .slice none 0 0 ↔ v = .slice none 0 0 ∧ ys = []) → wpList P ops Q rest (a.put o.dst v') w') : wpList P ops Q (o :: rest) a w := by
  obtain ⟨ad, cap, rfl, h1, h2, h3, h4⟩ := id hr
  cases ad with
  | none =>
    obtain ⟨rfl, _, rfl⟩ := hr.nil
    refine wpList_append_own_none hgd s x t ho B e i k ht hi v xs.length _ hs hM.row hx ?_
    have h5 := h v w (by simpa using hM) (by simp)
    exact h5
  | some ad =>
    refine wpList_append_own _ hgd s x t ho B e i z k bytes ht hi hz hsize hby hzs hk0 v xs.length _ hs hM.row ad ys.length cap (ys.flatMap enc) hx (flat_len hk ys) (hr.news hk) ?_ ?_ ?_ hM.size ?_
    · intro u hu
      obtain ⟨y, _, hy⟩ := List.mem_flatMap.1 hu
      exact h1c y u hy
    · unfold maxLen; omega
    · have : (xs.length + ys.length) * bytes ≤ (xs.length + ys.length) * 1024 := Nat.mul_le_mul_left _ hby8
      omega
    · intro v' w' hown hgr hn
      refine h v' w' (hM.grow hown hgr) (hn.trans ?_)
      rw [List.length_eq_zero_iff]
end

end Go.Proofs.YtpkicliimhflgaaDoor
namespace Go.Proofs.YtpkicliimhflgaaDoor
open Go.ChangeShapes Go.WideShapes Go.ChangeAt Go.RowKit

def dig (u : Nat) : UInt8 := UInt8.ofNat (48 + u % 10)
def dd (u : Nat) : List UInt8 := if u = 0 then [] else Lib.decDigits u
theorem dd_zero : dd 0 = [] := rfl
theorem dd_pos {u : Nat} (h : u ≠ 0) : dd u = Lib.decDigits u := by unfold dd; rw [if_neg h]
theorem dd_step {u : Nat} (h : u ≠ 0) : dd u = dd (u / 10) ++ [dig u] := by
  rw [dd_pos h, Lib.decDigits]
  by_cases h1 : u < 10
  · rw [dif_pos h1, show u / 10 = 0 by omega, dd_zero]; unfold dig; rw [show u % 10 = u by omega]; rfl
  · rw [dif_neg h1, dd_pos (by omega)]; rfl
theorem dec_len (u : Nat) (h : u < 18446744073709551616) : (Lib.decDigits u).length ≤ 20 := by
  rw [Lib.decDigits_length]
  by_cases h0 : u = 0
  · subst h0; rw [Lib.nDigits_small (by decide)]; decide
  · have h1 := Lib.nDigits_unique
    have h2 : Lib.nDigits u ≤ 20 := by
      have hp := Lib.nDigits_pos u
      by_cases h3 : Lib.nDigits u ≤ 20
      · exact h3
      · exfalso
        have := (Lib.numDigits_eq u (by omega) h)
        obtain ⟨e, l⟩ := this
        split at e <;> omega
    exact h2
theorem conv1 (W : World) (c : Int) (h0 : 0 ≤ c) (h1 : c < 256) :
    (convert 82 9 (.slice (some ⟨W.heap.size, 0, none⟩) 1 1)).run Tryd.prog (W.alloc (.cells #[.int .u8 c] 5)) = .ok (.string ⟨#[UInt8.ofNat c.toNat]⟩) (W.alloc (.cells #[.int .u8 c] 5)) := by
  have := run_convert_bytes_back (P := Tryd.prog) (W.alloc (.cells #[.int .u8 c] 5)) 82 9 5 ⟨W.heap.size, 0, none⟩ 1 [UInt8.ofNat c.toNat] Tryd.underlying82 Tryd.underlying5 Tryd.underlying9 (by
    intro j hj
    simp at hj
    subst hj
    have h2 : ((UInt8.ofNat c.toNat).toNat : Int) = c := by
      simp; omega
    simp only [Addr.add, List.getElem_cons_zero, h2]
    simp [go_sem])
  simpa using this

theorem digit_eq (u : Nat) : UInt8.ofNat (48 + (u : Int) % 10).toNat = dig u := by
  rw [show (48 + (u : Int) % 10).toNat = 48 + u % 10 from by omega]; rfl
theorem cat1 (c : UInt8) (t : List UInt8) : (ByteArray.mk #[c] ++ ByteArray.mk t.toArray) = ByteArray.mk (c :: t).toArray := by
  apply ByteArray.ext; simp [ByteArray.data_append]
theorem len_t {m u : Nat} {t : List UInt8} (h : dd u ++ t = Lib.decDigits m) (hm : m < 18446744073709551616) : t.length ≤ 20 := by
  have h1 := dec_len m hm
  rw [← h, List.length_append] at h1
  omega

/-- The text of a mark: m and the numeral. -/
def mt (k : Nat) : ByteArray := ⟨(109 :: Lib.decDigits k).toArray⟩
theorem mt_zero : mt 0 = ⟨#[109, 48]⟩ := by unfold mt; rw [Lib.decDigits_one (by decide)]; rfl
theorem mt_end {k : Nat} {t : List UInt8} (h : t = Lib.decDigits k) : (ByteArray.mk #[109] ++ ByteArray.mk t.toArray) = mt k := by
  rw [cat1, h]; rfl

set_option maxRecDepth 100000 in
set_option maxHeartbeats 2000000 in
theorem mark_any (k : Nat) (hk : k ≤ 4611686018427387904) (w : World) :
    Calls Tryd.prog 36 #[.int .i64 k] w fun e w' => e = .returned (.string (mt k)) ∧ Grw w w' := by
  by_cases h0 : k = 0
  · subst h0
    have HZ := Lib.hid mt_zero
    go_enter Tryd.func36, Tryd.ntmps36
    go_wp2
    go_ret
    exact ⟨by rw [HZ.out]; rfl, Grw.refl _⟩
  · go_enter Tryd.func36, Tryd.ntmps36
    go_wp2
    go_loopw [0, 3] (fun q out wr => ∃ (u : Nat) (t : List UInt8), q = .int .i64 u ∧ out = .string ⟨t.toArray⟩ ∧ dd u ++ t = Lib.decDigits k ∧ u ≤ k ∧ Grw w wr)
      (fun q _ _ => (intOf q).toNat)
    case atStart => exact ⟨k, [], rfl, rfl, by rw [dd_pos h0]; simp, Nat.le_refl _, Grw.refl _⟩
    case round =>
      obtain ⟨u, t, rfl, rfl, ht, hu, hg⟩ := hrel
      have htl := len_t ht (by omega)
      have HG := Lib.hid hg
      clear hg
      by_cases hz : u = 0
      · subst hz
        rw [dd_zero, List.nil_append] at ht
        have HT := Lib.hid (mt_end ht); clear ht
        go_wp2
        go_ret
        exact ⟨by rw [← HT.out]; rfl, HG.out⟩
      · rw [dd_step hz, List.append_assoc] at ht
        have HT := Lib.hid ht; clear ht
        have hcv := conv1 wr (48 + (u : Int) % 10) (by omega) (by omega)
        rw [digit_eq] at hcv
        have hlt : (0 : Int) < (u : Int) := by omega
        go_wp2
        go_roundw
        case rel => exact ⟨u / 10, dig u :: t, by go_num, by rw [cat1], by rw [← HT.out]; simp, by omega, HG.out.alloc _⟩
        case measure => simp [intOf]; omega

end Go.Proofs.YtpkicliimhflgaaDoor
namespace Go.Proofs.YtpkicliimhflgaaDoor
open Go.ChangeShapes Go.WideShapes Go.ChangeAt Go.RowKit

/-- What lies in one cell: a plain value, or a slice (n elements of k cells each, of type e) with what lies in its cells. -/
inductive Rw where
  | leaf (v : Value)
  | sl (v : Value) (n k : Nat) (e : TypeId) (cs : List Rw)
/-- The same without the places. -/
inductive Dt where
  | leaf (v : Value)
  | sl (k : Nat) (cs : List Dt)
def Rw.cell : Rw → Value
  | .leaf v => v
  | .sl v _ _ _ _ => v
theorem Rw.cell_leaf (v : Value) : (Rw.leaf v).cell = v := rfl
theorem Rw.cell_sl (v : Value) (n k : Nat) (e : TypeId) (cs : List Rw) : (Rw.sl v n k e cs).cell = v := rfl

mutual
def Rw.blocks : Rw → List Nat
  | .leaf _ => []
  | .sl v _ _ _ cs => v.ownBlock.toList ++ blocksL cs
def blocksL : List Rw → List Nat
  | [] => []
  | c :: cs => c.blocks ++ blocksL cs
end
mutual
def Rw.data : Rw → Dt
  | .leaf v => .leaf v
  | .sl _ _ k _ cs => .sl k (dataL cs)
def dataL : List Rw → List Dt
  | [] => []
  | c :: cs => c.data :: dataL cs
end
mutual
/-- How many plain values. -/
def Rw.count : Rw → Nat
  | .leaf _ => 1
  | .sl _ _ _ _ cs => countL cs
def countL : List Rw → Nat
  | [] => 0
  | c :: cs => c.count + countL cs
end
def weightV (v : Value) : Nat := match v with
  | .string s => s.size
  | _ => 0
mutual
/-- The letters and elements. -/
def Rw.weight : Rw → Nat
  | .leaf v => weightV v
  | .sl _ n _ _ cs => n + weightL cs
def weightL : List Rw → Nat
  | [] => 0
  | c :: cs => c.weight + weightL cs
end
mutual
/-- Every string is within reach. -/
def Rw.Small : Rw → Prop
  | .leaf v => weightV v ≤ 9223372036854775807
  | .sl _ _ _ _ cs => SmallL cs
def SmallL : List Rw → Prop
  | [] => True
  | c :: cs => c.Small ∧ SmallL cs
end
def markV (v : Value) (q : Nat) : Value := match v with
  | .string _ => .string (mt q)
  | .int k _ => .int k q
  | .bool _ => .bool (decide (q % 3 = 0))
  | v => v
mutual
/-- Marked, from q on. -/
def Rw.mark : Rw → Nat → Rw
  | .leaf v, q => .leaf (markV v q)
  | .sl v n k e cs, q => .sl v n k e (markL cs q)
def markL : List Rw → Nat → List Rw
  | [], _ => []
  | c :: cs, q => c.mark q :: markL cs (q + c.count)
end
mutual
/-- The call's own: every block lies in [lo, hi). -/
def Rw.OwnR (lo hi : Nat) (w : World) : Rw → Prop
  | .leaf v => v.oneCell' = true
  | .sl v n k e cs => (w.ownsRow lo e k v n (cs.map Rw.cell) ∧ ∀ g, v.ownBlock = some g → g < hi) ∧ OwnRL lo hi w cs
def OwnRL (lo hi : Nat) (w : World) : List Rw → Prop
  | [] => True
  | c :: cs => c.OwnR lo hi w ∧ OwnRL lo hi w cs
end
mutual
/-- It reads so; every block lies below hi. -/
def Rw.ReadR (hi : Nat) (w : World) : Rw → Prop
  | .leaf v => v.oneCell' = true
  | .sl v n k _ cs => (∃ (a : Option Addr) (cap : Nat), v = .slice a n cap ∧ cs.length = n * k ∧ n ≤ cap ∧ cap ≤ 9223372036854775807 ∧ (a = none → cap = 0) ∧ (n = 0 ∨ ∃ g off, a = some ⟨g, off, none⟩ ∧ g < hi ∧ ∀ j c, (cs.map Rw.cell)[j]? = some c → w.cell? ⟨g, off + j, none⟩ = some c)) ∧ ReadRL hi w cs
def ReadRL (hi : Nat) (w : World) : List Rw → Prop
  | [] => True
  | c :: cs => c.ReadR hi w ∧ ReadRL hi w cs
end

mutual
theorem Rw.ind {P : Rw → Prop} (hl : ∀ v, P (.leaf v)) (hs : ∀ v n k e cs, (∀ c ∈ cs, P c) → P (.sl v n k e cs)) : ∀ x, P x
  | .leaf v => hl v
  | .sl v n k e cs => hs v n k e cs (Rw.indL hl hs cs)
theorem Rw.indL {P : Rw → Prop} (hl : ∀ v, P (.leaf v)) (hs : ∀ v n k e cs, (∀ c ∈ cs, P c) → P (.sl v n k e cs)) : ∀ (cs : List Rw), ∀ c ∈ cs, P c
  | [], _, h => by cases h
  | d :: ds, c, h => by
    rcases List.mem_cons.1 h with e | h2
    · rw [e]; exact Rw.ind hl hs d
    · exact Rw.indL hl hs ds c h2
end

theorem ownRL_iff {lo hi : Nat} {w : World} : ∀ {cs : List Rw}, OwnRL lo hi w cs ↔ ∀ c ∈ cs, c.OwnR lo hi w
  | [] => by simp [OwnRL]
  | c :: cs => by
    rw [OwnRL, ownRL_iff (cs := cs)]; simp
theorem readRL_iff {hi : Nat} {w : World} : ∀ {cs : List Rw}, ReadRL hi w cs ↔ ∀ c ∈ cs, c.ReadR hi w
  | [] => by simp [ReadRL]
  | c :: cs => by
    rw [ReadRL, readRL_iff (cs := cs)]; simp
theorem smallL_iff : ∀ {cs : List Rw}, SmallL cs ↔ ∀ c ∈ cs, c.Small
  | [] => by simp [SmallL]
  | c :: cs => by
    rw [SmallL, smallL_iff (cs := cs)]; simp
theorem blocksL_mem {b : Nat} : ∀ {cs : List Rw}, b ∈ blocksL cs ↔ ∃ c ∈ cs, b ∈ c.blocks
  | [] => by simp [blocksL]
  | c :: cs => by
    rw [blocksL, List.mem_append, blocksL_mem (cs := cs)]; simp
theorem dataL_at : ∀ (cs : List Rw) (j : Nat), (dataL cs)[j]? = (cs[j]?).map Rw.data
  | [], j => by simp [dataL]
  | c :: cs, 0 => by simp [dataL]
  | c :: cs, j + 1 => by
    rw [dataL, List.getElem?_cons_succ, List.getElem?_cons_succ]; exact dataL_at cs j
theorem dataL_len : ∀ (cs : List Rw), (dataL cs).length = cs.length
  | [] => rfl
  | c :: cs => by rw [dataL, List.length_cons, List.length_cons, dataL_len cs]
theorem data_same {cs ds : List Rw} (h : dataL cs = dataL ds) {m : Nat} {c d : Rw} (hc : cs[m]? = some c) (hd : ds[m]? = some d) : c.data = d.data := by
  have h1 := dataL_at cs m
  have h2 := dataL_at ds m
  rw [h, h2, hc, hd] at h1
  exact (Option.some.inj h1).symm
theorem leaf_same {u v : Value} (h : (Rw.leaf u).data = (Rw.leaf v).data) : u = v := by
  rw [Rw.data, Rw.data] at h
  exact Dt.leaf.inj h
theorem rows_all {cs : List Rw} {n K : Nat} (hK : 0 < K) (hlen : cs.length = n * K) (Q : Rw → Prop) (h : ∀ j, j < n → ∀ t, t < K → ∃ c, cs[j * K + t]? = some c ∧ Q c) : ∀ c ∈ cs, Q c := by
  intro c hc
  obtain ⟨i, hi⟩ := List.mem_iff_getElem?.1 hc
  have hil := (List.getElem?_eq_some_iff.1 hi).1
  have hj : i / K < n := by rw [Nat.div_lt_iff_lt_mul hK]; omega
  obtain ⟨d, hd, hq⟩ := h (i / K) hj (i % K) (Nat.mod_lt _ hK)
  rw [Nat.div_add_mod' i K, hi] at hd
  cases hd
  exact hq
theorem blocksL_nil : ∀ {cs : List Rw}, (∀ c ∈ cs, c.blocks = []) → blocksL cs = []
  | [], _ => by rw [blocksL]
  | c :: cs, h => by rw [blocksL, h c List.mem_cons_self, blocksL_nil fun d hd => h d (List.mem_cons_of_mem _ hd)]; rfl
theorem dataL_append : ∀ (cs ds : List Rw), dataL (cs ++ ds) = dataL cs ++ dataL ds
  | [], _ => by rw [dataL]; rfl
  | c :: cs, ds => by rw [List.cons_append, dataL, dataL, dataL_append cs ds, List.cons_append]
theorem countL_append : ∀ (cs ds : List Rw), countL (cs ++ ds) = countL cs + countL ds
  | [], ds => by rw [countL, List.nil_append, Nat.zero_add]
  | c :: cs, ds => by rw [List.cons_append, countL, countL, countL_append cs ds]; omega
theorem markL_len : ∀ (cs : List Rw) (q : Nat), (markL cs q).length = cs.length
  | [], _ => rfl
  | c :: cs, q => by rw [markL, List.length_cons, List.length_cons, markL_len cs]
theorem markL_append : ∀ (cs ds : List Rw) (q : Nat), markL (cs ++ ds) q = markL cs q ++ markL ds (q + countL cs)
  | [], ds, q => by rw [countL, markL, List.nil_append, List.nil_append, Nat.add_zero]
  | c :: cs, ds, q => by rw [List.cons_append, markL, markL, countL, markL_append cs ds, List.cons_append, Nat.add_assoc]
theorem mark_cell_sl (v : Value) (n k : Nat) (e : TypeId) (cs : List Rw) (q : Nat) : (Rw.sl v n k e cs).mark q = .sl v n k e (markL cs q) := by rw [Rw.mark]
theorem mark_leaf (v : Value) (q : Nat) : (Rw.leaf v).mark q = .leaf (markV v q) := by rw [Rw.mark]

mutual
theorem mark_blocks : ∀ (x : Rw) (q : Nat), (x.mark q).blocks = x.blocks
  | .leaf v, q => by rw [mark_leaf, Rw.blocks, Rw.blocks]
  | .sl v n k e cs, q => by rw [mark_cell_sl, Rw.blocks, Rw.blocks, markL_blocks cs q]
theorem markL_blocks : ∀ (cs : List Rw) (q : Nat), blocksL (markL cs q) = blocksL cs
  | [], q => by rw [markL]
  | c :: cs, q => by rw [markL, blocksL, blocksL, mark_blocks c q, markL_blocks cs]
end
mutual
theorem mark_count : ∀ (x : Rw) (q : Nat), (x.mark q).count = x.count
  | .leaf v, q => by rw [mark_leaf, Rw.count, Rw.count]
  | .sl v n k e cs, q => by rw [mark_cell_sl, Rw.count, Rw.count, markL_count cs q]
theorem markL_count : ∀ (cs : List Rw) (q : Nat), countL (markL cs q) = countL cs
  | [], q => by rw [markL]
  | c :: cs, q => by rw [markL, countL, countL, mark_count c q, markL_count cs]
end

/-- The first m cells marked. -/
def markTo (cs : List Rw) (q m : Nat) : List Rw := markL (cs.take m) q ++ cs.drop m
theorem markTo_zero (cs : List Rw) (q : Nat) : markTo cs q 0 = cs := by simp [markTo, markL]
theorem markTo_full (cs : List Rw) (q : Nat) {m : Nat} (h : cs.length ≤ m) : markTo cs q m = markL cs q := by
  unfold markTo; rw [List.take_of_length_le h, List.drop_of_length_le h, List.append_nil]
theorem markTo_len (cs : List Rw) (q m : Nat) : (markTo cs q m).length = cs.length := by
  unfold markTo; rw [List.length_append, markL_len, List.length_take, List.length_drop]; omega
theorem markTo_at {cs : List Rw} {m : Nat} {c : Rw} (h : cs[m]? = some c) (q : Nat) : (markTo cs q m)[m]? = some c := by
  have hm : m < cs.length := (List.getElem?_eq_some_iff.1 h).1
  unfold markTo
  rw [List.getElem?_append_right (by rw [markL_len, List.length_take]; omega), markL_len, List.length_take, Nat.min_eq_left (by omega), Nat.sub_self, List.getElem?_drop, Nat.add_zero, h]
theorem take_more {cs : List Rw} {m : Nat} {c : Rw} (h : cs[m]? = some c) : cs.take (m + 1) = cs.take m ++ [c] := by
  rw [List.take_add_one, h]; rfl
theorem countL_more {cs : List Rw} {m : Nat} {c : Rw} (h : cs[m]? = some c) : countL (cs.take (m + 1)) = countL (cs.take m) + c.count := by
  rw [take_more h, countL_append, countL, countL, Nat.add_zero]
theorem weightL_append : ∀ (cs ds : List Rw), weightL (cs ++ ds) = weightL cs + weightL ds
  | [], ds => by rw [weightL, List.nil_append, Nat.zero_add]
  | c :: cs, ds => by rw [List.cons_append, weightL, weightL, weightL_append cs ds]; omega
theorem weightL_more {cs : List Rw} {m : Nat} {c : Rw} (h : cs[m]? = some c) : weightL (cs.take (m + 1)) = weightL (cs.take m) + c.weight := by
  rw [take_more h, weightL_append, weightL, weightL, Nat.add_zero]
theorem countL_take_le (cs : List Rw) (m : Nat) : countL (cs.take m) ≤ countL cs := by
  have := countL_append (cs.take m) (cs.drop m)
  rw [List.take_append_drop] at this; omega
theorem markTo_next {cs : List Rw} {m : Nat} {c : Rw} (h : cs[m]? = some c) (q : Nat) : (markTo cs q m).set m (c.mark (q + countL (cs.take m))) = markTo cs q (m + 1) := by
  have hm : m < cs.length := (List.getElem?_eq_some_iff.1 h).1
  have hl : (markL (cs.take m) q).length = m := by rw [markL_len, List.length_take]; omega
  unfold markTo
  rw [List.set_append_right _ _ (by omega), hl, Nat.sub_self, take_more h, markL_append, markL, markL, List.drop_eq_getElem_cons hm, List.set_cons_zero, List.append_assoc]
  rfl
theorem markL_at {cs : List Rw} {m : Nat} {c : Rw} (h : cs[m]? = some c) (q : Nat) : (markL cs q)[m]? = some (c.mark (q + countL (cs.take m))) := by
  have hm : m < cs.length := (List.getElem?_eq_some_iff.1 h).1
  have e : cs = cs.take m ++ c :: cs.drop (m + 1) := by
    conv => lhs; rw [← List.take_append_drop m cs, List.drop_eq_getElem_cons hm]
    rw [show cs[m] = c from Option.some.inj ((List.getElem?_eq_getElem hm).symm.trans h)]
  conv => lhs; rw [e]
  rw [markL_append, List.getElem?_append_right (by rw [markL_len, List.length_take]; omega), markL_len, List.length_take, Nat.min_eq_left (by omega), Nat.sub_self, markL]
  rfl
theorem blocksL_append : ∀ (cs ds : List Rw), blocksL (cs ++ ds) = blocksL cs ++ blocksL ds
  | [], _ => by rw [blocksL]; rfl
  | c :: cs, ds => by rw [List.cons_append, blocksL, blocksL, blocksL_append cs ds, List.append_assoc]
theorem markTo_blocks (cs : List Rw) (q m : Nat) : blocksL (markTo cs q m) = blocksL cs := by
  unfold markTo
  rw [blocksL_append, markL_blocks, ← blocksL_append, List.take_append_drop]

/-- Only these blocks were written; new ones were made, numbers were drawn. -/
structure OnlyB (bs : List Nat) (w w' : World) : Prop where
  os : w'.os = w.os
  tape : w'.tape = w.tape
  output : w'.output = w.output
  size : w.heap.size ≤ w'.heap.size
  block : ∀ i, i < w.heap.size → i ∉ bs → w'.heap[i]? = w.heap[i]?
theorem OnlyB.refl (bs : List Nat) (w : World) : OnlyB bs w w := ⟨rfl, rfl, rfl, Nat.le_refl _, fun _ _ _ => rfl⟩
theorem OnlyB.trans {bs : List Nat} {a b c : World} (h : OnlyB bs a b) (k : OnlyB bs b c) : OnlyB bs a c :=
  ⟨k.os.trans h.os, k.tape.trans h.tape, k.output.trans h.output, Nat.le_trans h.size k.size, fun i hi hn => (k.block i (Nat.lt_of_lt_of_le hi h.size) hn).trans (h.block i hi hn)⟩
theorem OnlyB.mono {bs cs : List Nat} {a b : World} (h : OnlyB bs a b) (hs : ∀ i ∈ bs, i ∈ cs) : OnlyB cs a b :=
  ⟨h.os, h.tape, h.output, h.size, fun i hi hn => h.block i hi fun hb => hn (hs i hb)⟩
theorem OnlyB.of_below {w w' : World} (h : Below w.heap.size w w') (bs : List Nat) : OnlyB bs w w' := ⟨h.os, h.tape, h.output, h.size, fun i hi _ => h.block i hi⟩
theorem OnlyB.of_grown {w w' : World} {r : Option Nat} (h : w.grownBy w' r) : OnlyB r.toList w w' :=
  ⟨h.os, h.tape, h.output, h.size, fun i hi hn => h.block i hi fun e => hn (by rw [← e]; simp)⟩
theorem OnlyB.below {bs : List Nat} {w w' : World} (h : OnlyB bs w w') {B : Nat} (hb : ∀ i ∈ bs, B ≤ i) (hB : B ≤ w.heap.size) : Below B w w' :=
  ⟨h.os, h.tape, h.output, h.size, fun i hi => h.block i (by omega) fun hm => by have := hb i hm; omega⟩

theorem ownsRow_only {lo k n : Nat} {e : TypeId} {w w' : World} {v : Value} {cs : List Value} {bs : List Nat} (h : w.ownsRow lo e k v n cs) (hb : OnlyB bs w w') (hn : ∀ b, v.ownBlock = some b → b ∉ bs) : w'.ownsRow lo e k v n cs := by
  refine ⟨h.1, ?_⟩
  rcases h.2 with h1 | ⟨g, cap, cur, h1, h2, h3, h4⟩
  · exact Or.inl h1
  · have hg := (h.lt g (by rw [h1]; rfl)).2
    exact Or.inr ⟨g, cap, cur, h1, h2, by rw [hb.block g hg (hn g (by rw [h1]; rfl))]; exact h3, h4⟩
theorem Rw.OwnR.only {lo hi : Nat} {w w' : World} {bs : List Nat} (hb : OnlyB bs w w') : ∀ (x : Rw), x.OwnR lo hi w → (∀ b ∈ x.blocks, b ∉ bs) → x.OwnR lo hi w' := by
  refine Rw.ind (fun v h _ => ?_) (fun v n k e cs ih h hd => ?_)
  · rw [Rw.OwnR] at h ⊢; exact h
  · rw [Rw.OwnR] at h ⊢
    rw [Rw.blocks] at hd
    refine ⟨⟨ownsRow_only h.1.1 hb fun b hv => hd b (List.mem_append.2 (Or.inl (by rw [hv]; simp))), h.1.2⟩, ownRL_iff.2 fun c hc => ?_⟩
    exact ih c hc (ownRL_iff.1 h.2 c hc) fun b hbm => hd b (List.mem_append.2 (Or.inr (blocksL_mem.2 ⟨c, hc, hbm⟩)))
theorem Rw.OwnR.later {lo hi : Nat} {w w' : World} {x : Rw} (h : x.OwnR lo hi w) (hb : Below w.heap.size w w') : x.OwnR lo hi w' :=
  Rw.OwnR.only (OnlyB.of_below hb []) x h fun _ _ hm => by cases hm
theorem Rw.OwnR.mono {lo hi lo' hi' : Nat} {w : World} (hl : lo' ≤ lo) (hh : hi ≤ hi') : ∀ (x : Rw), x.OwnR lo hi w → x.OwnR lo' hi' w := by
  refine Rw.ind (fun v h => ?_) (fun v n k e cs ih h => ?_)
  · rw [Rw.OwnR] at h ⊢; exact h
  · rw [Rw.OwnR] at h ⊢
    refine ⟨⟨⟨h.1.1.1, ?_⟩, fun g hg => by have := h.1.2 g hg; omega⟩, ownRL_iff.2 fun c hc => ih c hc (ownRL_iff.1 h.2 c hc)⟩
    rcases h.1.1.2 with h1 | ⟨g, cap, cur, h1, h2, h3⟩
    · exact Or.inl h1
    · exact Or.inr ⟨g, cap, cur, h1, by omega, h3⟩
theorem Rw.OwnR.lt {lo hi : Nat} {w : World} : ∀ (x : Rw), x.OwnR lo hi w → ∀ b ∈ x.blocks, lo ≤ b ∧ b < hi ∧ b < w.heap.size := by
  refine Rw.ind (fun v _ b hb => ?_) (fun v n k e cs ih h b hb => ?_)
  · rw [Rw.blocks] at hb; cases hb
  · rw [Rw.OwnR] at h
    rw [Rw.blocks] at hb
    rcases List.mem_append.1 hb with h1 | h1
    · have hv : v.ownBlock = some b := by simpa using h1
      have := h.1.1.lt b hv
      exact ⟨this.1, h.1.2 b hv, this.2⟩
    · obtain ⟨c, hc, hbc⟩ := blocksL_mem.1 h1
      exact ih c hc (ownRL_iff.1 h.2 c hc) b hbc
theorem Rw.OwnR.reads {lo hi : Nat} {w : World} : ∀ (x : Rw), x.OwnR lo hi w → x.ReadR hi w := by
  refine Rw.ind (fun v h => ?_) (fun v n k e cs ih h => ?_)
  · rw [Rw.OwnR] at h; rw [Rw.ReadR]; exact h
  · rw [Rw.OwnR] at h
    rw [Rw.ReadR]
    refine ⟨?_, readRL_iff.2 fun c hc => ih c hc (ownRL_iff.1 h.2 c hc)⟩
    have hrow := h.1.1
    have hlen : cs.length = n * k := by have := hrow.1; rwa [List.length_map] at this
    rcases hrow.2 with ⟨rfl, h0⟩ | ⟨g, cap, cur, rfl, hg, hh, hc, hm, _⟩
    · exact ⟨none, 0, by rw [h0], hlen, by omega, by omega, (fun _ => rfl), Or.inl h0⟩
    · refine ⟨_, cap, rfl, hlen, hc, by unfold maxLen at hm; omega, (fun h => by cases h), Or.inr ⟨g, 0, rfl, h.1.2 g rfl, fun j c hj => ?_⟩⟩
      have hjl := (List.getElem?_eq_some_iff.1 hj).1
      rw [List.length_map] at hjl
      rw [Nat.zero_add, hrow.cellAt j (by omega), hj]
theorem Rw.ReadR.below {hi B : Nat} {w w' : World} (hb : Below B w w') (hB : hi ≤ B) : ∀ (x : Rw), x.ReadR hi w → x.ReadR hi w' := by
  refine Rw.ind (fun v h => ?_) (fun v n k e cs ih h => ?_)
  · rw [Rw.ReadR] at h ⊢; exact h
  · rw [Rw.ReadR] at h ⊢
    refine ⟨?_, readRL_iff.2 fun c hc => ih c hc (readRL_iff.1 h.2 c hc)⟩
    obtain ⟨a, cap, e1, h1, h2, h3, h4, h5⟩ := h.1
    refine ⟨a, cap, e1, h1, h2, h3, h4, ?_⟩
    rcases h5 with h5 | ⟨g, off, e2, hg, hc⟩
    · exact Or.inl h5
    · exact Or.inr ⟨g, off, e2, hg, fun j c hj => by rw [hb.cell (show g < B by omega)]; exact hc j c hj⟩
theorem Rw.ReadR.mono {hi hi' : Nat} {w : World} (hh : hi ≤ hi') : ∀ (x : Rw), x.ReadR hi w → x.ReadR hi' w := by
  refine Rw.ind (fun v h => ?_) (fun v n k e cs ih h => ?_)
  · rw [Rw.ReadR] at h ⊢; exact h
  · rw [Rw.ReadR] at h ⊢
    refine ⟨?_, readRL_iff.2 fun c hc => ih c hc (readRL_iff.1 h.2 c hc)⟩
    obtain ⟨a, cap, e1, h1, h2, h3, h4, h5⟩ := h.1
    refine ⟨a, cap, e1, h1, h2, h3, h4, ?_⟩
    rcases h5 with h5 | ⟨g, off, e2, hg, hc⟩
    · exact Or.inl h5
    · exact Or.inr ⟨g, off, e2, by omega, hc⟩
theorem Rw.ReadR.grw {hi : Nat} {w w' : World} {x : Rw} (h : x.ReadR hi w) (hh : hi ≤ w.heap.size) (hg : Grw w w') : x.ReadR hi w' := Rw.ReadR.below hg.below hh x h
theorem Rw.ReadR.up {w w' : World} {x : Rw} (h : x.ReadR w.heap.size w) (hg : Grw w w') : x.ReadR w'.heap.size w' := Rw.ReadR.mono hg.below.size x (h.grw (Nat.le_refl _) hg)
theorem Grw.rd {w w' : World} (hg : Grw w w') {x : Rw} (h : x.ReadR w.heap.size w) : x.ReadR w'.heap.size w' := h.up hg
theorem Rw.OwnR.cell {lo hi : Nat} {w : World} {x : Rw} (h : x.OwnR lo hi w) : x.cell.oneCell' = true := by
  cases x with
  | leaf v => rw [Rw.OwnR] at h; exact h
  | sl v n k e cs =>
    rw [Rw.OwnR] at h
    rcases h.1.1.2 with ⟨rfl, _⟩ | ⟨g, cap, cur, rfl, _⟩ <;> rfl
theorem Rw.ReadR.cell {hi : Nat} {w : World} {x : Rw} (h : x.ReadR hi w) : x.cell.oneCell' = true := by
  cases x with
  | leaf v => rw [Rw.ReadR] at h; exact h
  | sl v n k e cs =>
    rw [Rw.ReadR] at h
    obtain ⟨⟨a, cap, rfl, _⟩, _⟩ := h
    rfl

/-- A plain value is stored into a cell of an own slice. -/
theorem Rw.OwnR.store {lo hi g n k cap m : Nat} {e : TypeId} {w : World} {cs : List Rw} {u v : Value} (h : (Rw.sl (.slice (some ⟨g, 0, none⟩) n cap) n k e cs).OwnR lo hi w) (hn : g ∉ blocksL cs) (hm : cs[m]? = some (.leaf u)) (hv : v.oneCell' = true) :
    (Rw.sl (.slice (some ⟨g, 0, none⟩) n cap) n k e (cs.set m (.leaf v))).OwnR lo hi (w.setCell ⟨g, m, none⟩ v) ∧ OnlyB [g] w (w.setCell ⟨g, m, none⟩ v) ∧ blocksL (cs.set m (.leaf v)) = blocksL cs := by
  have hml : m < cs.length := (List.getElem?_eq_some_iff.1 hm).1
  rw [Rw.OwnR] at h
  have hst := h.1.1.stored m v
  have hon : OnlyB [g] w (w.setCell ⟨g, m, none⟩ v) := OnlyB.of_grown hst.2
  refine ⟨?_, hon, ?_⟩
  · rw [Rw.OwnR]
    refine ⟨⟨?_, h.1.2⟩, ownRL_iff.2 fun c hc => ?_⟩
    · rw [List.map_set]; exact hst.1
    · rcases List.mem_or_eq_of_mem_set hc with h1 | h1
      · refine Rw.OwnR.only hon c (ownRL_iff.1 h.2 c h1) fun b hb => ?_
        intro hbg
        rw [List.mem_singleton] at hbg
        subst hbg
        exact hn (blocksL_mem.2 ⟨c, h1, hb⟩)
      · rw [h1, Rw.OwnR]; exact hv
  · have e1 : cs = cs.take m ++ .leaf u :: cs.drop (m + 1) := by
      conv => lhs; rw [← List.take_append_drop m cs, List.drop_eq_getElem_cons hml]
      rw [show cs[m] = .leaf u from Option.some.inj ((List.getElem?_eq_getElem hml).symm.trans hm)]
    have e2 : cs.set m (.leaf v) = cs.take m ++ .leaf v :: cs.drop (m + 1) := List.set_eq_take_append_cons_drop.trans (if_pos hml)
    rw [e2, blocksL_append, blocksL, Rw.blocks]
    conv => rhs; rw [e1, blocksL_append, blocksL, Rw.blocks]
/-- An inner slice is written by a call. -/
theorem Rw.OwnR.inner {lo hi g n k cap m : Nat} {e : TypeId} {w w' : World} {cs : List Rw} {y y' : Rw} (h : (Rw.sl (.slice (some ⟨g, 0, none⟩) n cap) n k e cs).OwnR lo hi w) (hd : (Rw.sl (.slice (some ⟨g, 0, none⟩) n cap) n k e cs).blocks.Nodup) (hm : cs[m]? = some y)
    (hon : OnlyB y.blocks w w') (hy : y'.OwnR lo hi w') (hc : y'.cell = y.cell) (hb : y'.blocks = y.blocks) :
    (Rw.sl (.slice (some ⟨g, 0, none⟩) n cap) n k e (cs.set m y')).OwnR lo hi w' ∧ blocksL (cs.set m y') = blocksL cs := by
  have hml : m < cs.length := (List.getElem?_eq_some_iff.1 hm).1
  have e1 : cs = cs.take m ++ y :: cs.drop (m + 1) := by
    conv => lhs; rw [← List.take_append_drop m cs, List.drop_eq_getElem_cons hml]
    rw [show cs[m] = y from Option.some.inj ((List.getElem?_eq_getElem hml).symm.trans hm)]
  have e2 : cs.set m y' = cs.take m ++ y' :: cs.drop (m + 1) := List.set_eq_take_append_cons_drop.trans (if_pos hml)
  have hbl : blocksL (cs.set m y') = blocksL cs := by
    rw [e2, blocksL_append, blocksL, hb]
    conv => rhs; rw [e1, blocksL_append, blocksL]
  rw [Rw.blocks] at hd
  have hd1 : g ∉ blocksL cs := by
    have := (List.nodup_cons.1 (show (g :: blocksL cs).Nodup from hd)).1
    exact this
  have hd2 : (blocksL cs).Nodup := (List.nodup_cons.1 (show (g :: blocksL cs).Nodup from hd)).2
  rw [e1, blocksL_append, blocksL] at hd2
  have hA := List.nodup_append.1 hd2
  have hB := List.nodup_append.1 hA.2.1
  rw [Rw.OwnR] at h
  refine ⟨?_, hbl⟩
  rw [Rw.OwnR]
  refine ⟨⟨?_, h.1.2⟩, ownRL_iff.2 fun c hcm => ?_⟩
  · have e3 : (cs.set m y').map Rw.cell = cs.map Rw.cell := by
      rw [e2, List.map_append, List.map_cons, hc]
      conv => rhs; rw [e1, List.map_append, List.map_cons]
    rw [e3]
    refine ownsRow_only h.1.1 hon fun b hv => ?_
    have hbg : b = g := by
      have : some g = some b := hv
      exact (Option.some.inj this).symm
    subst hbg
    exact fun hyb => hd1 (blocksL_mem.2 ⟨y, List.mem_of_getElem? hm, hyb⟩)
  · rw [e2] at hcm
    rcases List.mem_append.1 hcm with h1 | h1
    · refine Rw.OwnR.only hon c (ownRL_iff.1 h.2 c (List.mem_of_mem_take h1)) fun b hbc hby => ?_
      exact hA.2.2 b (blocksL_mem.2 ⟨c, h1, hbc⟩) b (List.mem_append.2 (Or.inl hby)) rfl
    · rcases List.mem_cons.1 h1 with h2 | h2
      · rw [h2]; exact hy
      · refine Rw.OwnR.only hon c (ownRL_iff.1 h.2 c (List.mem_of_mem_drop h2)) fun b hbc hby => ?_
        exact hB.2.2 b hby b (blocksL_mem.2 ⟨c, h2, hbc⟩) rfl
theorem mark_cell {x : Rw} (h : ∃ v n k e cs, x = .sl v n k e cs) (q : Nat) : (x.mark q).cell = x.cell := by
  obtain ⟨v, n, k, e, cs, rfl⟩ := h
  rw [mark_cell_sl, Rw.cell_sl, Rw.cell_sl]
theorem inner_nodup {v : Value} {n k : Nat} {e : TypeId} {cs : List Rw} {m : Nat} {y : Rw} (h : (Rw.sl v n k e cs).blocks.Nodup) (hm : cs[m]? = some y) : y.blocks.Nodup := by
  have hml : m < cs.length := (List.getElem?_eq_some_iff.1 hm).1
  have e1 : cs = cs.take m ++ y :: cs.drop (m + 1) := by
    conv => lhs; rw [← List.take_append_drop m cs, List.drop_eq_getElem_cons hml]
    rw [show cs[m] = y from Option.some.inj ((List.getElem?_eq_getElem hml).symm.trans hm)]
  rw [Rw.blocks, e1, blocksL_append, blocksL] at h
  exact (List.nodup_append.1 (List.nodup_append.1 (List.nodup_append.1 h).2.1).2.1).1
theorem inner_mem {v : Value} {n k : Nat} {e : TypeId} {cs : List Rw} {m : Nat} {y : Rw} (hm : cs[m]? = some y) : ∀ b ∈ y.blocks, b ∈ (Rw.sl v n k e cs).blocks := by
  intro b hb
  rw [Rw.blocks]
  exact List.mem_append.2 (Or.inr (blocksL_mem.2 ⟨y, List.mem_of_getElem? hm, hb⟩))
theorem blocks_same {v : Value} {n k : Nat} {e : TypeId} {cs ds : List Rw} (h : blocksL ds = blocksL cs) : (Rw.sl v n k e ds).blocks = (Rw.sl v n k e cs).blocks := by
  rw [Rw.blocks, Rw.blocks, h]

end Go.Proofs.YtpkicliimhflgaaDoor
namespace Go.Proofs.YtpkicliimhflgaaDoor
theorem bytesEq {a b : ByteArray} (h : a.data.toList = b.data.toList) : a = b := by
  cases a with | mk x => cases b with | mk y => rw [show x = y from Array.toList_inj.1 h]
theorem beqL_yes {a b : ByteArray} (h : a = b) : (a.toList == b.toList) = true := by rw [h]; exact beq_self_eq_true _
theorem beqL_no {a b : ByteArray} (h : a ≠ b) : (a.toList == b.toList) = false := by
  rw [beq_eq_false_iff_ne, ByteArray.toList_eq, ByteArray.toList_eq]
  exact fun e => h (bytesEq e)
theorem append_list (a b : ByteArray) : (a ++ b).data.toList = a.data.toList ++ b.data.toList := by rw [ByteArray.data_append, Array.toList_append]
theorem size_list (a : ByteArray) : a.data.toList.length = a.size := Array.length_toList
/-- A string of these bytes. -/
def ofL (l : List UInt8) : ByteArray := ⟨l.toArray⟩
theorem ofL_list (l : List UInt8) : (ofL l).data.toList = l := rfl
theorem ofL_of (s : ByteArray) : ofL s.data.toList = s := bytesEq rfl
theorem ofL_size (l : List UInt8) : (ofL l).size = l.length := by show l.toArray.size = _; simp
theorem ofL_append (l m : List UInt8) : ofL (l ++ m) = ofL l ++ ofL m := bytesEq (by rw [append_list]; rfl)
theorem ofL_inj {l m : List UInt8} (h : ofL l = ofL m) : l = m := by rw [← ofL_list l, h, ofL_list]
theorem extract_eq (s : ByteArray) (a b : Nat) : s.extract a b = ofL ((s.data.toList.drop a).take (b - a)) := bytesEq (by rw [Lib.extract_data]; rfl)
theorem extract_pre (s : ByteArray) (b : Nat) : s.extract 0 b = ofL (s.data.toList.take b) := by rw [extract_eq, List.drop_zero, Nat.sub_zero]
theorem extract_suf (s : ByteArray) (a : Nat) : s.extract a s.size = ofL (s.data.toList.drop a) := by
  rw [extract_eq, List.take_of_length_le (by rw [List.length_drop, size_list]; exact Nat.le_refl _)]

/-- The first place of a byte, or the length. -/
def idxB (c : UInt8) : List UInt8 → Nat
  | [] => 0
  | b :: l => if b = c then 0 else idxB c l + 1
theorem idxB_le (c : UInt8) : ∀ l, idxB c l ≤ l.length
  | [] => Nat.le_refl _
  | b :: l => by
    unfold idxB
    have := idxB_le c l
    split <;> simp <;> omega
theorem idxB_at {c : UInt8} : ∀ {l : List UInt8}, idxB c l < l.length → l[idxB c l]? = some c
  | [], h => absurd h (Nat.not_lt_zero _)
  | b :: l, h => by
    by_cases e : b = c
    · subst e; unfold idxB; rw [if_pos rfl]; rfl
    · have h2 : idxB c (b :: l) = idxB c l + 1 := by conv => lhs; unfold idxB; rw [if_neg e]
      rw [h2] at h ⊢
      rw [List.getElem?_cons_succ]
      exact idxB_at (by simpa using h)
theorem idxB_before {c : UInt8} : ∀ {l : List UInt8} {j : Nat}, j < idxB c l → l[j]? ≠ some c
  | [], _, h => absurd h (Nat.not_lt_zero _)
  | b :: l, j, h => by
    by_cases e : b = c
    · subst e; unfold idxB at h; rw [if_pos rfl] at h; exact absurd h (Nat.not_lt_zero _)
    · have h2 : idxB c (b :: l) = idxB c l + 1 := by conv => lhs; unfold idxB; rw [if_neg e]
      rw [h2] at h
      cases j with
      | zero => simp [e]
      | succ j => rw [List.getElem?_cons_succ]; exact idxB_before (by omega)
theorem idxB_first {c : UInt8} {l : List UInt8} {i : Nat} (h1 : l[i]? = some c) (h2 : ∀ j, j < i → l[j]? ≠ some c) : idxB c l = i := by
  have hi : i < l.length := (List.getElem?_eq_some_iff.1 h1).1
  rcases Nat.lt_trichotomy (idxB c l) i with h | h | h
  · exact absurd (idxB_at (by omega)) (h2 _ h)
  · exact h
  · exact absurd h1 (idxB_before h)
theorem idxB_none {c : UInt8} {l : List UInt8} (h : ∀ j : Nat, l[j]? ≠ some c) : idxB c l = l.length := by
  have := idxB_le c l
  rcases Nat.lt_or_ge (idxB c l) l.length with h1 | h1
  · exact absurd (idxB_at h1) (h _)
  · omega
theorem idxB_lt_append {c : UInt8} {l : List UInt8} (m : List UInt8) (h : idxB c l < l.length) : idxB c (l ++ m) = idxB c l := by
  refine idxB_first ?_ fun j hj => ?_
  · rw [List.getElem?_append_left h]; exact idxB_at h
  · rw [List.getElem?_append_left (by omega)]; exact idxB_before hj
theorem idxB_free {c : UInt8} {l : List UInt8} (h : ∀ b ∈ l, b ≠ c) : idxB c l = l.length :=
  idxB_none fun _ hj => h c (List.mem_of_getElem? hj) rfl
theorem idxB_free_append {c : UInt8} {l : List UInt8} (m : List UInt8) (h : ∀ b ∈ l, b ≠ c) : idxB c (l ++ c :: m) = l.length := by
  refine idxB_first ?_ fun j hj => ?_
  · rw [List.getElem?_append_right (Nat.le_refl _), Nat.sub_self]; rfl
  · rw [List.getElem?_append_left hj]; exact fun hc => h c (List.mem_of_getElem? hc) rfl

/-- The pieces between the bytes c. -/
def splitB (c : UInt8) : List UInt8 → List (List UInt8)
  | [] => [[]]
  | b :: l => if b = c then [] :: splitB c l else match splitB c l with
    | [] => [[b]]
    | p :: ps => (b :: p) :: ps
def joinB (c : UInt8) : List (List UInt8) → List UInt8
  | [] => []
  | [p] => p
  | p :: q :: ps => p ++ c :: joinB c (q :: ps)
theorem splitB_ne (c : UInt8) : ∀ l, splitB c l ≠ []
  | [] => by unfold splitB; exact List.cons_ne_nil _ _
  | b :: l => by
    unfold splitB
    split
    · exact List.cons_ne_nil _ _
    · split <;> exact List.cons_ne_nil _ _
theorem joinB_cons (c : UInt8) (p : List UInt8) {ps : List (List UInt8)} (h : ps ≠ []) : joinB c (p :: ps) = p ++ c :: joinB c ps := by
  cases ps with
  | nil => exact absurd rfl h
  | cons q ps => rfl
theorem joinB_split (c : UInt8) : ∀ l, joinB c (splitB c l) = l
  | [] => rfl
  | b :: l => by
    have ih := joinB_split c l
    by_cases e : b = c
    · subst e
      have h2 : splitB b (b :: l) = [] :: splitB b l := by conv => lhs; unfold splitB; rw [if_pos rfl]
      rw [h2, joinB_cons _ _ (splitB_ne _ _), ih]; rfl
    · cases hs : splitB c l with
      | nil => exact absurd hs (splitB_ne _ _)
      | cons p ps =>
        have h2 : splitB c (b :: l) = (b :: p) :: ps := by conv => lhs; unfold splitB; rw [if_neg e, hs]
        rw [h2]
        rw [hs] at ih
        cases ps with
        | nil => show b :: p = b :: l; rw [← ih]; rfl
        | cons q ps => show b :: (p ++ c :: joinB c (q :: ps)) = b :: l; rw [← ih]; rfl
theorem splitB_free {c : UInt8} : ∀ {l : List UInt8}, (∀ b ∈ l, b ≠ c) → splitB c l = [l]
  | [], _ => rfl
  | b :: l, h => by
    have e : b ≠ c := h b List.mem_cons_self
    have ih := splitB_free (l := l) fun x hx => h x (List.mem_cons_of_mem _ hx)
    unfold splitB; rw [if_neg e, ih]
theorem splitB_at {c : UInt8} : ∀ {l : List UInt8} (m : List UInt8), (∀ b ∈ l, b ≠ c) → splitB c (l ++ c :: m) = l :: splitB c m
  | [], m, _ => by show splitB c (c :: m) = _; conv => lhs; unfold splitB; rw [if_pos rfl]
  | b :: l, m, h => by
    have e : b ≠ c := h b List.mem_cons_self
    have ih := splitB_at (l := l) m fun x hx => h x (List.mem_cons_of_mem _ hx)
    show splitB c (b :: (l ++ c :: m)) = _
    conv => lhs; unfold splitB; rw [if_neg e, ih]
/-- No piece holds the byte. -/
theorem splitB_mem {c : UInt8} : ∀ {l : List UInt8} {p : List UInt8}, p ∈ splitB c l → ∀ b ∈ p, b ≠ c
  | [], p, hp => by
    unfold splitB at hp
    rw [List.mem_singleton] at hp; subst hp
    intro b hb; cases hb
  | b :: l, p, hp => by
    by_cases e : b = c
    · unfold splitB at hp; rw [if_pos e] at hp
      rcases List.mem_cons.1 hp with h | h
      · subst h; intro x hx; cases hx
      · exact splitB_mem h
    · cases hs : splitB c l with
      | nil => exact absurd hs (splitB_ne _ _)
      | cons q qs =>
        unfold splitB at hp; rw [if_neg e, hs] at hp
        rcases List.mem_cons.1 hp with h | h
        · subst h
          intro x hx
          rcases List.mem_cons.1 hx with h2 | h2
          · rw [h2]; exact e
          · exact splitB_mem (l := l) (by rw [hs]; exact List.mem_cons_self) x h2
        · exact splitB_mem (l := l) (by rw [hs]; exact List.mem_cons_of_mem _ h)
theorem splitB_length (c : UInt8) : ∀ l, (splitB c l).length ≤ l.length + 1
  | [] => Nat.le_refl _
  | b :: l => by
    have ih := splitB_length c l
    unfold splitB
    split
    · simp; omega
    · cases hs : splitB c l with
      | nil => simp
      | cons q qs => rw [hs] at ih; simp at ih ⊢; omega
theorem splitB_piece {c : UInt8} : ∀ {l : List UInt8} {p : List UInt8}, p ∈ splitB c l → p.length ≤ l.length
  | [], p, hp => by
    unfold splitB at hp
    rw [List.mem_singleton] at hp; subst hp; exact Nat.le_refl _
  | b :: l, p, hp => by
    by_cases e : b = c
    · unfold splitB at hp; rw [if_pos e] at hp
      rcases List.mem_cons.1 hp with h | h
      · subst h; exact Nat.zero_le _
      · have := splitB_piece h; simp; omega
    · cases hs : splitB c l with
      | nil => exact absurd hs (splitB_ne _ _)
      | cons q qs =>
        unfold splitB at hp; rw [if_neg e, hs] at hp
        rcases List.mem_cons.1 hp with h | h
        · subst h
          have := splitB_piece (l := l) (p := q) (by rw [hs]; exact List.mem_cons_self)
          simp; omega
        · have := splitB_piece (l := l) (p := p) (by rw [hs]; exact List.mem_cons_of_mem _ h)
          simp; omega
/-- One round of a loop that divides a text: from 'from' on, up to the byte at i. -/
theorem split_round {c : UInt8} {l : List UInt8} {a i : Nat} (hai : a ≤ i) (hi : l[i]? = some c) (hf : ∀ j, a ≤ j → j < i → l[j]? ≠ some c) :
    splitB c (l.drop a) = (l.drop a).take (i - a) :: splitB c (l.drop (i + 1)) := by
  have hil : i < l.length := (List.getElem?_eq_some_iff.1 hi).1
  have e : l.drop a = (l.drop a).take (i - a) ++ c :: l.drop (i + 1) := by
    conv => lhs; rw [← List.take_append_drop (i - a) (l.drop a)]
    rw [List.drop_drop, show a + (i - a) = i by omega, List.drop_eq_getElem_cons hil]
    congr 2
    exact (Option.some.inj ((List.getElem?_eq_getElem hil).symm.trans hi))
  conv => lhs; rw [e]
  refine splitB_at _ fun b hb hbc => ?_
  obtain ⟨j, hj⟩ := List.mem_iff_getElem?.1 hb
  have hjl : j < i - a := by
    have := (List.getElem?_eq_some_iff.1 hj).1
    rw [List.length_take] at this; omega
  rw [List.getElem?_take, if_pos hjl, List.getElem?_drop, hbc] at hj
  exact hf (a + j) (by omega) (by omega) hj
theorem split_last {c : UInt8} {l : List UInt8} {a : Nat} (hf : ∀ j, a ≤ j → l[j]? ≠ some c) : splitB c (l.drop a) = [l.drop a] := by
  refine splitB_free fun b hb hbc => ?_
  obtain ⟨j, hj⟩ := List.mem_iff_getElem?.1 hb
  rw [List.getElem?_drop, hbc] at hj
  exact hf (a + j) (by omega) hj

end Go.Proofs.YtpkicliimhflgaaDoor
namespace Go.Proofs.YtpkicliimhflgaaDoor
open Go.ChangeShapes Go.WideShapes Go.ChangeAt Go.RowKit

theorem mark_anyI (k : Nat) (q : Int) (hq : q = k) (hk : k ≤ 4611686018427387904) (w : World) :
    Calls Tryd.prog 36 #[.int .i64 q] w fun e w' => e = .returned (.string (mt k)) ∧ Grw w w' := by
  subst hq; exact mark_any k hk w

/-- What a slice of this type holds. -/
def IsAttrS (x : Rw) : Prop := ∃ v n e cs, x = .sl v n 2 e cs ∧ ∀ j, j < n → ∃ (a0 : ByteArray) (a1 : ByteArray), cs[j * 2]? = some (.leaf (.string a0)) ∧ cs[j * 2 + 1]? = some (.leaf (.string a1))
theorem is_sl_AttrS {x : Rw} (h : IsAttrS x) : ∃ v n k e cs, x = .sl v n k e cs := by
  obtain ⟨v, n, e, cs, rfl, _⟩ := h
  exact ⟨v, n, _, e, cs, rfl⟩

def SzAttr (a0 : ByteArray) (a1 : ByteArray) (left : Int) (w : World) (e : Ending) (w' : World) : Prop :=
  ∃ r : Int, e = .returned (.int .i64 r) ∧ -1 ≤ r ∧ (0 ≤ r → r + (a0.size : Nat) + (a1.size : Nat) = left) ∧ Grw w w'

end Go.Proofs.YtpkicliimhflgaaDoor
namespace Go.Proofs.YtpkicliimhflgaaDoor
open Go.ChangeShapes Go.WideShapes Go.ChangeAt Go.RowKit

set_option maxRecDepth 100000 in
set_option maxHeartbeats 2000000 in
theorem toR_any (st kd : Int) (bo : ByteArray) (ag : Int) (sh : Bool) (po : ByteArray) (w : World) :
    Calls Tryd.prog 17 #[.agg #[.int .i64 st, .int .i64 kd, .string bo, .int .i64 ag, .bool sh, .string po]] w fun e w' => e = .returned (.agg #[.int .i64 st, .int .i64 kd, .string bo, .int .i64 ag, .bool sh, .string po]) ∧ Grw w w' := by
  go_enter Tryd.func17, Tryd.ntmps17
  go_wp2_with fail
  refine bodyPost_ret (v := .agg #[.int .i64 st, .int .i64 kd, .string bo, .int .i64 ag, .bool sh, .string po]) (by simp [results, Tryd.results17, go_sem]) rfl ⟨rfl, ?_⟩
  repeat' (first | (with_reducible exact Grw.refl _) | (with_reducible refine Grw.alloc ?_ _))

def SzR (h p : ByteArray) (left : Int) (w : World) (e : Ending) (w' : World) : Prop :=
  ∃ r : Int, e = .returned (.int .i64 r) ∧ -1 ≤ r ∧ (0 ≤ r → r + h.size + p.size = left) ∧ Below w.heap.size w w'
set_option maxRecDepth 100000 in
set_option maxHeartbeats 2000000 in
theorem szR_any (st kd : Int) (bo : ByteArray) (ag : Int) (sh : Bool) (po : ByteArray) (left : Int) (h1 : bo.size ≤ 9223372036854775807) (h2 : po.size ≤ 9223372036854775807) (l1 : -1 ≤ left) (l2 : left ≤ 1099511627776) (w : World) :
    Calls Tryd.prog 13 #[.agg #[.int .i64 st, .int .i64 kd, .string bo, .int .i64 ag, .bool sh, .string po], .int .i64 left] w (SzR bo po left w) := by
  have HB := Lib.hid ((Below.refl w.heap.size w).alloc (Nat.le_refl _) (.cells #[.int .i64 st, .int .i64 kd, .string bo, .int .i64 ag, .bool sh, .string po] 37))
  by_cases c1 : left - bo.size < 0
  · go_enter Tryd.func13, Tryd.ntmps13
    go_wp2_with fail
    go_ret
    exact ⟨-1, rfl, by omega, by omega, HB.out⟩
  · by_cases c2 : left - bo.size - po.size < 0
    · go_enter Tryd.func13, Tryd.ntmps13
      go_wp2_with fail
      go_ret
      exact ⟨-1, rfl, by omega, by omega, HB.out⟩
    · go_enter Tryd.func13, Tryd.ntmps13
      go_wp2_with fail
      go_ret
      exact ⟨left - bo.size - po.size, rfl, by omega, by omega, HB.out⟩

set_option maxRecDepth 100000 in
set_option maxHeartbeats 2000000 in
theorem eqR_self (st kd : Int) (bo : ByteArray) (ag : Int) (sh : Bool) (po : ByteArray) (w : World) :
    Calls Tryd.prog 56 #[.agg #[.int .i64 st, .int .i64 kd, .string bo, .int .i64 ag, .bool sh, .string po], .agg #[.int .i64 st, .int .i64 kd, .string bo, .int .i64 ag, .bool sh, .string po]] w fun e w' => e = .returned (.bool true) ∧ Grw w w' := by
  have HG := Lib.hid (((Grw.refl w).alloc (.cells #[.int .i64 st, .int .i64 kd, .string bo, .int .i64 ag, .bool sh, .string po] 47)).alloc (.cells #[.int .i64 st, .int .i64 kd, .string bo, .int .i64 ag, .bool sh, .string po] 47))
  have e1 : (st != st) = false := bne_self_eq_false _; have e2 : (kd != kd) = false := bne_self_eq_false _; have e3 : (bo.toList != bo.toList) = false := bne_self_eq_false _; have e4 : (ag != ag) = false := bne_self_eq_false _; have e5 : (sh != sh) = false := bne_self_eq_false _; have e6 : (po.toList != po.toList) = false := bne_self_eq_false _
  go_enter Tryd.func56, Tryd.ntmps56
  go_wp2_with fail
  go_ret
  exact ⟨rfl, HG.out⟩

end Go.Proofs.YtpkicliimhflgaaDoor
