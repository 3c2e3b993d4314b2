/- Helper facts on slices whose elements are laid in k cells each (structs of plain fields): what it means that a slice value reads as a list of them, that a call owns it, and how both are carried over the changes of memory. No claim of its own. -/
import Derived.Test.YtpkicliimhflgaaOwn
import Derived.Sort.Grow
namespace Go.Proofs.Ytpkicliimhflgaa
open Go.ChangeShapes Go.WideShapes Go.ChangeAt Go.RowKit

theorem grow_below (w : World) (q : Nat) (os : Array Obj) : Below w.heap.size w (Sort.grow (w.drewN q) os) :=
  ⟨rfl, rfl, rfl, by show w.heap.size ≤ (w.heap ++ os).size; simp, fun k hk => by show (w.heap ++ os)[k]? = _; rw [Array.getElem?_append_left hk]⟩

/-- Numbers were drawn, blocks were laid; nothing else. -/
def Grw (w w' : World) : Prop := ∃ q os, w' = Sort.grow (w.drewN q) os
theorem Grw.refl (w : World) : Grw w w := ⟨0, #[], by rw [Sort.grow_empty]; rfl⟩
theorem Grw.trans {a b c : World} (h : Grw a b) (k : Grw b c) : Grw a c := by
  obtain ⟨q, os, rfl⟩ := h
  obtain ⟨q', os', rfl⟩ := k
  exact ⟨q + q', os ++ os', by show Sort.grow (Sort.grow ((a.drewN q).drewN q') os) os' = _; rw [Sort.grow_grow, World.drewN_drewN]⟩
theorem Grw.alloc {a b : World} (h : Grw a b) (o : Obj) : Grw a (b.alloc o) := h.trans ⟨0, #[o], by rw [Sort.alloc_eq_grow]; rfl⟩
theorem Grw.drewN {a b : World} (h : Grw a b) (n : Nat) : Grw a (b.drewN n) := h.trans ⟨n, #[], by rw [Sort.grow_empty]⟩
theorem Grw.drew {a b : World} (h : Grw a b) : Grw a b.drew := h.drewN 1
theorem Grw.below {a b : World} (h : Grw a b) : Below a.heap.size a b := by obtain ⟨q, os, rfl⟩ := h; exact grow_below a q os
theorem below_undrew {B : Nat} {a b : World} (h : Below B a.drew b) : Below B a b := ⟨h.os, h.tape, h.output, h.size, h.block⟩

section
variable {α : Type} {enc : α → List Value} {k : Nat}

theorem flat_len (hk : ∀ x, (enc x).length = k) (xs : List α) : (xs.flatMap enc).length = xs.length * k := by
  induction xs with
  | nil => simp
  | cons x xs ih => rw [List.flatMap_cons, List.length_append, ih, hk, List.length_cons, Nat.add_mul]; omega
theorem flat_at (hk : ∀ x, (enc x).length = k) {xs : List α} {j : Nat} {x : α} (h : xs[j]? = some x) {i : Nat} (hi : i < k) : (xs.flatMap enc)[j * k + i]? = (enc x)[i]? := by
  induction xs generalizing j with
  | nil => simp at h
  | cons y xs ih =>
    rw [List.flatMap_cons]
    cases j with
    | zero =>
      simp only [List.getElem?_cons_zero, Option.some.injEq] at h
      subst h
      rw [Nat.zero_mul, Nat.zero_add, List.getElem?_append_left (by rw [hk]; exact hi)]
    | succ j =>
      rw [List.getElem?_append_right (by rw [hk, Nat.add_mul]; omega), hk, show (j + 1) * k + i - k = j * k + i by rw [Nat.add_mul]; omega]
      exact ih (by simpa using h)

/-- The slice value reads as these elements; its block is below hi. -/
def ReadsK (enc : α → List Value) (k hi : Nat) (w : World) (v : Value) (xs : List α) : Prop :=
  ∃ (a : Option Addr) (cap : Nat), v = .slice a xs.length cap ∧ xs.length ≤ cap ∧ cap ≤ 9223372036854775807 ∧ (a = none → cap = 0) ∧ (xs.length = 0 ∨ ∃ g off, a = some ⟨g, off, none⟩ ∧ g < hi ∧ ∀ j x, xs[j]? = some x → ∀ i, i < k → w.cell? ⟨g, off + j * k + i, none⟩ = (enc x)[i]?)
/-- The slice value is the call's own, in a block from lo on and below hi, and holds these elements. -/
def OwnK (enc : α → List Value) (k : Nat) (e : TypeId) (lo hi : Nat) (w : World) (v : Value) (xs : List α) : Prop :=
  w.ownsRow lo e k v xs.length (xs.flatMap enc) ∧ ∀ g, v.ownBlock = some g → g < hi

theorem ReadsK.below {hi B : Nat} {w w' : World} {v : Value} {xs : List α} (h : ReadsK enc k hi w v xs) (hb : Below B w w') (hB : hi ≤ B) : ReadsK enc k hi w' v xs := by
  obtain ⟨a, cap, e, h1, h2, hnil, h3⟩ := h
  refine ⟨a, cap, e, h1, h2, hnil, ?_⟩
  rcases h3 with h3 | ⟨g, off, e2, hg, hc⟩
  · exact Or.inl h3
  · exact Or.inr ⟨g, off, e2, hg, fun j x hj i hi' => by rw [hb.cell (show g < B by omega)]; exact hc j x hj i hi'⟩
theorem ReadsK.mono {hi hi' : Nat} {w : World} {v : Value} {xs : List α} (h : ReadsK enc k hi w v xs) (hh : hi ≤ hi') : ReadsK enc k hi' w v xs := by
  obtain ⟨a, cap, e, h1, h2, hnil, h3⟩ := h
  refine ⟨a, cap, e, h1, h2, hnil, ?_⟩
  rcases h3 with h3 | ⟨g, off, e2, hg, hc⟩
  · exact Or.inl h3
  · exact Or.inr ⟨g, off, e2, by omega, hc⟩
theorem ReadsK.same {hi : Nat} {w w' : World} {v : Value} {xs : List α} (h : ReadsK enc k hi w v xs) (hs : Same w w') : ReadsK enc k hi w' v xs := h.below (hs.below hi) (Nat.le_refl _)
theorem ReadsK.nil {hi n cap : Nat} {w : World} {xs : List α} (h : ReadsK enc k hi w (.slice none n cap) xs) : xs = [] ∧ n = 0 ∧ cap = 0 := by
  obtain ⟨a, cap', e, h1, h2, hnil, h3⟩ := h
  cases e
  have hc := hnil rfl
  exact ⟨List.eq_nil_of_length_eq_zero (by omega), by omega, hc⟩
theorem ReadsK.news (hk : ∀ x, (enc x).length = k) {hi n cap : Nat} {w : World} {ad : Addr} {xs : List α} (h : ReadsK enc k hi w (.slice (some ad) n cap) xs) : ∀ j u, (xs.flatMap enc)[j]? = some u → w.cell? (ad.add j) = some u := by
  obtain ⟨a, cap', e, h1, h2, hnil, h3⟩ := h
  cases e
  intro t u hu
  have ht : t < xs.length * k := by
    rw [← flat_len hk]
    exact (List.getElem?_eq_some_iff.1 hu).1
  have hk0 : 0 < k := by
    rcases Nat.eq_zero_or_pos k with h | h
    · subst h; simp at ht
    · exact h
  have hj : t / k < xs.length := by rw [Nat.div_lt_iff_lt_mul hk0]; exact ht
  have hi' : t % k < k := Nat.mod_lt _ hk0
  have e1 : t / k * k + t % k = t := Nat.div_add_mod' t k
  obtain ⟨x, hx⟩ : ∃ x, xs[t / k]? = some x := ⟨_, List.getElem?_eq_getElem hj⟩
  rcases h3 with h3 | ⟨g, off, e2, hg, hc⟩
  · rw [h3] at hj; exact absurd hj (Nat.not_lt_zero _)
  · cases e2
    have e3 : (⟨g, off, none⟩ : Addr).add t = ⟨g, off + t, none⟩ := by unfold Addr.add; split <;> simp_all
    have h4 := flat_at hk hx hi'
    rw [e1, hu] at h4
    have h5 := hc (t / k) x hx (t % k) hi'
    rw [Nat.add_assoc, e1] at h5
    rw [e3, h5, ← h4]

theorem ReadsK.grw {hi : Nat} {w w' : World} {v : Value} {xs : List α} (h : ReadsK enc k hi w v xs) (hh : hi ≤ w.heap.size) (hg : Grw w w') : ReadsK enc k hi w' v xs := h.below hg.below hh

theorem OwnK.lt {e : TypeId} {lo hi : Nat} {w : World} {v : Value} {xs : List α} (h : OwnK enc k e lo hi w v xs) : ∀ g, v.ownBlock = some g → lo ≤ g ∧ g < w.heap.size := h.1.lt
theorem OwnK.reads (hk : ∀ x, (enc x).length = k) {e : TypeId} {lo hi : Nat} {w : World} {v : Value} {xs : List α} (h : OwnK enc k e lo hi w v xs) : ReadsK enc k hi w v xs := by
  obtain ⟨h1, h2⟩ := h
  have h3 := h1
  rcases h1.2 with ⟨rfl, h0⟩ | ⟨g, cap, cur, rfl, hg, hh, hc, hm, _⟩
  · exact ⟨none, 0, by rw [h0], by omega, by omega, (fun _ => rfl), Or.inl h0⟩
  · refine ⟨_, cap, rfl, hc, by unfold maxLen at hm; omega, (fun h => by cases h), Or.inr ⟨g, 0, rfl, h2 g rfl, fun j x hj i hi' => ?_⟩⟩
    have hjl := (List.getElem?_eq_some_iff.1 hj).1
    have := Nat.mul_le_mul_right k (show j + 1 ≤ xs.length by omega)
    rw [Nat.add_mul] at this
    rw [Nat.zero_add, h3.cellAt (j * k + i) (by omega), flat_at hk hj hi']
theorem OwnK.mono {e : TypeId} {lo hi lo' hi' : Nat} {w : World} {v : Value} {xs : List α} (h : OwnK enc k e lo hi w v xs) (hl : lo' ≤ lo) (hh : hi ≤ hi') : OwnK enc k e lo' hi' w v xs := by
  refine ⟨⟨h.1.1, ?_⟩, fun g hg => by have := h.2 g hg; omega⟩
  rcases h.1.2 with h1 | ⟨g, cap, cur, h1, h2, h3⟩
  · exact Or.inl h1
  · exact Or.inr ⟨g, cap, cur, h1, by omega, h3⟩
theorem OwnK.later {e : TypeId} {lo hi : Nat} {w w' : World} {v : Value} {xs : List α} (h : OwnK enc k e lo hi w v xs) (hb : Below w.heap.size w w') : OwnK enc k e lo hi w' v xs := by
  refine ⟨⟨h.1.1, ?_⟩, h.2⟩
  rcases h.1.2 with h1 | ⟨g, cap, cur, h1, h2, h3, h4⟩
  · exact Or.inl h1
  · have hg := (h.1.lt g (by rw [h1]; rfl)).2
    exact Or.inr ⟨g, cap, cur, h1, h2, by rw [hb.block g hg]; exact h3, h4⟩
theorem OwnK.apart {β : Type} {enc' : β → List Value} {k' : Nat} {e e' : TypeId} {lo hi lo' hi' : Nat} {w w' : World} {v u : Value} {xs : List α} {ys : List β} (h : OwnK enc k e lo hi w v xs) (hu : OwnK enc' k' e' lo' hi' w u ys) (hd : hi ≤ lo' ∨ hi' ≤ lo) (hg : w.grownBy w' u.ownBlock) : OwnK enc k e lo hi w' v xs := by
  refine ⟨h.1.kept hg ?_, h.2⟩
  cases hv : v.ownBlock with
  | none => exact Or.inl rfl
  | some g =>
    right
    intro e
    have h1 := h.2 g hv
    have h2 := (h.1.lt g hv).1
    have h3 := hu.2 g e.symm
    have h4 := (hu.1.lt g e.symm).1
    omega
theorem OwnK.back {e : TypeId} {lo hi : Nat} {w w0 w' : World} {v : Value} {xs : List α} (h : OwnK enc k e lo hi w v xs) (hb : Below lo w0 w) (hlo : lo ≤ w.heap.size) (hg : w.grownBy w' v.ownBlock) : Below lo w0 w' :=
  hb.grown hg hlo fun g hv => (h.1.lt g hv).1

/-- The first m elements' cells are the elements' own. -/
def UptoK (enc : α → List Value) (k : Nat) (xs : List α) (m : Nat) (cs : List Value) : Prop := ∀ j x, j < m → xs[j]? = some x → ∀ i, i < k → cs[j * k + i]? = (enc x)[i]?
theorem UptoK.zero (enc : α → List Value) (k : Nat) (xs : List α) (cs : List Value) : UptoK enc k xs 0 cs := fun _ _ h => absurd h (Nat.not_lt_zero _)
theorem UptoK.full (hk : ∀ x, (enc x).length = k) {xs : List α} {n : Nat} {cs : List Value} (h : UptoK enc k xs n cs) (hc : cs.length = n * k) (hx : xs.length = n) : cs = xs.flatMap enc := by
  apply List.ext_getElem?
  intro t
  by_cases ht : t < n * k
  · have hk0 : 0 < k := by
      rcases Nat.eq_zero_or_pos k with h | h
      · subst h; simp at ht
      · exact h
    have hj : t / k < n := by rw [Nat.div_lt_iff_lt_mul hk0]; exact ht
    have hi' : t % k < k := Nat.mod_lt _ hk0
    have e1 : t / k * k + t % k = t := Nat.div_add_mod' t k
    obtain ⟨x, hx'⟩ : ∃ x, xs[t / k]? = some x := ⟨_, List.getElem?_eq_getElem (by omega)⟩
    have h1 := h (t / k) x hj hx' (t % k) hi'
    have h2 := flat_at hk hx' hi'
    rw [e1] at h1 h2
    rw [h1, h2]
  · rw [List.getElem?_eq_none (by omega), List.getElem?_eq_none (by rw [flat_len hk, hx]; omega)]
/-- Elements of two cells: both stored. -/
theorem UptoK.set2 {enc : α → List Value} {xs : List α} {m : Nat} {cs : List Value} {x : α} {u v : Value} (h : UptoK enc 2 xs m cs) (hm : m * 2 + 1 < cs.length) (hx : xs[m]? = some x) (he : enc x = [u, v]) : UptoK enc 2 xs (m + 1) ((cs.set (m * 2) u).set (m * 2 + 1) v) := by
  intro j y hj hy i hi'
  by_cases e : j = m
  · subst e
    rw [hx] at hy
    cases hy
    rw [he]
    rcases (show i = 0 ∨ i = 1 by omega) with rfl | rfl
    · rw [List.getElem?_set_ne (by omega), Nat.add_zero, List.getElem?_set_self (by omega)]; rfl
    · rw [List.getElem?_set_self (by rw [List.length_set]; exact hm)]; rfl
  · rw [List.getElem?_set_ne (by omega), List.getElem?_set_ne (by omega)]
    exact h j y (by omega) hy i hi'

/-- A slice of the call's own, in a block from B on, while of what lay below B nothing was written. -/
structure MineK (enc : α → List Value) (k : Nat) (e : TypeId) (B : Nat) (w0 w : World) (v : Value) (xs : List α) : Prop where
  row : w.ownsRow B e k v xs.length (xs.flatMap enc)
  below : Below B w0 w
  size : B ≤ w.heap.size
theorem MineK.own {e : TypeId} {B : Nat} {w0 w : World} {v : Value} {xs : List α} (h : MineK enc k e B w0 w v xs) : OwnK enc k e B w.heap.size w v xs := ⟨h.row, fun g hg => (h.row.lt g hg).2⟩
theorem MineK.grow {e : TypeId} {B : Nat} {w0 w w' : World} {v v' : Value} {xs ys : List α} (h : MineK enc k e B w0 w v xs) (h1 : w'.ownsRow B e k v' (xs.length + ys.length) (xs.flatMap enc ++ ys.flatMap enc)) (hg : w.grownBy w' v.ownBlock) : MineK enc k e B w0 w' v' (xs ++ ys) :=
  ⟨by simpa using h1, h.below.grown hg h.size fun g hv => (h.row.lt g hv).1, Nat.le_trans h.size hg.size⟩
theorem MineK.alloc {e : TypeId} {B : Nat} {w0 w : World} {v : Value} {xs : List α} (h : MineK enc k e B w0 w v xs) (o : Obj) : MineK enc k e B w0 (w.alloc o) v xs := ⟨h.row.alloc o, h.below.alloc h.size o, by have := h.size; simp; omega⟩
theorem MineK.later {e : TypeId} {B : Nat} {w0 w w' : World} {v : Value} {xs : List α} (h : MineK enc k e B w0 w v xs) (hb : Below w.heap.size w w') : MineK enc k e B w0 w' v xs :=
  ⟨(h.own.later hb).1, h.below.trans (hb.mono h.size), Nat.le_trans h.size hb.size⟩
theorem MineK.empty (enc : α → List Value) (k : Nat) (e : TypeId) (w0 w : World) (B : Nat) (hb : Below B w0 w) (hB : B ≤ w.heap.size) : MineK enc k e B w0 (w.alloc (.cells #[] e)) (.slice (some ⟨w.heap.size, 0, none⟩) 0 0) [] :=
  ⟨World.ownsRow_made (base := B) (e := e) (size := k) w #[] 0 hB (by decide) (by simp), hb.alloc hB _, by simp; omega⟩
theorem MineK.nil (enc : α → List Value) (k : Nat) (e : TypeId) (w0 w : World) (B : Nat) (hb : Below B w0 w) (hB : B ≤ w.heap.size) : MineK enc k e B w0 w (.slice none 0 0) [] :=
  ⟨World.ownsRow_nil _ _ _ _, hb, hB⟩
/-- One element of two cells in a new block: what append takes. -/
theorem readsK_one2 (enc : α → List Value) (e : TypeId) (w : World) {x : α} {u v : Value} (he : enc x = [u, v]) : ReadsK enc 2 (w.heap.size + 1) (w.alloc (.cells #[u, v] e)) (.slice (some ⟨w.heap.size, 0, none⟩) 1 1) [x] := by
  refine ⟨_, 1, rfl, by simp, by omega, (fun h => by cases h), Or.inr ⟨_, 0, rfl, by omega, fun j y hy i hi' => ?_⟩⟩
  have hj : j = 0 := by have := (List.getElem?_eq_some_iff.1 hy).1; simp at this; omega
  subst hj
  simp only [List.getElem?_cons_zero, Option.some.injEq] at hy
  subst hy
  rw [he]
  rcases (show i = 0 ∨ i = 1 by omega) with rfl | rfl <;> simp

/-- append to a slice of the call's own, of whatever reads as elements of the same cells. -/
theorem wpList_appK {P : Program} {w : World} {ops : Array Oper} {rest : List Oper} {o : Oper} {a : Act} {Q : Exit → Act → World → Prop} (hgd : o.guard = none) (s x : Operand) (t : TypeId)
    (ho : o.op = .call { callee := .builtin .append, args := #[s, x], argTypes := #[t, t] })
    (hk : ∀ x, (enc x).length = k) (h1c : ∀ x, ∀ u ∈ enc x, u.oneCell' = true) (hk0 : 0 < k)
    (e : TypeId) (i : TypeInfo) (z : Value) (bytes : Nat) (ht : P.underlying t = some (.slice e)) (hi : P.info? e = some i) (hz : i.zero = some z) (hsize : i.size = k) (hby : i.bytes = bytes) (hzs : z.cells.size = k)
    (B : Nat) (w0 : World) (v : Value) (xs : List α) (hs : a.eval s = v) (hM : MineK enc k e B w0 w v xs) (vx : Value) (top : Nat) (ys : List α) (hx : a.eval x = vx) (hr : ReadsK enc k top w vx ys)
    (hby8 : bytes ≤ 1024) (hlen : xs.length + ys.length ≤ 137438953472)
    (h : ∀ v' w', MineK enc k e B w0 w' v' (xs ++ ys) → (v' = .slice none 0 0 ↔ v = .slice none 0 0 ∧ ys = []) → wpList P ops Q rest (a.put o.dst v') w') : wpList P ops Q (o :: rest) a w := by
  obtain ⟨ad, cap, rfl, h1, h2, h3, h4⟩ := id hr
  cases ad with
  | none =>
    obtain ⟨rfl, _, rfl⟩ := hr.nil
    refine wpList_append_own_none hgd s x t ho B e i k ht hi v xs.length _ hs hM.row hx ?_
    have h5 := h v w (by simpa using hM) (by simp)
    exact h5
  | some ad =>
    refine wpList_append_own _ hgd s x t ho B e i z k bytes ht hi hz hsize hby hzs hk0 v xs.length _ hs hM.row ad ys.length cap (ys.flatMap enc) hx (flat_len hk ys) (hr.news hk) ?_ ?_ ?_ hM.size ?_
    · intro u hu
      obtain ⟨y, _, hy⟩ := List.mem_flatMap.1 hu
      exact h1c y u hy
    · unfold maxLen; omega
    · have : (xs.length + ys.length) * bytes ≤ (xs.length + ys.length) * 1024 := Nat.mul_le_mul_left _ hby8
      omega
    · intro v' w' hown hgr hn
      refine h v' w' (hM.grow hown hgr) (hn.trans ?_)
      rw [List.length_eq_zero_iff]
end
end Go.Proofs.Ytpkicliimhflgaa
