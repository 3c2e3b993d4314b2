/- Chapter 12 as plain functions: the first file of a path, the first server of a host, the answer to an address. Helper facts, no claim of its own. -/
import Derived.Test.YtpkicliimhflgaaSe
namespace Go.Proofs.Ytpkicliimhflgaa
open Go.ChangeShapes Go.WideShapes Go.ChangeAt Go.RowKit

abbrev Sp := ByteArray × List Fl
theorem findIdx_hit {α : Type} {p : α → Bool} : ∀ {xs : List α} {k : Nat} {x : α}, (∀ (j : Nat) (y : α), j < k → xs[j]? = some y → p y = false) → xs[k]? = some x → p x = true → xs.findIdx p = k
  | [], k, x, _, h, _ => by simp at h
  | y :: ys, 0, x, _, h, hp => by
    have : y = x := by simpa using h
    subst this; rw [List.findIdx_cons, hp]; rfl
  | y :: ys, k + 1, x, hn, h, hp => by
    have h0 := hn 0 y (by omega) rfl
    rw [List.findIdx_cons, h0, findIdx_hit (xs := ys) (k := k) (fun j z hj hz => hn (j + 1) z (by omega) (by simpa using hz)) (by simpa using h) hp]; rfl
theorem findIdx_no {α : Type} {p : α → Bool} : ∀ {xs : List α}, (∀ (j : Nat) (y : α), xs[j]? = some y → p y = false) → xs.findIdx p = xs.length
  | [], _ => rfl
  | y :: ys, hn => by
    have h0 := hn 0 y rfl
    rw [List.findIdx_cons, h0, findIdx_no (xs := ys) (fun j z hz => hn (j + 1) z (by simpa using hz))]; rfl
theorem findIdx_or {α : Type} (p : α → Bool) : ∀ (xs : List α), (xs.findIdx p = xs.length ∧ ∀ (j : Nat) (y : α), xs[j]? = some y → p y = false) ∨ ∃ x, xs.findIdx p < xs.length ∧ xs[xs.findIdx p]? = some x ∧ p x = true ∧ ∀ (j : Nat) (y : α), j < xs.findIdx p → xs[j]? = some y → p y = false
  | [] => Or.inl ⟨rfl, fun j y h => by simp at h⟩
  | y :: ys => by
    cases h0 : p y with
    | true =>
      refine Or.inr ⟨y, ?_⟩
      rw [List.findIdx_cons, h0]
      exact ⟨by simp, rfl, rfl, fun j z hj => by simp at hj⟩
    | false =>
      rw [List.findIdx_cons, h0]
      rcases findIdx_or p ys with ⟨e, hn⟩ | ⟨x, hl, hx, hp, hn⟩
      · refine Or.inl ⟨by simp [e], fun j z hz => ?_⟩
        cases j with
        | zero => have : y = z := by simpa using hz
                  subst this; exact h0
        | succ j => exact hn j z (by simpa using hz)
      · refine Or.inr ⟨x, by simpa using hl, by simpa using hx, hp, fun j z hj hz => ?_⟩
        cases j with
        | zero => have : y = z := by simpa using hz
                  subst this; exact h0
        | succ j => exact hn j z (by simpa using hj) (by simpa using hz)
/-- None of the first k is such a one. -/
def NoneTo {α : Type} (p : α → Bool) (xs : List α) (k : Nat) : Prop := ∀ (j : Nat) (y : α), j < k → xs[j]? = some y → p y = false
theorem NoneTo.zero {α : Type} (p : α → Bool) (xs : List α) : NoneTo p xs 0 := fun _ _ h => absurd h (Nat.not_lt_zero _)
theorem NoneTo.step {α : Type} {p : α → Bool} {xs : List α} {k : Nat} {x : α} (h : NoneTo p xs k) (hx : xs[k]? = some x) (hp : p x = false) : NoneTo p xs (k + 1) := fun j y hj hy => by
  by_cases e : j = k
  · subst e; rw [hx] at hy; cases hy; exact hp
  · exact h j y (by omega) hy
theorem NoneTo.full {α : Type} {p : α → Bool} {xs : List α} (h : NoneTo p xs xs.length) : xs.findIdx p = xs.length := findIdx_no fun j y hy => h j y (List.getElem?_eq_some_iff.1 hy).1 hy
theorem NoneTo.hit {α : Type} {p : α → Bool} {xs : List α} {k : Nat} {x : α} (h : NoneTo p xs k) (hx : xs[k]? = some x) (hp : p x = true) : xs.findIdx p = k := findIdx_hit h hx hp
/-- The place of the first server of this host, of the first file of this path; the length where there is none. -/
def isHost (h : ByteArray) (p : Sp) : Bool := decide (p.1 = h)
def isPath (p : ByteArray) (f : Fl) : Bool := decide (f.pa = p)
def fdS (l : List Sp) (h : ByteArray) : Nat := l.findIdx (isHost h)
def fdF (l : List Fl) (p : ByteArray) : Nat := l.findIdx (isPath p)
/-- The same as the code answers it. -/
def ixV (i n : Nat) : Int := if i < n then (i : Int) else -1
theorem ixV_hit {i n : Nat} (h : i < n) : ixV i n = i := if_pos h
theorem ixV_no (n : Nat) : ixV n n = -1 := if_neg (Nat.lt_irrefl _)
theorem fd_mapS (ss : List Se) (k : Nat) (p : Se) (hp : ss[k]? = some p) : (ss.map Prod.fst)[k]? = some p.1 := by rw [List.getElem?_map, hp]; rfl
def nfR : Rv := ⟨404, 1, ⟨#[]⟩, 0, false, ⟨#[]⟩⟩
def rvG (r : Rv) : Value := .agg #[.int .i64 r.st, .int .i64 r.kd, .string r.bo, .int .i64 r.ag, .bool r.sh, .string r.po]
/-- AnswerTo. -/
def ansF (fs : List Fl) (p : ByteArray) : Rv := match fs[fdF fs p]? with
  | none => nfR
  | some f => f.rv
def ansV (l : List Sp) (h p : ByteArray) : Rv := match l[fdS l h]? with
  | none => nfR
  | some s => ansF s.2 p
theorem ansV_no {l : List Sp} {h p : ByteArray} (e : fdS l h = l.length) : ansV l h p = nfR := by
  unfold ansV; rw [e, List.getElem?_eq_none (Nat.le_refl _)]
theorem ansV_at {l : List Sp} {h p : ByteArray} {s : Sp} {k : Nat} (e : fdS l h = k) (hs : l[k]? = some s) : ansV l h p = ansF s.2 p := by
  unfold ansV; rw [e, hs]
theorem ansF_no {fs : List Fl} {p : ByteArray} (e : fdF fs p = fs.length) : ansF fs p = nfR := by
  unfold ansF; rw [e, List.getElem?_eq_none (Nat.le_refl _)]
theorem ansF_at {fs : List Fl} {p : ByteArray} {f : Fl} {k : Nat} (e : fdF fs p = k) (hs : fs[k]? = some f) : ansF fs p = f.rv := by
  unfold ansF; rw [e, hs]
theorem ret_ix {a b : Int} (h : a = b) : Ending.returned (.int .i64 a) = .returned (.int .i64 b) := by rw [h]
theorem box2_0 (w : World) (o p : Obj) : ((w.alloc o).alloc p).heap[w.heap.size]? = some o := by
  rw [Below.heap_alloc _ _ _ (by rw [size_alloc]; omega)]
  exact heap_alloc_new w _
theorem box2_1 (w : World) (o p : Obj) : ((w.alloc o).alloc p).heap[w.heap.size + 1]? = some p := by
  have h := heap_alloc_new (w.alloc o) p
  rw [size_alloc] at h
  exact h
/-- Six stores into one block. -/
theorem set6_box {W : World} {p : Nat} {T : TypeId} {z0 z1 z2 z3 z4 z5 : Value} (h : W.heap[p]? = some (.cells #[z0, z1, z2, z3, z4, z5] T (0, 0))) (u0 u1 u2 u3 u4 u5 : Value) : ((((((W.setCell ⟨p, 0, none⟩ u0).setCell ⟨p, 1, none⟩ u1).setCell ⟨p, 2, none⟩ u2).setCell ⟨p, 3, none⟩ u3).setCell ⟨p, 4, none⟩ u4).setCell ⟨p, 5, none⟩ u5).heap[p]? = some (.cells #[u0, u1, u2, u3, u4, u5] T (0, 0)) :=
  heap_one (o := 5) (heap_one (o := 4) (heap_one (o := 3) (heap_one (o := 2) (heap_one (o := 1) (heap_one (o := 0) h u0) u1) u2) u3) u4) u5
theorem set6_grw {w W : World} {p : Nat} (h : Grw w W) (hp : w.heap.size ≤ p) (u0 u1 u2 u3 u4 u5 : Value) : Grw w ((((((W.setCell ⟨p, 0, none⟩ u0).setCell ⟨p, 1, none⟩ u1).setCell ⟨p, 2, none⟩ u2).setCell ⟨p, 3, none⟩ u3).setCell ⟨p, 4, none⟩ u4).setCell ⟨p, 5, none⟩ u5) :=
  grw_setC (grw_setC (grw_setC (grw_setC (grw_setC (grw_setC h hp u0) hp u1) hp u2) hp u3) hp u4) hp u5
theorem set6_bl {w W : World} {B p : Nat} (h : Below B w W) (hp : B ≤ p) (u0 u1 u2 u3 u4 u5 : Value) : Below B w ((((((W.setCell ⟨p, 0, none⟩ u0).setCell ⟨p, 1, none⟩ u1).setCell ⟨p, 2, none⟩ u2).setCell ⟨p, 3, none⟩ u3).setCell ⟨p, 4, none⟩ u4).setCell ⟨p, 5, none⟩ u5) :=
  (((((h.setCell hp u0).setCell hp u1).setCell hp u2).setCell hp u3).setCell hp u4).setCell hp u5
end Go.Proofs.Ytpkicliimhflgaa
