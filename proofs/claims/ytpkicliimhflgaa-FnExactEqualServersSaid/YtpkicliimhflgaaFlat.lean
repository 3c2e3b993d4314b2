/- Slices whose elements are plain structs (no slice among their cells), for any such struct: what it means that a slice value reads as a list of them, as data. Helper facts, no claim of its own. -/
import Derived.Test.YtpkicliimhflgaaEs
namespace Go.Proofs.Ytpkicliimhflgaa
open Go.ChangeShapes Go.WideShapes Go.ChangeAt Go.RowKit

section
variable {α : Type} {enc : α → List Value} {k : Nat}
theorem leaf_cells : ∀ l : List Value, (l.map Rw.leaf).map Rw.cell = l
  | [] => rfl
  | a :: l => by rw [List.map_cons, List.map_cons, leaf_cells l]; rfl
def lfCells (enc : α → List Value) (xs : List α) : List Rw := (xs.flatMap enc).map Rw.leaf
/-- A slice of plain structs. -/
def rwP (enc : α → List Value) (k : Nat) (e : TypeId) (v : Value) (xs : List α) : Rw := .sl v xs.length k e (lfCells enc xs)
theorem rwP_cell (enc : α → List Value) (k : Nat) (e : TypeId) (v : Value) (xs : List α) : (rwP enc k e v xs).cell = v := rfl
theorem lf_map (xs : List α) : (lfCells enc xs).map Rw.cell = xs.flatMap enc := leaf_cells _
theorem lf_len (hk : ∀ x, (enc x).length = k) (xs : List α) : (lfCells enc xs).length = xs.length * k := by unfold lfCells; rw [List.length_map, flat_len hk]
theorem lf_at (hk : ∀ x, (enc x).length = k) {xs : List α} {j : Nat} {x : α} (h : xs[j]? = some x) {i : Nat} (hi : i < k) {u : Value} (hu : (enc x)[i]? = some u) : (lfCells enc xs)[j * k + i]? = some (.leaf u) := by
  unfold lfCells; rw [List.getElem?_map, flat_at hk h hi, hu]; rfl
theorem lf_leaf {xs : List α} {c : Rw} (h : c ∈ lfCells enc xs) : ∃ x, x ∈ xs ∧ ∃ u, u ∈ enc x ∧ c = .leaf u := by
  obtain ⟨u, hu, rfl⟩ := List.mem_map.1 h
  obtain ⟨x, hx, hux⟩ := List.mem_flatMap.1 hu
  exact ⟨x, hx, u, hux, rfl⟩
theorem lf_blocks (xs : List α) : blocksL (lfCells enc xs) = [] := blocksL_nil fun c hc => by
  obtain ⟨_, _, u, _, rfl⟩ := lf_leaf hc
  rw [Rw.blocks]
theorem rwP_blocks (e : TypeId) (v : Value) (xs : List α) : (rwP enc k e v xs).blocks = v.ownBlock.toList := by rw [rwP, Rw.blocks, lf_blocks, List.append_nil]
theorem rwP_nodup (e : TypeId) (v : Value) (xs : List α) : (rwP enc k e v xs).blocks.Nodup := by rw [rwP_blocks]; cases v.ownBlock <;> simp
theorem rwP_own (h1 : ∀ x, ∀ u ∈ enc x, u.oneCell' = true) {e : TypeId} {lo hi : Nat} {w : World} {v : Value} {xs : List α} (h : OwnK enc k e lo hi w v xs) : (rwP enc k e v xs).OwnR lo hi w := by
  rw [rwP, Rw.OwnR]
  exact ⟨by rw [lf_map]; exact h, ownRL_iff.2 fun c hc => by obtain ⟨x, _, u, hu, rfl⟩ := lf_leaf hc; rw [Rw.OwnR]; exact h1 x u hu⟩
theorem own_rwP {e : TypeId} {lo hi : Nat} {w : World} {v : Value} {xs : List α} (h : (rwP enc k e v xs).OwnR lo hi w) : OwnK enc k e lo hi w v xs := by
  rw [rwP, Rw.OwnR, lf_map] at h
  exact h.1
theorem rwP_reads (hk : ∀ x, (enc x).length = k) (h1 : ∀ x, ∀ u ∈ enc x, u.oneCell' = true) (e : TypeId) {hi : Nat} {w : World} {v : Value} {xs : List α} (h : ReadsK enc k hi w v xs) : (rwP enc k e v xs).ReadR hi w := by
  rw [rwP, Rw.ReadR]
  have h0 := h
  obtain ⟨a, cap, rfl, g1, g2, g3, g4⟩ := h
  refine ⟨⟨a, cap, rfl, lf_len hk xs, g1, g2, g3, ?_⟩, readRL_iff.2 fun c hc => by obtain ⟨x, _, u, hu, rfl⟩ := lf_leaf hc; rw [Rw.ReadR]; exact h1 x u hu⟩
  rcases g4 with g4 | ⟨g, off, rfl, hg, hc⟩
  · exact Or.inl g4
  · refine Or.inr ⟨g, off, rfl, hg, fun j c hj => ?_⟩
    rw [lf_map] at hj
    have := h0.news hk j c hj
    rwa [add_off] at this
theorem rwP_data (e e' : TypeId) (v u : Value) (xs : List α) : (rwP enc k e v xs).data = (rwP enc k e' u xs).data := by rw [rwP, rwP, Rw.data, Rw.data]
theorem rowP_of_data (hk : ∀ x, (enc x).length = k) {x : Rw} {e : TypeId} {u : Value} {xs : List α} {hi : Nat} {w : World} (h : x.data = (rwP enc k e u xs).data) (hr : x.ReadR hi w) (hk0 : 0 < k) : ReadsK enc k hi w x.cell xs := by
  cases x with
  | leaf v => rw [rwP, Rw.data, Rw.data] at h; cases h
  | sl v n k' e' cs =>
    rw [rwP, Rw.data, Rw.data] at h
    obtain ⟨rfl, hd⟩ := Dt.sl.inj h
    have hl : cs.length = xs.length * k' := by have := congrArg List.length hd; rwa [dataL_len, dataL_len, lf_len hk] at this
    rw [Rw.ReadR] at hr
    obtain ⟨⟨a, cap, rfl, g1, g2, g3, g4, g5⟩, _⟩ := hr
    have hn : n = xs.length := Nat.eq_of_mul_eq_mul_right hk0 (by omega)
    subst hn
    refine ⟨a, cap, rfl, g2, g3, g4, ?_⟩
    rcases g5 with g5 | ⟨g, off, rfl, hg, hc⟩
    · exact Or.inl g5
    · refine Or.inr ⟨g, off, rfl, hg, fun j y hj i hi' => ?_⟩
      have hjl := (List.getElem?_eq_some_iff.1 hj).1
      have hb : j * k' + i < xs.length * k' := by have := Nat.mul_le_mul_right k' (show j + 1 ≤ xs.length by omega); rw [Nat.add_mul] at this; omega
      obtain ⟨c, hcm⟩ : ∃ c, cs[j * k' + i]? = some c := ⟨_, List.getElem?_eq_getElem (by omega)⟩
      obtain ⟨s, hs⟩ : ∃ s, (enc y)[i]? = some s := ⟨_, List.getElem?_eq_getElem (by rw [hk]; exact hi')⟩
      have e1 := leaf_of_data (data_same hd hcm (lf_at hk hj hi' hs))
      rw [Nat.add_assoc, hs]
      refine hc (j * k' + i) _ ?_
      rw [List.getElem?_map, hcm, e1]; rfl
theorem weight_mem {c : Rw} : ∀ {cs : List Rw}, c ∈ cs → c.weight ≤ weightL cs
  | [], h => by cases h
  | d :: ds, h => by
    rw [weightL]
    rcases List.mem_cons.1 h with e | h
    · rw [e]; omega
    · have := weight_mem h; omega
theorem rwP_weight (e : TypeId) (v : Value) (xs : List α) : xs.length ≤ (rwP enc k e v xs).weight := by rw [rwP, Rw.weight]; omega
/-- A string among an element's cells is no longer than the whole. -/
theorem rwP_str {e : TypeId} {v : Value} {xs : List α} {x : α} (hx : x ∈ xs) {s : ByteArray} (hs : Value.string s ∈ enc x) : s.size ≤ (rwP enc k e v xs).weight := by
  have hm : Rw.leaf (.string s) ∈ lfCells enc xs := List.mem_map.2 ⟨_, List.mem_flatMap.2 ⟨x, hx, hs⟩, rfl⟩
  have h1 := weight_mem hm
  have h2 : (Rw.leaf (.string s)).weight = s.size := by rw [Rw.weight]; rfl
  rw [rwP, Rw.weight]; omega
theorem count_leafs : ∀ l : List Value, countL (l.map Rw.leaf) = l.length
  | [] => rfl
  | a :: l => by rw [List.map_cons, countL, count_leafs l, Rw.count, List.length_cons]; omega
theorem rwP_count (hk : ∀ x, (enc x).length = k) (e : TypeId) (v : Value) (xs : List α) : (rwP enc k e v xs).count = xs.length * k := by rw [rwP, Rw.count, lfCells, count_leafs, flat_len hk]
theorem rwP_small {e : TypeId} {v : Value} {xs : List α} (h : ∀ x ∈ xs, ∀ u ∈ enc x, weightV u ≤ 9223372036854775807) : (rwP enc k e v xs).Small := by
  rw [rwP, Rw.Small]
  refine smallL_iff.2 fun c hc => ?_
  obtain ⟨x, hx, u, hu, rfl⟩ := lf_leaf hc
  rw [Rw.Small]; exact h x hx u hu
/-- The cells of an element of such a slice. -/
theorem ReadsK.cells {hi n cap j : Nat} {w : World} {a : Option Addr} {xs : List α} {x : α} (h : ReadsK enc k hi w (.slice a n cap) xs) (hj : xs[j]? = some x) : ∃ g off, a = some ⟨g, off, none⟩ ∧ g < hi ∧ ∀ i, i < k → w.cell? ⟨g, off + j * k + i, none⟩ = (enc x)[i]? := by
  obtain ⟨a', c', e, _, _, _, hc⟩ := h
  injection e with e1 e2 e3; subst e1
  rcases hc with h0 | ⟨g, off, rfl, hg, hc⟩
  · have := (List.getElem?_eq_some_iff.1 hj).1; omega
  · exact ⟨g, off, rfl, hg, hc j x hj⟩
end
end Go.Proofs.Ytpkicliimhflgaa
