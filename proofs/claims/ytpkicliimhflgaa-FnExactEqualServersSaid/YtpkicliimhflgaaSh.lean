/- Style rules and sheets in memory: what it means that a slice value reads as a list of them. Helper facts, no claim of its own. -/
import Derived.Test.YtpkicliimhflgaaDpSheet
import Derived.Test.YtpkicliimhflgaaTk
namespace Go.Proofs.Ytpkicliimhflgaa
open Go.ChangeShapes Go.WideShapes Go.ChangeAt Go.RowKit

/-- A rule: its name and its color. -/
abbrev Ru := ByteArray × Int
def encU (r : Ru) : List Value := [.string r.1, .int .i64 r.2]
theorem encU_len (r : Ru) : (encU r).length = 2 := rfl
theorem encU_one (r : Ru) : ∀ u ∈ encU r, u.oneCell' = true := by
  intro u hu
  simp only [encU, List.mem_cons, List.mem_nil_iff, or_false] at hu
  rcases hu with rfl | rfl <;> rfl
theorem ru_at {xs : List Ru} {j : Nat} (h : j < xs.length) : ∃ a b, xs[j]? = some (a, b) := ⟨xs[j].1, xs[j].2, List.getElem?_eq_getElem h⟩

def ruCells : List Ru → List Rw
  | [] => []
  | a :: rs => .leaf (.string a.1) :: .leaf (.int .i64 a.2) :: ruCells rs
theorem ruCells_map : ∀ rs : List Ru, (ruCells rs).map Rw.cell = rs.flatMap encU
  | [] => rfl
  | a :: rs => by rw [ruCells, List.map_cons, List.map_cons, ruCells_map rs, List.flatMap_cons]; rfl
theorem ruCells_len : ∀ rs : List Ru, (ruCells rs).length = rs.length * 2
  | [] => rfl
  | a :: rs => by rw [ruCells, List.length_cons, List.length_cons, ruCells_len rs, List.length_cons]; omega
theorem ruCells_at : ∀ {rs : List Ru} {j : Nat} {a : Ru}, rs[j]? = some a → (ruCells rs)[j * 2]? = some (.leaf (.string a.1)) ∧ (ruCells rs)[j * 2 + 1]? = some (.leaf (.int .i64 a.2))
  | [], j, a, h => by simp at h
  | b :: rs, 0, a, h => by
    have : b = a := by simpa using h
    subst this; exact ⟨rfl, rfl⟩
  | b :: rs, j + 1, a, h => by
    have ih := ruCells_at (rs := rs) (j := j) (by simpa using h)
    rw [show (j + 1) * 2 = j * 2 + 1 + 1 by omega, ruCells]
    simpa using ih
theorem ruCells_leaf : ∀ {rs : List Ru}, ∀ c ∈ ruCells rs, ∃ v, c = .leaf v ∧ v.oneCell' = true
  | [], c, h => by cases h
  | a :: rs, c, h => by
    rw [ruCells] at h
    rcases List.mem_cons.1 h with h | h
    · exact ⟨_, h, rfl⟩
    · rcases List.mem_cons.1 h with h | h
      · exact ⟨_, h, rfl⟩
      · exact ruCells_leaf c h
theorem ruCells_blocks (rs : List Ru) : blocksL (ruCells rs) = [] := blocksL_nil fun c hc => by
  obtain ⟨s, rfl, _⟩ := ruCells_leaf c hc
  rw [Rw.blocks]
/-- A sheet: its rules and where they lie. -/
abbrev Shv := List Ru × Sv
def encH (p : Shv) : List Value := [sv p.2]
theorem encH_len (p : Shv) : (encH p).length = 1 := rfl
theorem encH_one (p : Shv) : ∀ u ∈ encH p, u.oneCell' = true := by
  intro u hu
  simp only [encH, List.mem_cons, List.mem_nil_iff, or_false] at hu
  subst hu; rfl
theorem sh_at {ss : List Shv} {j : Nat} (h : j < ss.length) : ∃ p, ss[j]? = some p := ⟨_, List.getElem?_eq_getElem h⟩
/-- A slice of sheets, whole. -/
def ReadH (hi : Nat) (w : World) (v : Value) (ss : List Shv) : Prop := ReadsK encH 1 hi w v ss ∧ ∀ p ∈ ss, ReadsK encU 2 hi w (sv p.2) p.1
theorem ReadH.below {hi B : Nat} {w w' : World} {v : Value} {ss : List Shv} (h : ReadH hi w v ss) (hb : Below B w w') (hB : hi ≤ B) : ReadH hi w' v ss :=
  ⟨h.1.below hb hB, fun p hp => (h.2 p hp).below hb hB⟩
theorem ReadH.mono {hi hi' : Nat} {w : World} {v : Value} {ss : List Shv} (h : ReadH hi w v ss) (hh : hi ≤ hi') : ReadH hi' w v ss :=
  ⟨h.1.mono hh, fun p hp => (h.2 p hp).mono hh⟩
theorem ReadH.up {w w' : World} {v : Value} {ss : List Shv} (h : ReadH w.heap.size w v ss) (hb : Below w.heap.size w w') : ReadH w'.heap.size w' v ss :=
  (h.below hb (Nat.le_refl _)).mono hb.size
/-- A sheet in such a slice. -/
theorem ReadH.sheet {hi n cap k : Nat} {w : World} {a : Option Addr} {ss : List Shv} {p : Shv} (h : ReadH hi w (.slice a n cap) ss) (hk : ss[k]? = some p) : ReadsK encU 2 hi w (sv p.2) p.1 := h.2 p (List.mem_of_getElem? hk)
theorem ReadH.at {hi n cap k : Nat} {w : World} {a : Option Addr} {ss : List Shv} {p : Shv} (h : ReadH hi w (.slice a n cap) ss) (hk : ss[k]? = some p) : ∃ g off, a = some ⟨g, off, none⟩ ∧ g < hi ∧ w.cell? ⟨g, off + k, none⟩ = some (sv p.2) := by
  obtain ⟨⟨a', c', e, _, _, _, hc⟩, _⟩ := h
  injection e with e1 e2 e3; subst e1
  rcases hc with h0 | ⟨g, off, rfl, hg, hc⟩
  · have := (List.getElem?_eq_some_iff.1 hk).1; omega
  · refine ⟨g, off, rfl, hg, ?_⟩
    have := hc k p hk 0 (by omega)
    rwa [Nat.mul_one] at this
theorem ReadH.form {hi : Nat} {w : World} {v : Value} {ss : List Shv} (h : ReadH hi w v ss) : ∃ a c, v = .slice a ss.length c ∧ ss.length ≤ c ∧ c ≤ 9223372036854775807 := by
  obtain ⟨⟨a, c, e, h1, h2, _⟩, _⟩ := h
  exact ⟨a, c, e, h1, h2⟩
/-- A rule in a slice of rules. -/
theorem ReadsK.rule {hi n cap k : Nat} {w : World} {a : Option Addr} {rs : List Ru} {r : Ru} (h : ReadsK encU 2 hi w (.slice a n cap) rs) (hk : rs[k]? = some r) : ∃ g off, a = some ⟨g, off, none⟩ ∧ g < hi ∧ w.cell? ⟨g, off + k * 2, none⟩ = some (.string r.1) ∧ w.cell? ⟨g, off + k * 2 + 1, none⟩ = some (.int .i64 r.2) := by
  obtain ⟨a', c', e, _, _, _, hc⟩ := h
  injection e with e1 e2 e3; subst e1
  rcases hc with h0 | ⟨g, off, rfl, hg, hc⟩
  · have := (List.getElem?_eq_some_iff.1 hk).1; omega
  · exact ⟨g, off, rfl, hg, hc k r hk 0 (by omega), hc k r hk 1 (by omega)⟩

/-- The rules of all sheets, in order. -/
def flatR (ss : List Shv) : List Ru := ss.flatMap Prod.fst
theorem flatR_take {ss : List Shv} {k : Nat} {p : Shv} (h : ss[k]? = some p) : flatR (ss.take (k + 1)) = flatR (ss.take k) ++ p.1 := by
  rw [flatR, List.take_add_one, h, List.flatMap_append]; simp [flatR]
theorem flatR_full {ss : List Shv} {k : Nat} (h : k = ss.length) : flatR (ss.take k) = flatR ss := by rw [h, List.take_length]
theorem flatR_of {ss us : List Shv} (h : ss.map Prod.fst = us.map Prod.fst) : flatR ss = flatR us := by
  rw [flatR, flatR, List.flatMap, List.flatMap, h]
/-- The color of the last rule for this name; 0 if there is none. -/
def colOf (rs : List Ru) (nm : ByteArray) : Int := rs.foldl (fun c r => if r.1 = nm then r.2 else c) 0
theorem colOf_nil (nm : ByteArray) : colOf [] nm = 0 := rfl
theorem colOf_snoc (rs : List Ru) (r : Ru) (nm : ByteArray) : colOf (rs ++ [r]) nm = if r.1 = nm then r.2 else colOf rs nm := by
  rw [colOf, List.foldl_append]; rfl
theorem take_snoc {α : Type} {xs : List α} {k : Nat} {x : α} (h : xs[k]? = some x) : xs.take (k + 1) = xs.take k ++ [x] := by
  rw [List.take_add_one, h]; rfl
/-- What a rule may be. -/
def RuOk (r : Ru) : Prop := r.1.size ≤ 9223372036854775807 ∧ -9223372036854775808 ≤ r.2 ∧ r.2 ≤ 9223372036854775807
theorem colF_range (nm : ByteArray) : ∀ (rs : List Ru) (c : Int), (-9223372036854775808 ≤ c ∧ c ≤ 9223372036854775807) → (∀ r ∈ rs, RuOk r) → -9223372036854775808 ≤ rs.foldl (fun c r => if r.1 = nm then r.2 else c) c ∧ rs.foldl (fun c r => if r.1 = nm then r.2 else c) c ≤ 9223372036854775807
  | [], _, hc, _ => hc
  | r :: rs, c, hc, h => by
    rw [List.foldl_cons]
    refine colF_range nm rs _ ?_ fun x hx => h x (List.mem_cons_of_mem _ hx)
    split
    · exact (h r List.mem_cons_self).2
    · exact hc
theorem colOf_range {rs : List Ru} {nm : ByteArray} (h : ∀ r ∈ rs, RuOk r) : -9223372036854775808 ≤ colOf rs nm ∧ colOf rs nm ≤ 9223372036854775807 :=
  colF_range nm rs 0 (by omega) h
end Go.Proofs.Ytpkicliimhflgaa
