/- Style rules and sheets in memory: what it means that a slice value reads as a list of them. Helper facts, no claim of its own. -/
import Derived.Test.YtmlmiclgledcpaaDoorDpSheet
import Derived.Test.YtmlmiclgledcpaaDoorTk
namespace Go.Proofs.YtmlmiclgledcpaaDoor
open Go.ChangeShapes Go.WideShapes Go.ChangeAt Go.RowKit

/-- A rule: its name and its color. -/
abbrev Ru := ByteArray × Int
def encU (r : Ru) : List Value := [.string r.1, .int .i64 r.2]
theorem encU_len (r : Ru) : (encU r).length = 2 := rfl
theorem encU_one (r : Ru) : ∀ u ∈ encU r, u.oneCell' = true := by
  intro u hu
  simp only [encU, List.mem_cons, List.mem_nil_iff, or_false] at hu
  rcases hu with rfl | rfl <;> rfl
theorem infoRu : (Tryd.prog.info? 42).map (fun i => (i.zero, i.size, i.bytes)) = some (some (.agg #[.string ⟨#[]⟩, .int .i64 0]), 2, 24) := by kernel_rfl
theorem infoSh : (Tryd.prog.info? 24).map (fun i => (i.zero, i.size, i.bytes)) = some (some (.agg #[.slice none 0 0]), 1, 24) := by kernel_rfl
theorem ru_at {xs : List Ru} {j : Nat} (h : j < xs.length) : ∃ a b, xs[j]? = some (a, b) := ⟨xs[j].1, xs[j].2, List.getElem?_eq_getElem h⟩

def ruCells : List Ru → List Rw
  | [] => []
  | a :: rs => .leaf (.string a.1) :: .leaf (.int .i64 a.2) :: ruCells rs
/-- A slice of rules. -/
def rwU (v : Value) (rs : List Ru) : Rw := .sl v rs.length 2 42 (ruCells rs)
theorem rwU_cell (v : Value) (rs : List Ru) : (rwU v rs).cell = v := rfl
theorem ruCells_map : ∀ rs : List Ru, (ruCells rs).map Rw.cell = rs.flatMap encU
  | [] => rfl
  | a :: rs => by rw [ruCells, List.map_cons, List.map_cons, ruCells_map rs, List.flatMap_cons]; rfl
theorem ruCells_len : ∀ rs : List Ru, (ruCells rs).length = rs.length * 2
  | [] => rfl
  | a :: rs => by rw [ruCells, List.length_cons, List.length_cons, ruCells_len rs, List.length_cons]; omega
theorem ruCells_at : ∀ {rs : List Ru} {j : Nat} {a : Ru}, rs[j]? = some a → (ruCells rs)[j * 2]? = some (.leaf (.string a.1)) ∧ (ruCells rs)[j * 2 + 1]? = some (.leaf (.int .i64 a.2))
  | [], j, a, h => by simp at h
  | b :: rs, 0, a, h => by
    have : b = a := by simpa using h
    subst this; exact ⟨rfl, rfl⟩
  | b :: rs, j + 1, a, h => by
    have ih := ruCells_at (rs := rs) (j := j) (by simpa using h)
    rw [show (j + 1) * 2 = j * 2 + 1 + 1 by omega, ruCells]
    simpa using ih
theorem ruCells_leaf : ∀ {rs : List Ru}, ∀ c ∈ ruCells rs, ∃ v, c = .leaf v ∧ v.oneCell' = true
  | [], c, h => by cases h
  | a :: rs, c, h => by
    rw [ruCells] at h
    rcases List.mem_cons.1 h with h | h
    · exact ⟨_, h, rfl⟩
    · rcases List.mem_cons.1 h with h | h
      · exact ⟨_, h, rfl⟩
      · exact ruCells_leaf c h
theorem ruCells_blocks (rs : List Ru) : blocksL (ruCells rs) = [] := blocksL_nil fun c hc => by
  obtain ⟨s, rfl, _⟩ := ruCells_leaf c hc
  rw [Rw.blocks]
theorem rwU_blocks (v : Value) (rs : List Ru) : (rwU v rs).blocks = v.ownBlock.toList := by rw [rwU, Rw.blocks, ruCells_blocks, List.append_nil]
theorem rwU_is (v : Value) (rs : List Ru) : IsRuleS (rwU v rs) :=
  ⟨v, rs.length, _, ruCells rs, rfl, fun j hj => by
    obtain ⟨a, b, h⟩ := ru_at hj
    obtain ⟨h1, h2⟩ := ruCells_at h
    exact ⟨a, b, h1, h2⟩⟩
theorem rwU_own {lo hi : Nat} {w : World} {v : Value} {rs : List Ru} (h : OwnK encU 2 42 lo hi w v rs) : (rwU v rs).OwnR lo hi w := by
  rw [rwU, Rw.OwnR]
  exact ⟨by rw [ruCells_map]; exact h, ownRL_iff.2 fun c hc => by obtain ⟨s, rfl, hs⟩ := ruCells_leaf c hc; rw [Rw.OwnR]; exact hs⟩
theorem rwU_reads {hi : Nat} {w : World} {v : Value} {rs : List Ru} (h : ReadsK encU 2 hi w v rs) : (rwU v rs).ReadR hi w := by
  rw [rwU, Rw.ReadR]
  have h0 := h
  obtain ⟨a, cap, rfl, h1, h2, h3, h4⟩ := h
  refine ⟨⟨a, cap, rfl, ruCells_len rs, h1, h2, h3, ?_⟩, readRL_iff.2 fun c hc => by obtain ⟨s, rfl, hs⟩ := ruCells_leaf c hc; rw [Rw.ReadR]; exact hs⟩
  rcases h4 with h4 | ⟨g, off, rfl, hg, hc⟩
  · exact Or.inl h4
  · refine Or.inr ⟨g, off, rfl, hg, fun j c hj => ?_⟩
    rw [ruCells_map] at hj
    have := h0.news encU_len j c hj
    rwa [add_off] at this
theorem rwU_data (v u : Value) (rs : List Ru) : (rwU v rs).data = (rwU u rs).data := by rw [rwU, rwU, Rw.data, Rw.data]
theorem rules_of_data {x : Rw} {u : Value} {rs : List Ru} {hi : Nat} {w : World} (h : x.data = (rwU u rs).data) (hr : x.ReadR hi w) : ReadsK encU 2 hi w x.cell rs := by
  cases x with
  | leaf v => rw [rwU, Rw.data, Rw.data] at h; cases h
  | sl v n k e cs =>
    rw [rwU, Rw.data, Rw.data] at h
    obtain ⟨rfl, hd⟩ := Dt.sl.inj h
    have hl : cs.length = rs.length * 2 := by have := congrArg List.length hd; rwa [dataL_len, dataL_len, ruCells_len] at this
    rw [Rw.ReadR] at hr
    obtain ⟨⟨a, cap, rfl, h1, h2, h3, h4, h5⟩, _⟩ := hr
    have hn : n = rs.length := by omega
    subst hn
    refine ⟨a, cap, rfl, h2, h3, h4, ?_⟩
    rcases h5 with h5 | ⟨g, off, rfl, hg, hc⟩
    · exact Or.inl h5
    · refine Or.inr ⟨g, off, rfl, hg, fun j y hj i hi' => ?_⟩
      obtain ⟨k1, k2⟩ := ruCells_at hj
      have hjl := (List.getElem?_eq_some_iff.1 hj).1
      have one : ∀ (m : Nat) (s : Value), m < cs.length → (ruCells rs)[m]? = some (.leaf s) → w.cell? ⟨g, off + m, none⟩ = some s := by
        intro m s hm hs
        obtain ⟨c, hcm⟩ : ∃ c, cs[m]? = some c := ⟨_, List.getElem?_eq_getElem hm⟩
        have e1 := leaf_of_data (data_same hd hcm hs)
        refine hc m _ ?_
        rw [List.getElem?_map, hcm, e1]; rfl
      rcases (show i = 0 ∨ i = 1 by omega) with rfl | rfl
      · exact one (j * 2) _ (by omega) k1
      · rw [Nat.add_assoc]; exact one (j * 2 + 1) _ (by omega) k2

/-- A sheet: its rules and where they lie. -/
abbrev Shv := List Ru × Sv
def encH (p : Shv) : List Value := [sv p.2]
theorem encH_len (p : Shv) : (encH p).length = 1 := rfl
theorem encH_one (p : Shv) : ∀ u ∈ encH p, u.oneCell' = true := by
  intro u hu
  simp only [encH, List.mem_cons, List.mem_nil_iff, or_false] at hu
  subst hu; rfl
def shCells : List Shv → List Rw
  | [] => []
  | p :: ss => rwU (sv p.2) p.1 :: shCells ss
/-- A slice of sheets. -/
def rwH (v : Value) (ss : List Shv) : Rw := .sl v ss.length 1 24 (shCells ss)
theorem rwH_cell (v : Value) (ss : List Shv) : (rwH v ss).cell = v := rfl
theorem shCells_map : ∀ ss : List Shv, (shCells ss).map Rw.cell = ss.flatMap encH
  | [] => rfl
  | p :: ss => by rw [shCells, List.map_cons, shCells_map ss, List.flatMap_cons]; rfl
theorem shCells_len : ∀ ss : List Shv, (shCells ss).length = ss.length
  | [] => rfl
  | p :: ss => by rw [shCells, List.length_cons, shCells_len ss, List.length_cons]
theorem shCells_at : ∀ {ss : List Shv} {j : Nat} {p : Shv}, ss[j]? = some p → (shCells ss)[j]? = some (rwU (sv p.2) p.1)
  | [], j, p, h => by simp at h
  | q :: ss, 0, p, h => by
    have : q = p := by simpa using h
    subst this; rfl
  | q :: ss, j + 1, p, h => by
    have ih := shCells_at (ss := ss) (j := j) (by simpa using h)
    rw [shCells]
    simpa using ih
theorem shCells_mem : ∀ {ss : List Shv}, ∀ c ∈ shCells ss, ∃ p ∈ ss, c = rwU (sv p.2) p.1
  | [], c, h => by cases h
  | p :: ss, c, h => by
    rw [shCells] at h
    rcases List.mem_cons.1 h with h | h
    · exact ⟨p, List.mem_cons_self, h⟩
    · obtain ⟨q, hq, e⟩ := shCells_mem c h
      exact ⟨q, List.mem_cons_of_mem _ hq, e⟩
theorem sh_at {ss : List Shv} {j : Nat} (h : j < ss.length) : ∃ p, ss[j]? = some p := ⟨_, List.getElem?_eq_getElem h⟩
theorem rwH_is (v : Value) (ss : List Shv) : IsSheetS (rwH v ss) :=
  ⟨v, ss.length, _, shCells ss, rfl, fun j hj => by
    obtain ⟨p, h⟩ := sh_at hj
    exact ⟨_, shCells_at h, rwU_is _ _⟩⟩
theorem shCells_data : ∀ {ss us : List Shv}, ss.map Prod.fst = us.map Prod.fst → dataL (shCells ss) = dataL (shCells us)
  | [], [], _ => rfl
  | [], u :: us, h => by simp at h
  | t :: ss, [], h => by simp at h
  | t :: ss, u :: us, h => by
    rw [List.map_cons, List.map_cons] at h
    obtain ⟨h1, h2⟩ := List.cons.inj h
    rw [shCells, shCells, dataL, dataL, shCells_data h2, h1, rwU_data]
theorem rwH_data (v u : Value) {ss us : List Shv} (h : ss.map Prod.fst = us.map Prod.fst) : (rwH v ss).data = (rwH u us).data := by
  rw [rwH, rwH, Rw.data, Rw.data, shCells_data h]
/-- A slice of sheets, whole. -/
def ReadH (hi : Nat) (w : World) (v : Value) (ss : List Shv) : Prop := ReadsK encH 1 hi w v ss ∧ ∀ p ∈ ss, ReadsK encU 2 hi w (sv p.2) p.1
theorem ReadH.below {hi B : Nat} {w w' : World} {v : Value} {ss : List Shv} (h : ReadH hi w v ss) (hb : Below B w w') (hB : hi ≤ B) : ReadH hi w' v ss :=
  ⟨h.1.below hb hB, fun p hp => (h.2 p hp).below hb hB⟩
theorem ReadH.mono {hi hi' : Nat} {w : World} {v : Value} {ss : List Shv} (h : ReadH hi w v ss) (hh : hi ≤ hi') : ReadH hi' w v ss :=
  ⟨h.1.mono hh, fun p hp => (h.2 p hp).mono hh⟩
theorem ReadH.up {w w' : World} {v : Value} {ss : List Shv} (h : ReadH w.heap.size w v ss) (hb : Below w.heap.size w w') : ReadH w'.heap.size w' v ss :=
  (h.below hb (Nat.le_refl _)).mono hb.size
theorem rwH_reads {hi : Nat} {w : World} {v : Value} {ss : List Shv} (h : ReadH hi w v ss) : (rwH v ss).ReadR hi w := by
  rw [rwH, Rw.ReadR]
  have h0 := h.1
  obtain ⟨⟨a, cap, rfl, h1, h2, h3, h4⟩, hin⟩ := h
  refine ⟨⟨a, cap, rfl, by rw [shCells_len, Nat.mul_one], h1, h2, h3, ?_⟩, readRL_iff.2 fun c hc => ?_⟩
  · rcases h4 with h4 | ⟨g, off, rfl, hg, hc⟩
    · exact Or.inl h4
    · refine Or.inr ⟨g, off, rfl, hg, fun j c hj => ?_⟩
      rw [shCells_map] at hj
      have := h0.news encH_len j c hj
      rwa [add_off] at this
  · obtain ⟨p, hp, rfl⟩ := shCells_mem c hc
    exact rwU_reads (hin p hp)
theorem shCells_of {hi : Nat} {w : World} : ∀ {ss : List Shv} {cs : List Rw}, dataL cs = dataL (shCells ss) → ReadRL hi w cs →
    ∃ ss' : List Shv, ss'.map Prod.fst = ss.map Prod.fst ∧ cs.map Rw.cell = ss'.flatMap encH ∧ ∀ p ∈ ss', ReadsK encU 2 hi w (sv p.2) p.1
  | [], cs, h, _ => by
    cases cs with
    | nil => exact ⟨[], rfl, rfl, fun p hp => by cases hp⟩
    | cons c cs => rw [shCells, dataL, dataL] at h; cases h
  | q :: ss, cs, h, hr => by
    rw [shCells] at h
    rcases cs with _ | ⟨c0, cs⟩
    · simp [dataL] at h
    · simp only [dataL, List.cons.injEq] at h
      obtain ⟨h0, h1⟩ := h
      have hr' := readRL_iff.1 hr
      obtain ⟨ss', k1, k2, k3⟩ := shCells_of (ss := ss) (cs := cs) h1 (readRL_iff.2 fun c hc => hr' c (by simp [hc]))
      have ha := rules_of_data h0 (hr' c0 (by simp))
      obtain ⟨s, hs⟩ : ∃ s : Sv, c0.cell = sv s := by
        obtain ⟨a, cap, e, _⟩ := ha
        exact ⟨(a, _, cap), e⟩
      rw [hs] at ha
      refine ⟨(q.1, s) :: ss', by rw [List.map_cons, List.map_cons, k1], ?_, fun p hp => ?_⟩
      · rw [List.map_cons, k2, List.flatMap_cons, hs]; rfl
      · rcases List.mem_cons.1 hp with h | h
        · rw [h]; exact ha
        · exact k3 p h
theorem sheets_of_data {x : Rw} {u : Value} {ss : List Shv} {hi : Nat} {w : World} (h : x.data = (rwH u ss).data) (hr : x.ReadR hi w) : ∃ ss', ss'.map Prod.fst = ss.map Prod.fst ∧ ReadH hi w x.cell ss' := by
  cases x with
  | leaf v => rw [rwH, Rw.data, Rw.data] at h; cases h
  | sl v n k e cs =>
    rw [rwH, Rw.data, Rw.data] at h
    obtain ⟨rfl, hd⟩ := Dt.sl.inj h
    have hl : cs.length = ss.length := by have := congrArg List.length hd; rwa [dataL_len, dataL_len, shCells_len] at this
    rw [Rw.ReadR] at hr
    obtain ⟨⟨a, cap, rfl, h1, h2, h3, h4, h5⟩, hrl⟩ := hr
    obtain ⟨ss', k1, k2, k3⟩ := shCells_of hd hrl
    have hnl : ss'.length = ss.length := by have := congrArg List.length k1; simpa using this
    have hn : n = ss'.length := by omega
    subst hn
    refine ⟨ss', k1, ⟨a, cap, rfl, h2, h3, h4, ?_⟩, k3⟩
    rcases h5 with h5 | ⟨g, off, rfl, hg, hc⟩
    · exact Or.inl h5
    · refine Or.inr ⟨g, off, rfl, hg, fun j y hj i hi' => ?_⟩
      have hjl := (List.getElem?_eq_some_iff.1 hj).1
      obtain ⟨c, hcs⟩ : ∃ c, (cs.map Rw.cell)[j * 1 + i]? = some c := ⟨_, List.getElem?_eq_getElem (by rw [List.length_map]; omega)⟩
      rw [Nat.add_assoc, hc (j * 1 + i) c hcs, ← hcs, k2, flat_at encH_len hj hi']
/-- A sheet in such a slice. -/
theorem ReadH.sheet {hi n cap k : Nat} {w : World} {a : Option Addr} {ss : List Shv} {p : Shv} (h : ReadH hi w (.slice a n cap) ss) (hk : ss[k]? = some p) : ReadsK encU 2 hi w (sv p.2) p.1 := h.2 p (List.mem_of_getElem? hk)
theorem ReadH.at {hi n cap k : Nat} {w : World} {a : Option Addr} {ss : List Shv} {p : Shv} (h : ReadH hi w (.slice a n cap) ss) (hk : ss[k]? = some p) : ∃ g off, a = some ⟨g, off, none⟩ ∧ g < hi ∧ w.cell? ⟨g, off + k, none⟩ = some (sv p.2) := by
  obtain ⟨⟨a', c', e, _, _, _, hc⟩, _⟩ := h
  injection e with e1 e2 e3; subst e1
  rcases hc with h0 | ⟨g, off, rfl, hg, hc⟩
  · have := (List.getElem?_eq_some_iff.1 hk).1; omega
  · refine ⟨g, off, rfl, hg, ?_⟩
    have := hc k p hk 0 (by omega)
    rwa [Nat.mul_one] at this
theorem ReadH.form {hi : Nat} {w : World} {v : Value} {ss : List Shv} (h : ReadH hi w v ss) : ∃ a c, v = .slice a ss.length c ∧ ss.length ≤ c ∧ c ≤ 9223372036854775807 := by
  obtain ⟨⟨a, c, e, h1, h2, _⟩, _⟩ := h
  exact ⟨a, c, e, h1, h2⟩
/-- A rule in a slice of rules. -/
theorem ReadsK.rule {hi n cap k : Nat} {w : World} {a : Option Addr} {rs : List Ru} {r : Ru} (h : ReadsK encU 2 hi w (.slice a n cap) rs) (hk : rs[k]? = some r) : ∃ g off, a = some ⟨g, off, none⟩ ∧ g < hi ∧ w.cell? ⟨g, off + k * 2, none⟩ = some (.string r.1) ∧ w.cell? ⟨g, off + k * 2 + 1, none⟩ = some (.int .i64 r.2) := by
  obtain ⟨a', c', e, _, _, _, hc⟩ := h
  injection e with e1 e2 e3; subst e1
  rcases hc with h0 | ⟨g, off, rfl, hg, hc⟩
  · have := (List.getElem?_eq_some_iff.1 hk).1; omega
  · exact ⟨g, off, rfl, hg, hc k r hk 0 (by omega), hc k r hk 1 (by omega)⟩

/-- The rules of all sheets, in order. -/
def flatR (ss : List Shv) : List Ru := ss.flatMap Prod.fst
theorem flatR_take {ss : List Shv} {k : Nat} {p : Shv} (h : ss[k]? = some p) : flatR (ss.take (k + 1)) = flatR (ss.take k) ++ p.1 := by
  rw [flatR, List.take_add_one, h, List.flatMap_append]; simp [flatR]
theorem flatR_full {ss : List Shv} {k : Nat} (h : k = ss.length) : flatR (ss.take k) = flatR ss := by rw [h, List.take_length]
theorem flatR_of {ss us : List Shv} (h : ss.map Prod.fst = us.map Prod.fst) : flatR ss = flatR us := by
  rw [flatR, flatR, List.flatMap, List.flatMap, h]
/-- The color of the last rule for this name; 0 if there is none. -/
def colOf (rs : List Ru) (nm : ByteArray) : Int := rs.foldl (fun c r => if r.1 = nm then r.2 else c) 0
theorem colOf_nil (nm : ByteArray) : colOf [] nm = 0 := rfl
theorem colOf_snoc (rs : List Ru) (r : Ru) (nm : ByteArray) : colOf (rs ++ [r]) nm = if r.1 = nm then r.2 else colOf rs nm := by
  rw [colOf, List.foldl_append]; rfl
theorem take_snoc {α : Type} {xs : List α} {k : Nat} {x : α} (h : xs[k]? = some x) : xs.take (k + 1) = xs.take k ++ [x] := by
  rw [List.take_add_one, h]; rfl
/-- What a rule may be. -/
def RuOk (r : Ru) : Prop := r.1.size ≤ 9223372036854775807 ∧ -9223372036854775808 ≤ r.2 ∧ r.2 ≤ 9223372036854775807
theorem colF_range (nm : ByteArray) : ∀ (rs : List Ru) (c : Int), (-9223372036854775808 ≤ c ∧ c ≤ 9223372036854775807) → (∀ r ∈ rs, RuOk r) → -9223372036854775808 ≤ rs.foldl (fun c r => if r.1 = nm then r.2 else c) c ∧ rs.foldl (fun c r => if r.1 = nm then r.2 else c) c ≤ 9223372036854775807
  | [], _, hc, _ => hc
  | r :: rs, c, hc, h => by
    rw [List.foldl_cons]
    refine colF_range nm rs _ ?_ fun x hx => h x (List.mem_cons_of_mem _ hx)
    split
    · exact (h r List.mem_cons_self).2
    · exact hc
theorem colOf_range {rs : List Ru} {nm : ByteArray} (h : ∀ r ∈ rs, RuOk r) : -9223372036854775808 ≤ colOf rs nm ∧ colOf rs nm ≤ 9223372036854775807 :=
  colF_range nm rs 0 (by omega) h
end Go.Proofs.YtmlmiclgledcpaaDoor
