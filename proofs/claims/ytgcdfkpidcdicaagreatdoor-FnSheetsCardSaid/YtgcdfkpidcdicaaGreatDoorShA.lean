/- 5 texts in one. -/
import Derived.Test.YtgcdfkpidcdicaaGreatDoorDpSheet
import Derived.Test.YtgcdfkpidcdicaaGreatDoorTk
import Derived.Test.YtgcdfkpidcdicaaGreatDoorNumA
import Derived.Test.YtgcdfkpidcdicaaGreatDoorNd
import Derived.Test.YtgcdfkpidcdicaaGreatDoorTagP
import Derived.Deep.AppendLies
import Derived.Deep.RegionLaw
namespace Go.Proofs.YtgcdfkpidcdicaaGreatDoor
/- Sh -/
open Go.ChangeShapes Go.WideShapes Go.ChangeAt Go.RowKit

/-- A rule: its name and its color. -/
abbrev Ru := ByteArray × Int
def encU (r : Ru) : List Value := [.string r.1, .int .i64 r.2]
theorem encU_len (r : Ru) : (encU r).length = 2 := rfl
theorem encU_one (r : Ru) : ∀ u ∈ encU r, u.oneCell' = true := by
  intro u hu
  simp only [encU, List.mem_cons, List.mem_nil_iff, or_false] at hu
  rcases hu with rfl | rfl <;> rfl
theorem infoRu : (Tryz.prog.info? 36).map (fun i => (i.zero, i.size, i.bytes)) = some (some (.agg #[.string ⟨#[]⟩, .int .i64 0]), 2, 24) := by kernel_rfl
theorem infoSh : (Tryz.prog.info? 27).map (fun i => (i.zero, i.size, i.bytes)) = some (some (.agg #[.slice none 0 0]), 1, 24) := by kernel_rfl
theorem ru_at {xs : List Ru} {j : Nat} (h : j < xs.length) : ∃ a b, xs[j]? = some (a, b) := ⟨xs[j].1, xs[j].2, List.getElem?_eq_getElem h⟩

def ruCells : List Ru → List Rw
  | [] => []
  | a :: rs => .leaf (.string a.1) :: .leaf (.int .i64 a.2) :: ruCells rs
/-- A slice of rules. -/
def rwU (v : Value) (rs : List Ru) : Rw := .sl v rs.length 2 36 (ruCells rs)
theorem rwU_cell (v : Value) (rs : List Ru) : (rwU v rs).cell = v := rfl
theorem ruCells_map : ∀ rs : List Ru, (ruCells rs).map Rw.cell = rs.flatMap encU
  | [] => rfl
  | a :: rs => by rw [ruCells, List.map_cons, List.map_cons, ruCells_map rs, List.flatMap_cons]; rfl
theorem ruCells_len : ∀ rs : List Ru, (ruCells rs).length = rs.length * 2
  | [] => rfl
  | a :: rs => by rw [ruCells, List.length_cons, List.length_cons, ruCells_len rs, List.length_cons]; omega
theorem ruCells_at : ∀ {rs : List Ru} {j : Nat} {a : Ru}, rs[j]? = some a → (ruCells rs)[j * 2]? = some (.leaf (.string a.1)) ∧ (ruCells rs)[j * 2 + 1]? = some (.leaf (.int .i64 a.2))
  | [], j, a, h => by simp at h
  | b :: rs, 0, a, h => by
    have : b = a := by simpa using h
    subst this; exact ⟨rfl, rfl⟩
  | b :: rs, j + 1, a, h => by
    have ih := ruCells_at (rs := rs) (j := j) (by simpa using h)
    rw [show (j + 1) * 2 = j * 2 + 1 + 1 by omega, ruCells]
    simpa using ih
theorem ruCells_leaf : ∀ {rs : List Ru}, ∀ c ∈ ruCells rs, ∃ v, c = .leaf v ∧ v.oneCell' = true
  | [], c, h => by cases h
  | a :: rs, c, h => by
    rw [ruCells] at h
    rcases List.mem_cons.1 h with h | h
    · exact ⟨_, h, rfl⟩
    · rcases List.mem_cons.1 h with h | h
      · exact ⟨_, h, rfl⟩
      · exact ruCells_leaf c h
theorem ruCells_blocks (rs : List Ru) : blocksL (ruCells rs) = [] := blocksL_nil fun c hc => by
  obtain ⟨s, rfl, _⟩ := ruCells_leaf c hc
  rw [Rw.blocks]
theorem rwU_blocks (v : Value) (rs : List Ru) : (rwU v rs).blocks = v.ownBlock.toList := by rw [rwU, Rw.blocks, ruCells_blocks, List.append_nil]
theorem rwU_is (v : Value) (rs : List Ru) : IsRuleS (rwU v rs) :=
  ⟨v, rs.length, _, ruCells rs, rfl, fun j hj => by
    obtain ⟨a, b, h⟩ := ru_at hj
    obtain ⟨h1, h2⟩ := ruCells_at h
    exact ⟨a, b, h1, h2⟩⟩
theorem rwU_own {lo hi : Nat} {w : World} {v : Value} {rs : List Ru} (h : OwnK encU 2 36 lo hi w v rs) : (rwU v rs).OwnR lo hi w := by
  rw [rwU, Rw.OwnR]
  exact ⟨by rw [ruCells_map]; exact h, ownRL_iff.2 fun c hc => by obtain ⟨s, rfl, hs⟩ := ruCells_leaf c hc; rw [Rw.OwnR]; exact hs⟩
theorem rwU_reads {hi : Nat} {w : World} {v : Value} {rs : List Ru} (h : ReadsK encU 2 hi w v rs) : (rwU v rs).ReadR hi w := by
  rw [rwU, Rw.ReadR]
  have h0 := h
  obtain ⟨a, cap, rfl, h1, h2, h3, h4⟩ := h
  refine ⟨⟨a, cap, rfl, ruCells_len rs, h1, h2, h3, ?_⟩, readRL_iff.2 fun c hc => by obtain ⟨s, rfl, hs⟩ := ruCells_leaf c hc; rw [Rw.ReadR]; exact hs⟩
  rcases h4 with h4 | ⟨g, off, rfl, hg, hc⟩
  · exact Or.inl h4
  · refine Or.inr ⟨g, off, rfl, hg, fun j c hj => ?_⟩
    rw [ruCells_map] at hj
    have := h0.news encU_len j c hj
    rwa [add_off] at this
theorem rwU_data (v u : Value) (rs : List Ru) : (rwU v rs).data = (rwU u rs).data := by rw [rwU, rwU, Rw.data, Rw.data]
theorem rules_of_data {x : Rw} {u : Value} {rs : List Ru} {hi : Nat} {w : World} (h : x.data = (rwU u rs).data) (hr : x.ReadR hi w) : ReadsK encU 2 hi w x.cell rs := by
  cases x with
  | leaf v => rw [rwU, Rw.data, Rw.data] at h; cases h
  | sl v n k e cs =>
    rw [rwU, Rw.data, Rw.data] at h
    obtain ⟨rfl, hd⟩ := Dt.sl.inj h
    have hl : cs.length = rs.length * 2 := by have := congrArg List.length hd; rwa [dataL_len, dataL_len, ruCells_len] at this
    rw [Rw.ReadR] at hr
    obtain ⟨⟨a, cap, rfl, h1, h2, h3, h4, h5⟩, _⟩ := hr
    have hn : n = rs.length := by omega
    subst hn
    refine ⟨a, cap, rfl, h2, h3, h4, ?_⟩
    rcases h5 with h5 | ⟨g, off, rfl, hg, hc⟩
    · exact Or.inl h5
    · refine Or.inr ⟨g, off, rfl, hg, fun j y hj i hi' => ?_⟩
      obtain ⟨k1, k2⟩ := ruCells_at hj
      have hjl := (List.getElem?_eq_some_iff.1 hj).1
      have one : ∀ (m : Nat) (s : Value), m < cs.length → (ruCells rs)[m]? = some (.leaf s) → w.cell? ⟨g, off + m, none⟩ = some s := by
        intro m s hm hs
        obtain ⟨c, hcm⟩ : ∃ c, cs[m]? = some c := ⟨_, List.getElem?_eq_getElem hm⟩
        have e1 := leaf_of_data (data_same hd hcm hs)
        refine hc m _ ?_
        rw [List.getElem?_map, hcm, e1]; rfl
      rcases (show i = 0 ∨ i = 1 by omega) with rfl | rfl
      · exact one (j * 2) _ (by omega) k1
      · rw [Nat.add_assoc]; exact one (j * 2 + 1) _ (by omega) k2

/-- A sheet: its rules and where they lie. -/
abbrev Shv := List Ru × Sv
def encH (p : Shv) : List Value := [sv p.2]
theorem encH_len (p : Shv) : (encH p).length = 1 := rfl
theorem encH_one (p : Shv) : ∀ u ∈ encH p, u.oneCell' = true := by
  intro u hu
  simp only [encH, List.mem_cons, List.mem_nil_iff, or_false] at hu
  subst hu; rfl
def shCells : List Shv → List Rw
  | [] => []
  | p :: ss => rwU (sv p.2) p.1 :: shCells ss
/-- A slice of sheets. -/
def rwH (v : Value) (ss : List Shv) : Rw := .sl v ss.length 1 27 (shCells ss)
theorem rwH_cell (v : Value) (ss : List Shv) : (rwH v ss).cell = v := rfl
theorem shCells_map : ∀ ss : List Shv, (shCells ss).map Rw.cell = ss.flatMap encH
  | [] => rfl
  | p :: ss => by rw [shCells, List.map_cons, shCells_map ss, List.flatMap_cons]; rfl
theorem shCells_len : ∀ ss : List Shv, (shCells ss).length = ss.length
  | [] => rfl
  | p :: ss => by rw [shCells, List.length_cons, shCells_len ss, List.length_cons]
theorem shCells_at : ∀ {ss : List Shv} {j : Nat} {p : Shv}, ss[j]? = some p → (shCells ss)[j]? = some (rwU (sv p.2) p.1)
  | [], j, p, h => by simp at h
  | q :: ss, 0, p, h => by
    have : q = p := by simpa using h
    subst this; rfl
  | q :: ss, j + 1, p, h => by
    have ih := shCells_at (ss := ss) (j := j) (by simpa using h)
    rw [shCells]
    simpa using ih
theorem shCells_mem : ∀ {ss : List Shv}, ∀ c ∈ shCells ss, ∃ p ∈ ss, c = rwU (sv p.2) p.1
  | [], c, h => by cases h
  | p :: ss, c, h => by
    rw [shCells] at h
    rcases List.mem_cons.1 h with h | h
    · exact ⟨p, List.mem_cons_self, h⟩
    · obtain ⟨q, hq, e⟩ := shCells_mem c h
      exact ⟨q, List.mem_cons_of_mem _ hq, e⟩
theorem sh_at {ss : List Shv} {j : Nat} (h : j < ss.length) : ∃ p, ss[j]? = some p := ⟨_, List.getElem?_eq_getElem h⟩
theorem rwH_is (v : Value) (ss : List Shv) : IsSheetS (rwH v ss) :=
  ⟨v, ss.length, _, shCells ss, rfl, fun j hj => by
    obtain ⟨p, h⟩ := sh_at hj
    exact ⟨_, shCells_at h, rwU_is _ _⟩⟩
theorem shCells_data : ∀ {ss us : List Shv}, ss.map Prod.fst = us.map Prod.fst → dataL (shCells ss) = dataL (shCells us)
  | [], [], _ => rfl
  | [], u :: us, h => by simp at h
  | t :: ss, [], h => by simp at h
  | t :: ss, u :: us, h => by
    rw [List.map_cons, List.map_cons] at h
    obtain ⟨h1, h2⟩ := List.cons.inj h
    rw [shCells, shCells, dataL, dataL, shCells_data h2, h1, rwU_data]
theorem rwH_data (v u : Value) {ss us : List Shv} (h : ss.map Prod.fst = us.map Prod.fst) : (rwH v ss).data = (rwH u us).data := by
  rw [rwH, rwH, Rw.data, Rw.data, shCells_data h]
/-- A slice of sheets, whole. -/
def ReadH (hi : Nat) (w : World) (v : Value) (ss : List Shv) : Prop := ReadsK encH 1 hi w v ss ∧ ∀ p ∈ ss, ReadsK encU 2 hi w (sv p.2) p.1
theorem ReadH.below {hi B : Nat} {w w' : World} {v : Value} {ss : List Shv} (h : ReadH hi w v ss) (hb : Below B w w') (hB : hi ≤ B) : ReadH hi w' v ss :=
  ⟨h.1.below hb hB, fun p hp => (h.2 p hp).below hb hB⟩
theorem ReadH.mono {hi hi' : Nat} {w : World} {v : Value} {ss : List Shv} (h : ReadH hi w v ss) (hh : hi ≤ hi') : ReadH hi' w v ss :=
  ⟨h.1.mono hh, fun p hp => (h.2 p hp).mono hh⟩
theorem ReadH.up {w w' : World} {v : Value} {ss : List Shv} (h : ReadH w.heap.size w v ss) (hb : Below w.heap.size w w') : ReadH w'.heap.size w' v ss :=
  (h.below hb (Nat.le_refl _)).mono hb.size
theorem rwH_reads {hi : Nat} {w : World} {v : Value} {ss : List Shv} (h : ReadH hi w v ss) : (rwH v ss).ReadR hi w := by
  rw [rwH, Rw.ReadR]
  have h0 := h.1
  obtain ⟨⟨a, cap, rfl, h1, h2, h3, h4⟩, hin⟩ := h
  refine ⟨⟨a, cap, rfl, by rw [shCells_len, Nat.mul_one], h1, h2, h3, ?_⟩, readRL_iff.2 fun c hc => ?_⟩
  · rcases h4 with h4 | ⟨g, off, rfl, hg, hc⟩
    · exact Or.inl h4
    · refine Or.inr ⟨g, off, rfl, hg, fun j c hj => ?_⟩
      rw [shCells_map] at hj
      have := h0.news encH_len j c hj
      rwa [add_off] at this
  · obtain ⟨p, hp, rfl⟩ := shCells_mem c hc
    exact rwU_reads (hin p hp)
theorem shCells_of {hi : Nat} {w : World} : ∀ {ss : List Shv} {cs : List Rw}, dataL cs = dataL (shCells ss) → ReadRL hi w cs →
    ∃ ss' : List Shv, ss'.map Prod.fst = ss.map Prod.fst ∧ cs.map Rw.cell = ss'.flatMap encH ∧ ∀ p ∈ ss', ReadsK encU 2 hi w (sv p.2) p.1
  | [], cs, h, _ => by
    cases cs with
    | nil => exact ⟨[], rfl, rfl, fun p hp => by cases hp⟩
    | cons c cs => rw [shCells, dataL, dataL] at h; cases h
  | q :: ss, cs, h, hr => by
    rw [shCells] at h
    rcases cs with _ | ⟨c0, cs⟩
    · simp [dataL] at h
    · simp only [dataL, List.cons.injEq] at h
      obtain ⟨h0, h1⟩ := h
      have hr' := readRL_iff.1 hr
      obtain ⟨ss', k1, k2, k3⟩ := shCells_of (ss := ss) (cs := cs) h1 (readRL_iff.2 fun c hc => hr' c (by simp [hc]))
      have ha := rules_of_data h0 (hr' c0 (by simp))
      obtain ⟨s, hs⟩ : ∃ s : Sv, c0.cell = sv s := by
        obtain ⟨a, cap, e, _⟩ := ha
        exact ⟨(a, _, cap), e⟩
      rw [hs] at ha
      refine ⟨(q.1, s) :: ss', by rw [List.map_cons, List.map_cons, k1], ?_, fun p hp => ?_⟩
      · rw [List.map_cons, k2, List.flatMap_cons, hs]; rfl
      · rcases List.mem_cons.1 hp with h | h
        · rw [h]; exact ha
        · exact k3 p h
theorem sheets_of_data {x : Rw} {u : Value} {ss : List Shv} {hi : Nat} {w : World} (h : x.data = (rwH u ss).data) (hr : x.ReadR hi w) : ∃ ss', ss'.map Prod.fst = ss.map Prod.fst ∧ ReadH hi w x.cell ss' := by
  cases x with
  | leaf v => rw [rwH, Rw.data, Rw.data] at h; cases h
  | sl v n k e cs =>
    rw [rwH, Rw.data, Rw.data] at h
    obtain ⟨rfl, hd⟩ := Dt.sl.inj h
    have hl : cs.length = ss.length := by have := congrArg List.length hd; rwa [dataL_len, dataL_len, shCells_len] at this
    rw [Rw.ReadR] at hr
    obtain ⟨⟨a, cap, rfl, h1, h2, h3, h4, h5⟩, hrl⟩ := hr
    obtain ⟨ss', k1, k2, k3⟩ := shCells_of hd hrl
    have hnl : ss'.length = ss.length := by have := congrArg List.length k1; simpa using this
    have hn : n = ss'.length := by omega
    subst hn
    refine ⟨ss', k1, ⟨a, cap, rfl, h2, h3, h4, ?_⟩, k3⟩
    rcases h5 with h5 | ⟨g, off, rfl, hg, hc⟩
    · exact Or.inl h5
    · refine Or.inr ⟨g, off, rfl, hg, fun j y hj i hi' => ?_⟩
      have hjl := (List.getElem?_eq_some_iff.1 hj).1
      obtain ⟨c, hcs⟩ : ∃ c, (cs.map Rw.cell)[j * 1 + i]? = some c := ⟨_, List.getElem?_eq_getElem (by rw [List.length_map]; omega)⟩
      rw [Nat.add_assoc, hc (j * 1 + i) c hcs, ← hcs, k2, flat_at encH_len hj hi']
/-- A sheet in such a slice. -/
theorem ReadH.sheet {hi n cap k : Nat} {w : World} {a : Option Addr} {ss : List Shv} {p : Shv} (h : ReadH hi w (.slice a n cap) ss) (hk : ss[k]? = some p) : ReadsK encU 2 hi w (sv p.2) p.1 := h.2 p (List.mem_of_getElem? hk)
theorem ReadH.at {hi n cap k : Nat} {w : World} {a : Option Addr} {ss : List Shv} {p : Shv} (h : ReadH hi w (.slice a n cap) ss) (hk : ss[k]? = some p) : ∃ g off, a = some ⟨g, off, none⟩ ∧ g < hi ∧ w.cell? ⟨g, off + k, none⟩ = some (sv p.2) := by
  obtain ⟨⟨a', c', e, _, _, _, hc⟩, _⟩ := h
  injection e with e1 e2 e3; subst e1
  rcases hc with h0 | ⟨g, off, rfl, hg, hc⟩
  · have := (List.getElem?_eq_some_iff.1 hk).1; omega
  · refine ⟨g, off, rfl, hg, ?_⟩
    have := hc k p hk 0 (by omega)
    rwa [Nat.mul_one] at this
theorem ReadH.form {hi : Nat} {w : World} {v : Value} {ss : List Shv} (h : ReadH hi w v ss) : ∃ a c, v = .slice a ss.length c ∧ ss.length ≤ c ∧ c ≤ 9223372036854775807 := by
  obtain ⟨⟨a, c, e, h1, h2, _⟩, _⟩ := h
  exact ⟨a, c, e, h1, h2⟩
/-- A rule in a slice of rules. -/
theorem ReadsK.rule {hi n cap k : Nat} {w : World} {a : Option Addr} {rs : List Ru} {r : Ru} (h : ReadsK encU 2 hi w (.slice a n cap) rs) (hk : rs[k]? = some r) : ∃ g off, a = some ⟨g, off, none⟩ ∧ g < hi ∧ w.cell? ⟨g, off + k * 2, none⟩ = some (.string r.1) ∧ w.cell? ⟨g, off + k * 2 + 1, none⟩ = some (.int .i64 r.2) := by
  obtain ⟨a', c', e, _, _, _, hc⟩ := h
  injection e with e1 e2 e3; subst e1
  rcases hc with h0 | ⟨g, off, rfl, hg, hc⟩
  · have := (List.getElem?_eq_some_iff.1 hk).1; omega
  · exact ⟨g, off, rfl, hg, hc k r hk 0 (by omega), hc k r hk 1 (by omega)⟩

/-- The rules of all sheets, in order. -/
def flatR (ss : List Shv) : List Ru := ss.flatMap Prod.fst
theorem flatR_take {ss : List Shv} {k : Nat} {p : Shv} (h : ss[k]? = some p) : flatR (ss.take (k + 1)) = flatR (ss.take k) ++ p.1 := by
  rw [flatR, List.take_add_one, h, List.flatMap_append]; simp [flatR]
theorem flatR_full {ss : List Shv} {k : Nat} (h : k = ss.length) : flatR (ss.take k) = flatR ss := by rw [h, List.take_length]
theorem flatR_of {ss us : List Shv} (h : ss.map Prod.fst = us.map Prod.fst) : flatR ss = flatR us := by
  rw [flatR, flatR, List.flatMap, List.flatMap, h]
/-- The color of the last rule for this name; 0 if there is none. -/
def colOf (rs : List Ru) (nm : ByteArray) : Int := rs.foldl (fun c r => if r.1 = nm then r.2 else c) 0
theorem colOf_nil (nm : ByteArray) : colOf [] nm = 0 := rfl
theorem colOf_snoc (rs : List Ru) (r : Ru) (nm : ByteArray) : colOf (rs ++ [r]) nm = if r.1 = nm then r.2 else colOf rs nm := by
  rw [colOf, List.foldl_append]; rfl
theorem take_snoc {α : Type} {xs : List α} {k : Nat} {x : α} (h : xs[k]? = some x) : xs.take (k + 1) = xs.take k ++ [x] := by
  rw [List.take_add_one, h]; rfl
/-- What a rule may be. -/
def RuOk (r : Ru) : Prop := r.1.size ≤ 9223372036854775807 ∧ -9223372036854775808 ≤ r.2 ∧ r.2 ≤ 9223372036854775807
theorem colF_range (nm : ByteArray) : ∀ (rs : List Ru) (c : Int), (-9223372036854775808 ≤ c ∧ c ≤ 9223372036854775807) → (∀ r ∈ rs, RuOk r) → -9223372036854775808 ≤ rs.foldl (fun c r => if r.1 = nm then r.2 else c) c ∧ rs.foldl (fun c r => if r.1 = nm then r.2 else c) c ≤ 9223372036854775807
  | [], _, hc, _ => hc
  | r :: rs, c, hc, h => by
    rw [List.foldl_cons]
    refine colF_range nm rs _ ?_ fun x hx => h x (List.mem_cons_of_mem _ hx)
    split
    · exact (h r List.mem_cons_self).2
    · exact hc
theorem colOf_range {rs : List Ru} {nm : ByteArray} (h : ∀ r ∈ rs, RuOk r) : -9223372036854775808 ≤ colOf rs nm ∧ colOf rs nm ≤ 9223372036854775807 :=
  colF_range nm rs 0 (by omega) h

/- PsI -/
open Go.ChangeShapes Go.WideShapes Go.ChangeAt Go.RowKit

/-- A rule out of a name and the form of a color. -/
def prsAB (a b : ByteArray) : Option Ru :=
  match numOf b.data.toList with
  | some k => if isNm a = true ∧ inB (k : Int) 1 999 = true then some (a, (k : Int)) else none
  | none => none
/-- A rule out of its form. -/
def prsR (s : ByteArray) : Option Ru :=
  if idxB 58 s.data.toList < s.size then prsAB (s.extract 0 (idxB 58 s.data.toList)) (s.extract (idxB 58 s.data.toList + 1) s.size) else none
def ruleV : Option Ru → Value
  | some r => .tuple #[.agg #[.string r.1, .int .i64 r.2], .bool true]
  | none => .tuple #[.agg #[.string ⟨#[]⟩, .int .i64 0], .bool false]
theorem bl_two {w w' : World} (h : Below w.heap.size w w') (u v : Value) : Below w.heap.size w ((w'.setCell ⟨w.heap.size, 0, none⟩ u).setCell ⟨w.heap.size, 1, none⟩ v) := (h.setCell (Nat.le_refl _) u).setCell (Nat.le_refl _) v
theorem numOf_nil : numOf [] = none := numOf_len (by simp)
theorem prsAB_empty (a : ByteArray) : prsAB a ⟨#[]⟩ = none := by
  unfold prsAB
  rw [show (⟨#[]⟩ : ByteArray).data.toList = [] from rfl, numOf_nil]

set_option maxHeartbeats 2000000 in
theorem rule_core (s a b : ByteArray) (f : Bool) (ha : a.size ≤ 281474976710656) (hb : b.size ≤ 281474976710656) (hcut : ∀ W, Calls Tryz.prog 117 #[.string s, .string ⟨#[58]⟩] W fun e w' => e = .returned (.tuple #[.string a, .string b, .bool f]) ∧ ∃ n, w' = W.drewN n)
    (w : World) (hL : Laid w) :
    Calls Tryz.prog 65 #[.string s] w fun e w' => e = .returned (ruleV (prsAB a b)) ∧ Below w.heap.size w w' := by
  obtain ⟨W0, hW0⟩ : ∃ W, w.alloc (.cells #[.string ⟨#[]⟩, .int .i64 0] 36) = W := ⟨_, rfl⟩
  have hb0 : Below w.heap.size w W0 := by rw [← hW0]; exact (Below.refl _ _).alloc (Nat.le_refl _) _
  have hx0 : W0.heap[w.heap.size]? = some (.cells #[.string ⟨#[]⟩, .int .i64 0] 36 (0, 0)) := by rw [← hW0]; exact (MapKept.heap_alloc w _).1
  have HB0 := Lib.hid hb0; have HX0 := Lib.hid hx0; have HW0 := Lib.hid hW0; have HL := Lib.hid (laid_on hL hb0); have HCUT := Lib.hid hcut
  have HPA := Lib.hid (rfl : prsAB a b = prsAB a b)
  clear hb0 hx0 hW0 hL hcut
  go_enter Tryz.func65, Tryz.ntmps65
  go_wp2_with fail
  rw [HW0.out]
  refine (HCUT.out _).mono ?_
  rintro e w1 ⟨rfl, n, rfl⟩
  have hbn : Below W0.heap.size W0 (W0.drewN n) := ((Grw.refl W0).drewN n).below
  have HB1 := Lib.hid (HB0.out.trans (hbn.mono HB0.out.size)); have HX1 := Lib.hid (below_heap hbn (heap_lt HX0.out) HX0.out); have HL1 := Lib.hid (laid_on HL.out hbn)
  clear hbn
  go_wp2_with fail
  refine (parse_impl b hb _ HL1.out).mono ?_
  rintro e w2 ⟨rfl, hb2⟩
  have HB2 := Lib.hid (HB1.out.trans (hb2.mono HB1.out.size)); have HX2 := Lib.hid (below_heap hb2 (heap_lt HX1.out) HX1.out)
  clear hb2
  have q0 := box_cell HX2.out (j := 0) rfl
  have q1 := box_cell HX2.out (j := 1) rfl
  have z0 := box_frz HX2.out 0
  have z1 := box_frz HX2.out 1
  cases hk : numOf b.data.toList with
  | none =>
    have HR := Lib.hid (show prsAB a b = none by unfold prsAB; rw [hk])
    have h1 := heap_one (o := 0) HX2.out (.string ⟨#[]⟩)
    replace h1 := heap_one (o := 1) h1 (.int .i64 0)
    have f0 := box_cell h1 (j := 0) rfl
    have f1 := box_cell h1 (j := 1) rfl
    have HB3 := Lib.hid (bl_two HB2.out (.string ⟨#[]⟩) (.int .i64 0))
    clear hk h1
    unfold parsed
    go_wp2_with fail
    refine bodyPost_ret (v := .tuple #[.agg #[.string ⟨#[]⟩, .int .i64 0], .bool false]) (by simp [results, Tryz.results65, go_sem, f0, f1]) rfl ?_
    exact ⟨by rw [HR.out]; rfl, HB3.out⟩
  | some k =>
    unfold parsed
    obtain ⟨x, hx⟩ : ∃ x, isNm a = x := ⟨_, rfl⟩
    obtain ⟨y, hy⟩ : ∃ y, inB (k : Int) 1 999 = y := ⟨_, rfl⟩
    have HNM := Lib.hid (fun W => show Calls Tryz.prog 119 #[.string a] W fun e w' => e = .returned (.bool x) ∧ W = w' from by rw [← hx]; exact nm_impl a (by omega) W)
    have HIN := Lib.hid (fun W => show Calls Tryz.prog 97 #[.int .i64 (k : Int), .int .i64 1, .int .i64 999] W fun e w' => e = .returned (.bool y) ∧ W = w' from by rw [← hy]; exact rin_any _ _ _ W)
    by_cases hxy : x = true ∧ y = true
    · obtain ⟨rfl, rfl⟩ := hxy
      have HR := Lib.hid (show prsAB a b = some (a, (k : Int)) by unfold prsAB; rw [hk]; exact if_pos ⟨hx, hy⟩)
      have h1 := heap_one (o := 0) HX2.out (.string a)
      replace h1 := heap_one (o := 1) h1 (.int .i64 (k : Int))
      have f0 := box_cell h1 (j := 0) rfl
      have f1 := box_cell h1 (j := 1) rfl
      have HB3 := Lib.hid (bl_two HB2.out (.string a) (.int .i64 (k : Int)))
      clear hk h1 hx hy
      go_wp2_with (first | (go_at_call 119; refine (HNM.out _).mono ?_; rintro e w' ⟨rfl, rfl⟩) | (go_at_call 97; refine (HIN.out _).mono ?_; rintro e w' ⟨rfl, rfl⟩))
      refine bodyPost_ret (v := .tuple #[.agg #[.string a, .int .i64 (k : Int)], .bool true]) (by simp [results, Tryz.results65, go_sem, f0, f1]) rfl ?_
      exact ⟨by rw [HR.out]; rfl, HB3.out⟩
    · have HR := Lib.hid (show prsAB a b = none by unfold prsAB; rw [hk]; exact if_neg (by rw [hx, hy]; exact hxy))
      have h1 := heap_one (o := 0) HX2.out (.string ⟨#[]⟩)
      replace h1 := heap_one (o := 1) h1 (.int .i64 0)
      have f0 := box_cell h1 (j := 0) rfl
      have f1 := box_cell h1 (j := 1) rfl
      have HB3 := Lib.hid (bl_two HB2.out (.string ⟨#[]⟩) (.int .i64 0))
      clear hk h1 hx hy
      cases x with
      | false =>
        clear hxy
        go_wp2_with (first | (go_at_call 119; refine (HNM.out _).mono ?_; rintro e w' ⟨rfl, rfl⟩) | (go_at_call 97; refine (HIN.out _).mono ?_; rintro e w' ⟨rfl, rfl⟩))
        refine bodyPost_ret (v := .tuple #[.agg #[.string ⟨#[]⟩, .int .i64 0], .bool false]) (by simp [results, Tryz.results65, go_sem, f0, f1]) rfl ?_
        exact ⟨by rw [HR.out]; rfl, HB3.out⟩
      | true =>
        obtain rfl : y = false := by cases y with | false => rfl | true => exact absurd ⟨rfl, rfl⟩ hxy
        clear hxy
        go_wp2_with (first | (go_at_call 119; refine (HNM.out _).mono ?_; rintro e w' ⟨rfl, rfl⟩) | (go_at_call 97; refine (HIN.out _).mono ?_; rintro e w' ⟨rfl, rfl⟩))
        refine bodyPost_ret (v := .tuple #[.agg #[.string ⟨#[]⟩, .int .i64 0], .bool false]) (by simp [results, Tryz.results65, go_sem, f0, f1]) rfl ?_
        exact ⟨by rw [HR.out]; rfl, HB3.out⟩

theorem rule_impl (s : ByteArray) (hs : s.size ≤ 4294967280) (w : World) (hL : Laid w) :
    Calls Tryz.prog 65 #[.string s] w fun e w' => e = .returned (ruleV (prsR s)) ∧ Below w.heap.size w w' := by
  by_cases h : idxB 58 s.data.toList < s.size
  · rw [prsR, if_pos h]
    refine rule_core s _ _ true ?_ ?_ (fun W => ?_) w hL
    · rw [ByteArray.size_extract]; omega
    · rw [ByteArray.size_extract]; omega
    · have hc := cutC_any 58 s (by omega) W
      unfold cutC at hc; rw [if_pos h] at hc; exact hc
  · rw [prsR, if_neg h, ← prsAB_empty s]
    refine rule_core s _ _ false (by omega) (by decide) (fun W => ?_) w hL
    have hc := cutC_any 58 s (by omega) W
    unfold cutC at hc; rw [if_neg h] at hc; exact hc

/- AppU -/
open Go.ChangeShapes Go.WideShapes Go.ChangeAt Go.RowKit

theorem grown_rfl (w : World) (r : Option Nat) : w.grownBy w r := ⟨rfl, rfl, rfl, Nat.le_refl _, fun _ _ _ => rfl⟩
theorem ReadsK.str {hi n cap k : Nat} {w : World} {a : Option Addr} {xs : List ByteArray} {s : ByteArray} (h : ReadsK encS 1 hi w (.slice a n cap) xs) (hk : xs[k]? = some s) : ∃ g off, a = some ⟨g, off, none⟩ ∧ g < hi ∧ w.cell? ⟨g, off + k, none⟩ = some (.string s) := by
  obtain ⟨a', c', e, _, _, _, hc⟩ := h
  injection e with e1 e2 e3; subst e1
  rcases hc with h0 | ⟨g, off, rfl, hg, hc⟩
  · have := (List.getElem?_eq_some_iff.1 hk).1; omega
  · refine ⟨g, off, rfl, hg, ?_⟩
    have := hc k s hk 0 (by omega)
    rwa [Nat.mul_one] at this
/-- append to rules of the call's own; what else is written is told. -/
theorem wpList_appUG {w : World} {ops : Array Oper} {rest : List Oper} {o : Oper} {a : Act} {Q : Exit → Act → World → Prop} (hgd : o.guard = none) (s x : Operand)
    (ho : o.op = .call { callee := .builtin .append, args := #[s, x], argTypes := #[25, 25] })
    (B : Nat) (w0 : World) (v : Value) (rs : List Ru) (hs : a.eval s = v) (hM : MineK encU 2 36 B w0 w v rs) (vx : Value) (top : Nat) (us : List Ru) (hx : a.eval x = vx) (hr : ReadsK encU 2 top w vx us)
    (hlen : rs.length + us.length ≤ 137438953472)
    (h : ∀ v' w', MineK encU 2 36 B w0 w' v' (rs ++ us) → w.grownBy w' v.ownBlock → wpList Tryz.prog ops Q rest (a.put o.dst v') w') : wpList Tryz.prog ops Q (o :: rest) a w := by
  obtain ⟨i, hi, hz, hsize, hby⟩ := info_parts infoRu
  obtain ⟨ad, cap, rfl, h1, h2, h3, h4⟩ := id hr
  cases ad with
  | none =>
    obtain ⟨rfl, _, rfl⟩ := hr.nil
    refine wpList_append_own_none hgd s x _ ho B _ i 2 Tryz.underlying25 hi v rs.length _ hs hM.row hx ?_
    exact h v w (by simpa using hM) (grown_rfl _ _)
  | some ad =>
    refine wpList_append_own _ hgd s x _ ho B _ i _ 2 24 Tryz.underlying25 hi hz hsize hby (by rfl) (by decide) v rs.length _ hs hM.row ad us.length cap (us.flatMap encU) hx (flat_len encU_len us) (hr.news encU_len) ?_ ?_ ?_ hM.size ?_
    · intro u hu
      obtain ⟨y, _, hy⟩ := List.mem_flatMap.1 hu
      exact encU_one y u hy
    · unfold maxLen; omega
    · omega
    · intro v' w' hown hgr _
      exact h v' w' (hM.grow hown hgr) hgr
theorem readsU_at (w : World) (H : Nat) (hH : w.heap.size = H) (nm : ByteArray) (c : Int) : ReadsK encU 2 (H + 1) (w.alloc (.cells #[.string nm, .int .i64 c] 36)) (.slice (some ⟨H, 0, none⟩) 1 1) [(nm, c)] := by
  subst hH; exact readsK_one2 encU 36 w (x := (nm, c)) rfl
theorem mineU_form {B : Nat} {w0 w : World} {v : Value} {rs : List Ru} (h : MineK encU 2 36 B w0 w v rs) : ∃ a c, v = .slice a rs.length c ∧ rs.length ≤ c ∧ c ≤ 9223372036854775807 := by
  obtain ⟨a, c, e, h1, h2, _⟩ := h.own.reads encU_len
  exact ⟨a, c, e, h1, h2⟩
/-- append of one rule to rules of the call's own, at a step of a region that draws its order. -/
theorem step_appUt {w : World} {ops : Array Oper} {o : Oper} {a : Act} {K : Act → World → Prop} {Q : Exit → Act → World → Prop} {E : Prop} (hgd : o.guard = none) (s x : Operand)
    (ho : o.op = .call { callee := .builtin .append, args := #[s, x], argTypes := #[25, 25] })
    (B : Nat) (w0 : World) (v : Value) (xs : List Ru) (hs : a.eval s = v) (hM : MineK encU 2 36 B w0 w v xs) (ad : Addr) (top : Nat) (y : Ru) (hx : a.eval x = .slice (some ad) 1 1) (hr : ReadsK encU 2 top w (.slice (some ad) 1 1) [y])
    (hlen : xs.length + 1 ≤ 137438953472)
    (h : ∀ v' w', MineK encU 2 36 B w0 w' v' (xs ++ [y]) → w.grownBy w' v.ownBlock → K (a.put o.dst v') w') :
    if Region.wanted o (yielded ops a.tmps) = true then Oper.wp Tryz.prog o a w K Q else E := by
  obtain ⟨i, hi, hz, hsize, hby⟩ := info_parts infoRu
  refine step_append_lies w hgd s x _ ho B _ i _ 2 24 Tryz.underlying25 hi hz hsize hby (by rfl) (by decide) v xs.length _ hs hM.row ad 1 1 ([y].flatMap encU) hx (flat_len encU_len [y]) (hr.news encU_len) ?_ (by omega) ?_ ?_ hM.size w.heap.size rfl ?_
  · intro u hu
    obtain ⟨z, _, hz⟩ := List.mem_flatMap.1 hu
    exact encU_one z u hz
  · unfold maxLen; omega
  · omega
  · intro g cap w' hown hgr _ _
    exact h _ w' (hM.grow (ys := [y]) hown hgr) hgr
theorem ru_ne : 36 ≠ 27 ∧ 36 ≠ 9 := by decide

/- PsJ -/
open Go.ChangeShapes Go.WideShapes Go.ChangeAt Go.RowKit

/-- The rules of a sheet's form. -/
def prsS (s : ByteArray) : List Ru := ((splS 59 s.data.toList).filterMap prsR).take 8
theorem filter_take {ps : List ByteArray} {j : Nat} {p : ByteArray} (h : ps[j]? = some p) : (ps.take (j + 1)).filterMap prsR = (ps.take j).filterMap prsR ++ (prsR p).toList := by
  rw [show ps.take (j + 1) = ps.take j ++ [p] by rw [List.take_add_one, h]; rfl, List.filterMap_append]
  cases hp : prsR p <;> simp [hp]
theorem piece_size {c : UInt8} {s p : ByteArray} (h : p ∈ splS c s.data.toList) : p.size ≤ s.size := by
  unfold splS at h
  obtain ⟨l, hl, rfl⟩ := List.mem_map.1 h
  have := splitB_piece hl
  rw [size_list] at this
  rw [ofL_size]; exact this
/-- What ParseSheet answers. -/
def SheetForm (rs : List Ru) (X : World) (e : Ending) (w' : World) : Prop :=
  ∃ a n c, e = .returned (.agg #[.slice a n c]) ∧ MineK encU 2 36 X.heap.size X w' (.slice a n c) rs
/-- What stands in the program's loop. -/
structure PI (w wr : World) (v : Value) (xs : List Ru) (lo : Nat) (kv : Value) (N : List ByteArray) : Prop where
  m : MineK encU 2 36 w.heap.size w wr v xs
  k : OwnK encS 1 9 lo wr.heap.size wr kv N
  x : wr.heap[w.heap.size]? = some (.cells #[.slice none 0 0] 27 (0, 0))
theorem PI.later {w wr w' : World} {v kv : Value} {xs : List Ru} {lo : Nat} {N : List ByteArray} (h : PI w wr v xs lo kv N) (hb : Below wr.heap.size wr w') : PI w w' v xs lo kv N :=
  ⟨h.m.later hb, (h.k.later hb).mono (Nat.le_refl _) hb.size, below_heap hb (heap_lt h.x) h.x⟩
theorem PI.app {w w1 w' : World} {v v' kv : Value} {xs xs' : List Ru} {lo : Nat} {N : List ByteArray} (h : PI w w1 v xs lo kv N) (hm : MineK encU 2 36 w.heap.size w w' v' xs') (hg : w1.grownBy w' v.ownBlock) : PI w w' v' xs' lo kv N := by
  refine ⟨hm, ⟨h.k.1.kept hg ?_, fun g hb => Nat.lt_of_lt_of_le (h.k.2 g hb) hg.size⟩, (hg.block _ (heap_lt h.x) (row_ne_box h.m.row h.x ru_ne.1)).trans h.x⟩
  cases hv : kv.ownBlock with
  | none => exact Or.inl rfl
  | some g =>
    right
    intro e
    exact rows_ne h.m.row h.k.1 ru_ne.2 e.symm hv

set_option maxRecDepth 100000 in
set_option maxHeartbeats 4000000 in
theorem psheet_impl (s : ByteArray) (hs : s.size ≤ 1048576) (w : World) (hL : Laid w) :
    Calls Tryz.prog 10 #[.string s] w (SheetForm (prsS s) w) := by
  obtain ⟨W0, hW0⟩ : ∃ W, (w.alloc (.cells #[.slice none 0 0] 27)).alloc (.cells #[] 36) = W := ⟨_, rfl⟩
  have hb1 : Below w.heap.size w (w.alloc (.cells #[.slice none 0 0] 27)) := (Below.refl _ _).alloc (Nat.le_refl _) _
  have hb2 : Below (w.alloc (.cells #[.slice none 0 0] 27)).heap.size (w.alloc (.cells #[.slice none 0 0] 27)) W0 := by rw [← hW0]; exact (Below.refl _ _).alloc (Nat.le_refl _) _
  have hb0 : Below w.heap.size w W0 := hb1.trans (hb2.mono (by rw [size_alloc]; omega))
  have hx0 : W0.heap[w.heap.size]? = some (.cells #[.slice none 0 0] 27 (0, 0)) := below_heap hb2 (by rw [size_alloc]; omega) (MapKept.heap_alloc w _).1
  have hm0 : MineK encU 2 36 w.heap.size w W0 (.slice (some ⟨w.heap.size + 1, 0, none⟩) 0 0) [] := by
    rw [← hW0, ← size_alloc w (.cells #[.slice none 0 0] 27)]
    exact MineK.empty encU 2 _ w _ _ hb1 (by rw [size_alloc]; omega)
  obtain ⟨ps, hps⟩ : ∃ ps, splS 59 s.data.toList = ps := ⟨_, rfl⟩
  have hpz : ∀ p ∈ ps, p.size ≤ 1048576 := fun p hp => by rw [← hps] at hp; exact Nat.le_trans (piece_size hp) hs
  have hpl : ps.length ≤ 1048577 := by have := splS_len 59 s.data.toList; rw [hps, size_list] at this; omega
  have HSP := Lib.hid (show Calls Tryz.prog 64 #[.string s, .string ⟨#[59]⟩] W0 (NewK encS 1 9 ps W0) from by rw [← hps]; exact split_any s 59 (by omega) W0)
  have hgoal : prsS s = (ps.filterMap prsR).take 8 := by rw [prsS, hps]
  rw [hgoal]
  have HX0 := Lib.hid hx0; have HM0 := Lib.hid hm0; have HB0 := Lib.hid hb0; have HW0 := Lib.hid hW0; have HL := Lib.hid (fun (X : World) (hb : Below w.heap.size w X) => laid_on hL hb); have HPZ := Lib.hid hpz
  clear hb1 hb2 hb0 hx0 hm0 hps hpz hgoal hW0 hL hs
  go_enter Tryz.func10, Tryz.ntmps10
  go_wp2_with fail
  rw [HW0.out]
  refine HSP.out.mono ?_
  rintro e W1 ⟨kv, rfl, hk, hb⟩
  have hP : PI w W1 (.slice (some ⟨w.heap.size + 1, 0, none⟩) 0 0) (((ps.take 0).filterMap prsR).take 8) W0.heap.size kv ps := ⟨HM0.out.later hb, hk, below_heap hb (heap_lt HX0.out) HX0.out⟩
  obtain ⟨ka, kc, rfl, hkc1, hkc2⟩ : ∃ a c, kv = .slice a ps.length c ∧ ps.length ≤ c ∧ c ≤ 9223372036854775807 := by
    obtain ⟨a, c, e, h1, h2, _⟩ := hk.reads encS_len
    exact ⟨a, c, e, h1, h2⟩
  obtain ⟨n, hn⟩ : ∃ n, ps.length = n := ⟨_, rfl⟩
  rw [hn] at hP hkc1 hpl ⊢
  have HN := Lib.hid hn; have HP := Lib.hid hP
  clear hn hP hk hb HM0 HX0 HSP
  go_wp2_with fail
  go_loopw [12, 3] (fun i q wr => ∃ (j : Nat) (xa : Option Addr) (xn xc : Nat), j ≤ n ∧ i = .int .i64 j ∧ q = .slice xa xn xc ∧ PI w wr (.slice xa xn xc) (((ps.take j).filterMap prsR).take 8) W0.heap.size (.slice ka n kc) ps)
    (fun i _ _ => n - (intOf i).toNat)
  case atStart => exact ⟨0, _, _, _, Nat.zero_le _, rfl, rfl, HP.out⟩
  case round =>
    obtain ⟨j, xa, xn, xc, hj, rfl, rfl, hP⟩ := hrel
    clear HP
    have HP := Lib.hid hP; clear hP
    by_cases hlt : (j : Int) < (n : Int)
    · obtain ⟨p, hpj⟩ : ∃ p, ps[j]? = some p := ⟨_, List.getElem?_eq_getElem (by rw [HN.out]; omega)⟩
      obtain ⟨g, off, rfl, hg, c0⟩ := (HP.out.k.reads encS_len).str hpj
      have HF := Lib.hid (filter_take hpj)
      have HRU := Lib.hid (rule_impl p (by have := HPZ.out p (List.mem_of_getElem? hpj); omega) wr (HL.out wr HP.out.m.below))
      obtain ⟨fs, hfs⟩ : ∃ fs, (ps.take j).filterMap prsR = fs := ⟨_, rfl⟩
      rw [hfs] at HF HP
      obtain ⟨ya, yc, hv, hx1, hx2⟩ := mineU_form HP.out.m
      injection hv with e1 e2 e3
      clear e1 e3 hfs
      have HXL := Lib.hid (show xn = min 8 fs.length by rw [e2, List.length_take])
      clear e2 hpj
      obtain ⟨r, hr⟩ : ∃ r, prsR p = r := ⟨_, rfl⟩
      rw [hr] at HRU HF
      clear hr
      cases r with
      | none =>
        have HF2 := Lib.hid (show (((ps.take (j + 1)).filterMap prsR).take 8) = fs.take 8 by rw [HF.out]; simp)
        unfold ruleV at HRU
        go_wp2_with (go_at_call 65; refine HRU.out.mono ?_; rintro e w2 ⟨rfl, hb2⟩)
        have HP2 := Lib.hid (HP.out.later (hb2.alloc hb2.size (.cells #[.string ⟨#[]⟩, .int .i64 0] 36)))
        clear hb2
        go_roundw
        case rel => exact ⟨j + 1, _, _, _, by omega, by go_num, rfl, by rw [HF2.out]; exact HP2.out⟩
        case measure => simp [intOf]; omega
      | some r =>
        obtain ⟨nm, c⟩ := r
        unfold ruleV at HRU
        go_wp2_with fail
        refine HRU.out.mono ?_
        rintro e w2 ⟨rfl, hb2⟩
        have HP2 := Lib.hid (HP.out.later hb2)
        have HP3 := Lib.hid (HP2.out.later ((Below.refl _ _).alloc (Nat.le_refl _) (.cells #[.string nm, .int .i64 c] 36)))
        clear hb2
        by_cases hfull : fs.length < 8
        · have hx8 : (xn : Int) < 8 := by have := HXL.out; omega
          have hx8d : decide ((xn : Int) < 8) = true := decide_eq_true hx8
          have HF2 := Lib.hid (show (((ps.take (j + 1)).filterMap prsR).take 8) = fs.take 8 ++ [(nm, c)] by
            rw [HF.out, Option.toList_some, List.take_of_length_le (show (fs ++ [(nm, c)]).length ≤ 8 by rw [List.length_append, List.length_singleton]; omega), List.take_of_length_le (by omega)])
          have HA := Lib.hid (HP3.out.later ((Below.refl _ _).alloc (Nat.le_refl _) (.cells #[.string nm, .int .i64 c] 36)))
          have HR := Lib.hid (readsU_at (w2.alloc (.cells #[.string nm, .int .i64 c] 36)) (w2.heap.size + 1) (size_alloc _ _) nm c)
          go_wp2_with (at_builtin; refine wpList_appUG rfl _ _ rfl w.heap.size w _ _ rfl HA.out.m _ _ [(nm, c)] rfl HR.out ?cl ?_)
          case cl => rw [List.length_take, List.length_singleton]; omega
          intro v' w' hm hgr
          obtain ⟨ya, yn, yc, rfl⟩ : ∃ a n c, v' = .slice a n c := by
            obtain ⟨a, c, e, _⟩ := mineU_form hm
            exact ⟨a, _, c, e⟩
          rw [← HF2.out] at hm
          have HP4 := Lib.hid (HA.out.app hm hgr)
          clear hm hgr
          go_wp2_with fail
          go_roundw
          case rel => exact ⟨j + 1, _, _, _, by omega, by go_num, rfl, HP4.out⟩
          case measure => simp [intOf]; omega
        · have hx8 : ¬ (xn : Int) < 8 := by have := HXL.out; omega
          have hx8d : decide ((xn : Int) < 8) = false := decide_eq_false hx8
          have HF2 := Lib.hid (show (((ps.take (j + 1)).filterMap prsR).take 8) = fs.take 8 by
            rw [HF.out, List.take_append_of_le_length (by omega)])
          go_wp2_with fail
          go_roundw
          case rel => exact ⟨j + 1, _, _, _, by omega, by go_num, rfl, by rw [HF2.out]; exact HP3.out⟩
          case measure => simp [intOf]; omega
    · have hjn : j = n := by omega
      subst hjn
      have hx := HP.out.x
      have q0 := box_cell hx (j := 0) rfl
      have z0 := box_frz hx 0
      have hq := heap_one (o := 0) hx (.slice xa xn xc)
      have qf := box_cell hq (j := 0) rfl
      have HM := Lib.hid (show MineK encU 2 36 w.heap.size w (wr.setCell ⟨w.heap.size, 0, none⟩ (.slice xa xn xc)) (.slice xa xn xc) ((ps.filterMap prsR).take 8) by
        have hm := HP.out.m
        rw [List.take_of_length_le (show ps.length ≤ j by rw [HN.out]; exact Nat.le_refl _)] at hm
        exact ⟨(ownK_setT hm.own hx ru_ne.1).1, hm.below.setCell (Nat.le_refl _) _, Nat.le_trans hm.size (size_set _ _ _)⟩)
      clear hx hq
      go_wp2_with fail
      refine bodyPost_ret (v := .agg #[.slice xa xn xc]) (by simp [results, Tryz.results10, go_sem, qf]) rfl ?_
      exact ⟨_, _, _, rfl, HM.out⟩

/- PsS -/
open Go.ChangeShapes Go.WideShapes Go.ChangeAt Go.RowKit

theorem prsR_two {p a b : ByteArray} (h : splS 58 p.data.toList = [a, b]) : prsR p = prsAB a b := by
  by_cases hi : idxB 58 p.data.toList < p.data.toList.length
  · have h1 := idx_split hi
    unfold splS at h
    rw [h1, List.map_cons] at h
    injection h with h2 h3
    have h4 : splitB 58 (p.data.toList.drop (idxB 58 p.data.toList + 1)) = [p.data.toList.drop (idxB 58 p.data.toList + 1)] := by
      cases hq : splitB 58 (p.data.toList.drop (idxB 58 p.data.toList + 1)) with
      | nil => rw [hq] at h3; simp at h3
      | cons x xs =>
        rw [hq] at h3
        have hx : xs = [] := by cases xs with | nil => rfl | cons y ys => simp at h3
        subst hx
        have hj := joinB_split 58 (p.data.toList.drop (idxB 58 p.data.toList + 1))
        rw [hq] at hj
        have : x = p.data.toList.drop (idxB 58 p.data.toList + 1) := hj
        rw [this]
    rw [h4, List.map_cons, List.map_nil] at h3
    injection h3 with h3 _
    have hi2 : idxB 58 p.data.toList < p.size := by rw [size_list] at hi; exact hi
    rw [prsR, if_pos hi2, extract_pre, extract_suf, h2, h3]
  · have h1 := idx_split_none hi
    unfold splS at h
    rw [h1] at h; simp at h
theorem prsR_other {p : ByteArray} (h : (splS 58 p.data.toList).length ≠ 2) : prsR p = none := by
  by_cases hi : idxB 58 p.data.toList < p.data.toList.length
  · have h1 := idx_split hi
    unfold splS at h
    rw [h1, List.length_map, List.length_cons] at h
    have hi2 : idxB 58 p.data.toList < p.size := by rw [size_list] at hi; exact hi
    rw [prsR, if_pos hi2, extract_pre, extract_suf]
    have h5 : numOf (p.data.toList.drop (idxB 58 p.data.toList + 1)) = none := by
      by_cases hj : idxB 58 (p.data.toList.drop (idxB 58 p.data.toList + 1)) < (p.data.toList.drop (idxB 58 p.data.toList + 1)).length
      · exact numOf_byte (idxB_at hj) (by decide)
      · rw [idx_split_none hj] at h; simp at h
    unfold prsAB
    rw [ofL_list, h5]
  · have hi2 : ¬ idxB 58 p.data.toList < p.size := by rw [size_list] at hi; exact hi
    rw [prsR, if_neg hi2]

/-- What stands in the model's loop. -/
structure PS (w wr : World) (v : Value) (xs : List Ru) (lo : Nat) (kv : Value) (N : List ByteArray) : Prop where
  b0 : wr.heap[w.heap.size]? = some (.cells #[.slice none 0 0] 27 (0, 0))
  b1 : wr.heap[w.heap.size + 1]? = some (.cells #[v] 27 (0, 0))
  m : MineK encU 2 36 w.heap.size w wr v xs
  k : OwnK encS 1 9 lo wr.heap.size wr kv N
theorem PS.later {w wr w' : World} {v kv : Value} {xs : List Ru} {lo : Nat} {N : List ByteArray} (h : PS w wr v xs lo kv N) (hb : Below wr.heap.size wr w') : PS w w' v xs lo kv N :=
  ⟨below_heap hb (heap_lt h.b0) h.b0, below_heap hb (heap_lt h.b1) h.b1, h.m.later hb, (h.k.later hb).mono (Nat.le_refl _) hb.size⟩
theorem sh_ne_str : 9 ≠ 27 := by decide
theorem PS.next {w w3 w4 : World} {v v' kv : Value} {xs xs' : List Ru} {lo : Nat} {N : List ByteArray} (h : PS w w3 v xs lo kv N) (hm : MineK encU 2 36 w.heap.size w w4 v' xs') (hg : w3.grownBy w4 v.ownBlock) : PS w (w4.setCell ⟨w.heap.size + 1, 0, none⟩ v') v' xs' lo kv N := by
  have h0 := (hg.block _ (heap_lt h.b0) (row_ne_box h.m.row h.b0 ru_ne.1)).trans h.b0
  have h1 := (hg.block _ (heap_lt h.b1) (row_ne_box h.m.row h.b1 ru_ne.1)).trans h.b1
  refine ⟨box_far h0 (by omega) _ _, heap_one (o := 0) h1 v', ⟨(ownK_setT hm.own h1 ru_ne.1).1, hm.below.setCell (Nat.le_succ _) _, Nat.le_trans hm.size (size_set _ _ _)⟩, ?_⟩
  have hk : OwnK encS 1 9 lo w4.heap.size w4 kv N := ⟨h.k.1.kept hg (by
    cases hv : kv.ownBlock with
    | none => exact Or.inl rfl
    | some g =>
      right
      intro e
      exact rows_ne h.m.row h.k.1 ru_ne.2 e.symm hv), fun g hb => Nat.lt_of_lt_of_le (h.k.2 g hb) hg.size⟩
  exact (ownK_setT hk h1 sh_ne_str).mono (Nat.le_refl _) (size_set _ _ _)

set_option maxRecDepth 100000 in
set_option maxHeartbeats 8000000 in
theorem psheet_spec (s : ByteArray) (hs : s.size ≤ 1048576) (w : World) :
    Calls Tryz.prog 12 #[.string s] w (SheetForm (prsS s) w) := by
  obtain ⟨W0, hW0⟩ : ∃ W, (w.alloc (.cells #[.slice none 0 0] 27)).alloc (.cells #[.slice none 0 0] 27) = W := ⟨_, rfl⟩
  have hb1 : Below w.heap.size w (w.alloc (.cells #[.slice none 0 0] 27)) := (Below.refl _ _).alloc (Nat.le_refl _) _
  have hb2 : Below (w.alloc (.cells #[.slice none 0 0] 27)).heap.size (w.alloc (.cells #[.slice none 0 0] 27)) W0 := by rw [← hW0]; exact (Below.refl _ _).alloc (Nat.le_refl _) _
  have hb0 : Below w.heap.size w W0 := hb1.trans (hb2.mono (by rw [size_alloc]; omega))
  have hx0 : W0.heap[w.heap.size]? = some (.cells #[.slice none 0 0] 27 (0, 0)) := below_heap hb2 (by rw [size_alloc]; omega) (MapKept.heap_alloc w _).1
  have hx1 : W0.heap[w.heap.size + 1]? = some (.cells #[.slice none 0 0] 27 (0, 0)) := by
    rw [← hW0, ← size_alloc w (.cells #[.slice none 0 0] 27)]; exact (MapKept.heap_alloc _ _).1
  obtain ⟨ps, hps⟩ : ∃ ps, splS 59 s.data.toList = ps := ⟨_, rfl⟩
  have hpz : ∀ p ∈ ps, p.size ≤ 1048576 := fun p hp => by rw [← hps] at hp; exact Nat.le_trans (piece_size hp) hs
  have hpl : ps.length ≤ 1048577 := by have := splS_len 59 s.data.toList; rw [hps, size_list] at this; omega
  have HSP := Lib.hid (show Calls Tryz.prog 68 #[.string s, .int .u8 59] W0 (NewK encS 1 9 ps W0) from by rw [← hps]; exact spl_spec s 59 (by omega) W0)
  have hgoal : prsS s = (ps.filterMap prsR).take 8 := by rw [prsS, hps]
  rw [hgoal]
  have HX0 := Lib.hid hx0; have HX1 := Lib.hid hx1; have HB0 := Lib.hid hb0; have HW0 := Lib.hid hW0; have HPZ := Lib.hid hpz
  clear hb1 hb2 hb0 hx0 hx1 hps hpz hgoal hW0 hs
  go_enter Tryz.func12, Tryz.ntmps12
  go_wp2_with fail
  rw [HW0.out]
  refine HSP.out.mono ?_
  rintro e W1 ⟨kv, rfl, hk, hb⟩
  have hP : PS w W1 (.slice none 0 0) ((ps.take 0).filterMap prsR) W0.heap.size kv ps := ⟨below_heap hb (heap_lt HX0.out) HX0.out, below_heap hb (heap_lt HX1.out) HX1.out, (MineK.nil encU 2 36 w W0 w.heap.size HB0.out HB0.out.size).later hb, hk⟩
  obtain ⟨ka, kc, rfl, hkc1, hkc2⟩ : ∃ a c, kv = .slice a ps.length c ∧ ps.length ≤ c ∧ c ≤ 9223372036854775807 := by
    obtain ⟨a, c, e, h1, h2, _⟩ := hk.reads encS_len
    exact ⟨a, c, e, h1, h2⟩
  obtain ⟨n, hn⟩ : ∃ n, ps.length = n := ⟨_, rfl⟩
  rw [hn] at hP hkc1 hpl ⊢
  have HN := Lib.hid hn; have HP := Lib.hid hP
  clear hn hP hk hb HX0 HX1 HSP
  go_wp2_with fail
  go_loopw [5] (fun i wr => ∃ (j : Nat) (xa : Option Addr) (xn xc : Nat), j ≤ n ∧ i = .int .i64 j ∧ PS w wr (.slice xa xn xc) ((ps.take j).filterMap prsR) W0.heap.size (.slice ka n kc) ps ∧ ((ps.take j).filterMap prsR).length ≤ 8)
    (fun i _ => n - (intOf i).toNat)
  case atStart => exact ⟨0, _, _, _, Nat.zero_le _, rfl, HP.out, Nat.zero_le _⟩
  case round =>
    obtain ⟨j, xa, xn, xc, hj, rfl, hP, h8⟩ := hrel
    clear HP
    have HP := Lib.hid hP; have H8 := Lib.hid h8; clear hP h8
    have q1 := box_cell HP.out.b1 (j := 0) rfl
    obtain ⟨ya, yc, hv, hx1, hx2⟩ := mineU_form HP.out.m
    injection hv with e1 e2 e3
    have HXL := Lib.hid e2
    clear e1 e2 e3 hx1 hx2
    have stop : ∀ {wx : World}, wx = wr → ((ps.filterMap prsR).take 8 = (ps.take j).filterMap prsR) → SheetForm ((ps.filterMap prsR).take 8) w (.returned (.agg #[.slice xa xn xc])) (wr.setCell ⟨w.heap.size, 0, none⟩ (.slice xa xn xc)) := fun _ hfin => by
      refine ⟨_, _, _, rfl, ?_⟩
      rw [hfin]
      exact ⟨(ownK_setT HP.out.m.own HP.out.b0 ru_ne.1).1, HP.out.m.below.setCell (Nat.le_refl _) _, Nat.le_trans HP.out.m.size (size_set _ _ _)⟩
    have STOP := Lib.hid (stop rfl); clear stop
    by_cases hlt : (j : Int) < (n : Int)
    · have hltd : decide ((j : Int) < (n : Int)) = true := decide_eq_true hlt
      by_cases h8 : ((ps.take j).filterMap prsR).length < 8
      · have hx8 : (xn : Int) < 8 := by have := HXL.out; omega
        have hx8d : decide ((xn : Int) < 8) = true := decide_eq_true hx8
        have H88 := Lib.hid h8; clear h8
        obtain ⟨p, hpj⟩ : ∃ p, ps[j]? = some p := ⟨_, List.getElem?_eq_getElem (by rw [HN.out]; omega)⟩
        obtain ⟨g, off, rfl, hg, c0⟩ := (HP.out.k.reads encS_len).str hpj
        have hpz := HPZ.out p (List.mem_of_getElem? hpj)
        have HF := Lib.hid (filter_take hpj)
        have hps2 := fun q (h : q ∈ splS 58 p.data.toList) => piece_size h
        have h2s := splS_len 58 p.data.toList
        rw [size_list] at h2s
        obtain ⟨us, hus⟩ : ∃ us, splS 58 p.data.toList = us := ⟨_, rfl⟩
        have HS2 := Lib.hid (show Calls Tryz.prog 68 #[.string p, .int .u8 58] wr (NewK encS 1 9 us wr) from by rw [← hus]; exact spl_spec p 58 (by omega) wr)
        have HP2 := Lib.hid (show ∀ a b, us = [a, b] → prsR p = prsAB a b from fun a b h => prsR_two (by rw [hus]; exact h))
        have HPO := Lib.hid (show us.length ≠ 2 → prsR p = none from fun h => prsR_other (by rw [hus]; exact h))
        rw [hus] at hps2 h2s
        have HPS := Lib.hid hps2
        clear hus hps2 hpj
        go_wp2_with fail
        refine HS2.out.mono ?_
        rintro e w2 ⟨uv, rfl, hu, hb2⟩
        have HPb := Lib.hid (HP.out.later hb2); have HU := Lib.hid hu
        obtain ⟨ua, uc, rfl, huc1, huc2⟩ : ∃ a c, uv = .slice a us.length c ∧ us.length ≤ c ∧ c ≤ 9223372036854775807 := by
          obtain ⟨a, c, e, h1, h2, _⟩ := hu.reads encS_len
          exact ⟨a, c, e, h1, h2⟩
        clear hb2 hu q1 c0
        by_cases hl2 : us.length = 2
        · obtain ⟨a, b, rfl⟩ : ∃ a b, us = [a, b] := by
            match us, hl2 with
            | [a, b], _ => exact ⟨a, b, rfl⟩
          have hlen : ([a, b] : List ByteArray).length = 2 := rfl
          rw [hlen] at HU huc1 ⊢
          have hq2 : ((2 : Int) != 2) = false := rfl
          have hza := HPS.out a (by simp); have hzb := HPS.out b (by simp)
          have HRB := Lib.hid (HP2.out a b rfl)
          obtain ⟨g2, off2, rfl, hg2, d0⟩ := (HU.out.reads encS_len).str (k := 0) (s := a) rfl
          obtain ⟨g3, off3, e3, _, d1⟩ := (HU.out.reads encS_len).str (k := 1) (s := b) rfl
          cases e3
          have d0' : w2.cell? ⟨g2, off2, none⟩ = some (.string a) := d0
          obtain ⟨x, hx⟩ : ∃ x, isNm a = x := ⟨_, rfl⟩
          have HNM := Lib.hid (fun W => show Calls Tryz.prog 69 #[.string a] W fun e w' => e = .returned (.bool x) ∧ W = w' from by rw [← hx]; exact nm_spec a (by omega) W)
          cases x with
          | false =>
            have HF2 := Lib.hid (show (ps.take (j + 1)).filterMap prsR = (ps.take j).filterMap prsR by
              have h1 : prsAB a b = none := by
                unfold prsAB
                split
                · rw [if_neg (by rw [hx]; simp)]
                · rfl
              rw [HF.out, HRB.out, h1]; simp)
            clear hx
            go_wp2_with (go_at_call 69; refine (HNM.out _).mono ?_; rintro e w' ⟨rfl, rfl⟩)
            go_roundw
            case rel => exact ⟨j + 1, _, _, _, by omega, by go_num, by rw [HF2.out]; exact HPb.out, by rw [HF2.out]; exact H8.out⟩
            case measure => simp [intOf]; omega
          | true =>
            have HPI := Lib.hid (parse_spec b (by omega) w2)
            cases hk : numOf b.data.toList with
            | none =>
              have HF2 := Lib.hid (show (ps.take (j + 1)).filterMap prsR = (ps.take j).filterMap prsR by
                have h1 : prsAB a b = none := by unfold prsAB; rw [hk]
                rw [HF.out, HRB.out, h1]; simp)
              rw [hk] at HPI
              unfold parsed at HPI
              clear hx hk
              go_wp2_with (first | (go_at_call 69; refine (HNM.out _).mono ?_; rintro e w' ⟨rfl, rfl⟩) | (go_at_call 70; refine HPI.out.mono ?_; rintro e w3 ⟨rfl, hb3⟩))
              have HPc := Lib.hid (HPb.out.later hb3); clear hb3
              go_roundw
              case rel => exact ⟨j + 1, _, _, _, by omega, by go_num, by rw [HF2.out]; exact HPc.out, by rw [HF2.out]; exact H8.out⟩
              case measure => simp [intOf]; omega
            | some k =>
              obtain ⟨y, hy⟩ : ∃ y, inB (k : Int) 1 999 = y := ⟨_, rfl⟩
              have HIN := Lib.hid (fun W => show Calls Tryz.prog 71 #[.int .i64 (k : Int), .int .i64 1, .int .i64 999] W fun e w' => e = .returned (.bool y) ∧ W = w' from by rw [← hy]; exact lin_any _ _ _ W)
              rw [hk] at HPI
              unfold parsed at HPI
              cases y with
              | false =>
                have HF2 := Lib.hid (show (ps.take (j + 1)).filterMap prsR = (ps.take j).filterMap prsR by
                  have h1 : prsAB a b = none := by unfold prsAB; rw [hk]; exact if_neg (by rw [hy]; simp)
                  rw [HF.out, HRB.out, h1]; simp)
                clear hx hk hy
                go_wp2_with (first | (go_at_call 69; refine (HNM.out _).mono ?_; rintro e w' ⟨rfl, rfl⟩) | (go_at_call 71; refine (HIN.out _).mono ?_; rintro e w' ⟨rfl, rfl⟩) | (go_at_call 70; refine HPI.out.mono ?_; rintro e w3 ⟨rfl, hb3⟩))
                have HPc := Lib.hid (HPb.out.later hb3); clear hb3
                go_roundw
                case rel => exact ⟨j + 1, _, _, _, by omega, by go_num, by rw [HF2.out]; exact HPc.out, by rw [HF2.out]; exact H8.out⟩
                case measure => simp [intOf]; omega
              | true =>
                have HF2 := Lib.hid (show (ps.take (j + 1)).filterMap prsR = (ps.take j).filterMap prsR ++ [(a, (k : Int))] by
                  have h1 : prsAB a b = some (a, (k : Int)) := by unfold prsAB; rw [hk]; exact if_pos ⟨hx, hy⟩
                  rw [HF.out, HRB.out, h1]; rfl)
                obtain ⟨fs, hfs⟩ : ∃ fs, (ps.take j).filterMap prsR = fs := ⟨_, rfl⟩
                rw [hfs] at HF2 HPb H88
                clear hx hk hy hfs
                go_wp2_with (first | (go_at_call 69; refine (HNM.out _).mono ?_; rintro e w' ⟨rfl, rfl⟩) | (go_at_call 71; refine (HIN.out _).mono ?_; rintro e w' ⟨rfl, rfl⟩) | (go_at_call 70; refine HPI.out.mono ?_; rintro e w3 ⟨rfl, hb3⟩; replace d0 := (hb3.cell (show g2 < w2.heap.size by omega)).trans d0'; have q3 := box_cell (HPb.out.later hb3).b1 (j := 0) rfl))
                have HPc := Lib.hid (HPb.out.later hb3)
                have hq3 : w.heap.size + 1 < w3.heap.size := heap_lt HPc.out.b1
                have q3a : (w3.alloc (.cells #[.string a, .int .i64 (k : Int)] 36)).cell? ⟨w.heap.size + 1, 0, none⟩ = some (.slice xa xn xc) := by rw [World.cell?_alloc_past _ _ _ hq3]; exact q3
                have HPd := Lib.hid (show PS w (w3.alloc (.cells #[.string a, .int .i64 (k : Int)] 36)).drew (.slice xa xn xc) fs W0.heap.size (.slice (some ⟨g, off, none⟩) n kc) ps from HPc.out.later ((Below.refl _ w3).alloc (Nat.le_refl _) _).drew)
                have HRO := Lib.hid (show ReadsK encU 2 (w3.heap.size + 1) (w3.alloc (.cells #[.string a, .int .i64 (k : Int)] 36)).drew (.slice (some ⟨w3.heap.size, 0, none⟩) 1 1) [(a, (k : Int))] from readsK_one2 encU _ w3 rfl)
                have HLA := Lib.hid (show fs.length + 1 ≤ 137438953472 by have := H88.out; omega)
                clear hb3
                go_wp2_with fail
                go_region_law (refine step_appUt (by rfl) (.tmp 52) (.tmp 58) (by rfl) w.heap.size w _ fs (by rfl) HPd.out.m ⟨w3.heap.size, 0, none⟩ (w3.heap.size + 1) (a, (k : Int)) (by rfl) HRO.out HLA.out ?_; intro v4 w4 hm4 hg4; obtain ⟨a4, n4, c4, rfl⟩ : ∃ a n c, v4 = .slice a n c := (by obtain ⟨a, c, e, _⟩ := mineU_form hm4; exact ⟨a, _, c, e⟩); have h41 := (hg4.block _ (heap_lt HPd.out.b1) (row_ne_box HPd.out.m.row HPd.out.b1 ru_ne.1)).trans HPd.out.b1; have y2 := box_cell h41 (j := 0) rfl; have y3 := box_frz h41 0)
                all_goals
                  have HP4 := Lib.hid (HPd.out.next hm4 hg4)
                  clear h41 y2 y3 hm4 hg4
                  go_wp2
                  go_roundw
                  case rel => exact ⟨j + 1, _, _, _, by omega, by go_num, by rw [HF2.out]; exact HP4.out, by rw [HF2.out, List.length_append, List.length_singleton]; have := H88.out; omega⟩
                  case measure => simp [intOf]; omega
        · have HF2 := Lib.hid (show (ps.take (j + 1)).filterMap prsR = (ps.take j).filterMap prsR by rw [HF.out, HPO.out hl2]; simp)
          obtain ⟨L2, hL2⟩ : ∃ L, us.length = L := ⟨_, rfl⟩
          rw [hL2] at hl2 huc1 ⊢
          have hq2 : ((L2 : Int) == 2) = false := beq_eq_false_iff_ne.2 (by omega)
          have hq3 : ((L2 : Int) != 2) = true := by rw [bne, hq2]; rfl
          clear hl2 hL2
          go_wp2_with fail
          go_roundw
          case rel => exact ⟨j + 1, _, _, _, by omega, by go_num, by rw [HF2.out]; exact HPb.out, by rw [HF2.out]; exact H8.out⟩
          case measure => simp [intOf]; omega
      · have hx8 : ¬ (xn : Int) < 8 := by have := HXL.out; omega
        have hx8d : decide ((xn : Int) < 8) = false := decide_eq_false hx8
        have HFIN := Lib.hid (show (ps.filterMap prsR).take 8 = (ps.take j).filterMap prsR by
          conv => lhs; rw [← List.take_append_drop j ps, List.filterMap_append]
          rw [List.take_append_of_le_length (by omega), List.take_of_length_le H8.out])
        have q0 := box_cell HP.out.b0 (j := 0) rfl
        have z0 := box_frz HP.out.b0 0
        have qf := box_cell (heap_one (o := 0) HP.out.b0 (.slice xa xn xc)) (j := 0) rfl
        clear h8
        go_wp2_with fail
        refine bodyPost_ret (v := .agg #[.slice xa xn xc]) (by simp [results, Tryz.results12, go_sem, qf]) rfl ?_
        exact STOP.out HFIN.out
    · have hltd : decide ((j : Int) < (n : Int)) = false := decide_eq_false hlt
      have HFIN := Lib.hid (show (ps.filterMap prsR).take 8 = (ps.take j).filterMap prsR by
        rw [List.take_of_length_le (show ps.length ≤ j by rw [HN.out]; omega), List.take_of_length_le (by have := H8.out; rw [List.take_of_length_le (show ps.length ≤ j by rw [HN.out]; omega)] at this; exact this)])
      have q0 := box_cell HP.out.b0 (j := 0) rfl
      have z0 := box_frz HP.out.b0 0
      have qf := box_cell (heap_one (o := 0) HP.out.b0 (.slice xa xn xc)) (j := 0) rfl
      go_wp2_with fail
      refine bodyPost_ret (v := .agg #[.slice xa xn xc]) (by simp [results, Tryz.results12, go_sem, qf]) rfl ?_
      exact STOP.out HFIN.out
end Go.Proofs.YtgcdfkpidcdicaaGreatDoor
