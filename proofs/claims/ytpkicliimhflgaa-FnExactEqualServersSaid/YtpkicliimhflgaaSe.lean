/- Files and servers in memory: what it means that a slice value reads as a list of them. Helper facts, no claim of its own. -/
import Derived.Test.YtpkicliimhflgaaDpSrv
import Derived.Test.YtpkicliimhflgaaFlat
import Derived.Test.YtpkicliimhflgaaTk
namespace Go.Proofs.Ytpkicliimhflgaa
open Go.ChangeShapes Go.WideShapes Go.ChangeAt Go.RowKit

/-- A response: its six fields. -/
structure Rv where
  st : Int
  kd : Int
  bo : ByteArray
  ag : Int
  sh : Bool
  po : ByteArray
deriving DecidableEq
/-- A file: its path and its response. -/
structure Fl where
  pa : ByteArray
  rv : Rv
deriving DecidableEq
def encF (f : Fl) : List Value := [.string f.pa, .int .i64 f.rv.st, .int .i64 f.rv.kd, .string f.rv.bo, .int .i64 f.rv.ag, .bool f.rv.sh, .string f.rv.po]
theorem encF_len (f : Fl) : (encF f).length = 7 := rfl
theorem encF_one (f : Fl) : ∀ u ∈ encF f, u.oneCell' = true := by
  intro u hu
  simp only [encF, List.mem_cons, List.mem_nil_iff, or_false] at hu
  rcases hu with rfl | rfl | rfl | rfl | rfl | rfl | rfl <;> rfl
theorem infoFl : (Try.prog.info? 49).map (fun i => (i.zero, i.size, i.bytes)) = some (some (.agg #[.string ⟨#[]⟩, .int .i64 0, .int .i64 0, .string ⟨#[]⟩, .int .i64 0, .bool false, .string ⟨#[]⟩]), 7, 80) := by kernel_rfl
theorem infoSe : (Try.prog.info? 47).map (fun i => (i.zero, i.size, i.bytes)) = some (some (.agg #[.string ⟨#[]⟩, .slice none 0 0]), 2, 40) := by kernel_rfl
theorem fl_at {xs : List Fl} {j : Nat} (h : j < xs.length) : ∃ p s k b a c o, xs[j]? = some ⟨p, ⟨s, k, b, a, c, o⟩⟩ := ⟨_, _, _, _, _, _, _, List.getElem?_eq_getElem h⟩
/-- A slice of files. -/
def rwF (v : Value) (fs : List Fl) : Rw := rwP encF 7 49 v fs
theorem rwF_cell (v : Value) (fs : List Fl) : (rwF v fs).cell = v := rfl
theorem rwF_blocks (v : Value) (fs : List Fl) : (rwF v fs).blocks = v.ownBlock.toList := rwP_blocks _ _ _
theorem rwF_is (v : Value) (fs : List Fl) : IsFileS (rwF v fs) :=
  ⟨v, fs.length, _, lfCells encF fs, rfl, fun j hj => by
    obtain ⟨p, s, k, b, a, c, o, h⟩ := fl_at hj
    exact ⟨p, s, k, b, a, c, o, lf_at encF_len h (i := 0) (by decide) rfl, lf_at encF_len h (i := 1) (by decide) rfl, lf_at encF_len h (i := 2) (by decide) rfl, lf_at encF_len h (i := 3) (by decide) rfl, lf_at encF_len h (i := 4) (by decide) rfl, lf_at encF_len h (i := 5) (by decide) rfl, lf_at encF_len h (i := 6) (by decide) rfl⟩⟩
theorem rwF_own {lo hi : Nat} {w : World} {v : Value} {fs : List Fl} (h : OwnK encF 7 49 lo hi w v fs) : (rwF v fs).OwnR lo hi w := rwP_own encF_one h
theorem rwF_reads {hi : Nat} {w : World} {v : Value} {fs : List Fl} (h : ReadsK encF 7 hi w v fs) : (rwF v fs).ReadR hi w := rwP_reads encF_len encF_one _ h
theorem rwF_data (v u : Value) (fs : List Fl) : (rwF v fs).data = (rwF u fs).data := rwP_data _ _ _ _ _
theorem files_of_data {x : Rw} {u : Value} {fs : List Fl} {hi : Nat} {w : World} (h : x.data = (rwF u fs).data) (hr : x.ReadR hi w) : ReadsK encF 7 hi w x.cell fs := rowP_of_data encF_len h hr (by decide)
/-- The cells of a file in a slice of files. -/
theorem ReadsK.file {hi n cap k : Nat} {w : World} {a : Option Addr} {fs : List Fl} {f : Fl} (h : ReadsK encF 7 hi w (.slice a n cap) fs) (hk : fs[k]? = some f) : ∃ g off, a = some ⟨g, off, none⟩ ∧ g < hi ∧ w.cell? ⟨g, off + k * 7, none⟩ = some (.string f.pa) ∧ w.cell? ⟨g, off + k * 7 + 1, none⟩ = some (.int .i64 f.rv.st) ∧ w.cell? ⟨g, off + k * 7 + 2, none⟩ = some (.int .i64 f.rv.kd) ∧ w.cell? ⟨g, off + k * 7 + 3, none⟩ = some (.string f.rv.bo) ∧ w.cell? ⟨g, off + k * 7 + 4, none⟩ = some (.int .i64 f.rv.ag) ∧ w.cell? ⟨g, off + k * 7 + 5, none⟩ = some (.bool f.rv.sh) ∧ w.cell? ⟨g, off + k * 7 + 6, none⟩ = some (.string f.rv.po) := by
  obtain ⟨g, off, e, hg, hc⟩ := h.cells hk
  exact ⟨g, off, e, hg, hc 0 (by decide), hc 1 (by decide), hc 2 (by decide), hc 3 (by decide), hc 4 (by decide), hc 5 (by decide), hc 6 (by decide)⟩
theorem ReadsK.formF {hi : Nat} {w : World} {v : Value} {fs : List Fl} (h : ReadsK encF 7 hi w v fs) : ∃ a c, v = .slice a fs.length c ∧ fs.length ≤ c ∧ c ≤ 9223372036854775807 := by
  obtain ⟨a, c, e, h1, h2, _⟩ := h
  exact ⟨a, c, e, h1, h2⟩

/-- A server: its host and its files, and where they lie. -/
abbrev Se := (ByteArray × List Fl) × Sv
def encG (p : Se) : List Value := [.string p.1.1, sv p.2]
theorem encG_len (p : Se) : (encG p).length = 2 := rfl
theorem encG_one (p : Se) : ∀ u ∈ encG p, u.oneCell' = true := by
  intro u hu
  simp only [encG, List.mem_cons, List.mem_nil_iff, or_false] at hu
  rcases hu with rfl | rfl <;> rfl
def seCells : List Se → List Rw
  | [] => []
  | p :: ss => .leaf (.string p.1.1) :: rwF (sv p.2) p.1.2 :: seCells ss
/-- A slice of servers. -/
def rwV (v : Value) (ss : List Se) : Rw := .sl v ss.length 2 47 (seCells ss)
theorem rwV_cell (v : Value) (ss : List Se) : (rwV v ss).cell = v := rfl
theorem seCells_map : ∀ ss : List Se, (seCells ss).map Rw.cell = ss.flatMap encG
  | [] => rfl
  | p :: ss => by rw [seCells, List.map_cons, List.map_cons, seCells_map ss, List.flatMap_cons]; rfl
theorem seCells_len : ∀ ss : List Se, (seCells ss).length = ss.length * 2
  | [] => rfl
  | p :: ss => by rw [seCells, List.length_cons, List.length_cons, seCells_len ss, List.length_cons]; omega
theorem seCells_at : ∀ {ss : List Se} {j : Nat} {p : Se}, ss[j]? = some p → (seCells ss)[j * 2]? = some (.leaf (.string p.1.1)) ∧ (seCells ss)[j * 2 + 1]? = some (rwF (sv p.2) p.1.2)
  | [], j, p, h => by simp at h
  | q :: ss, 0, p, h => by
    have : q = p := by simpa using h
    subst this; exact ⟨rfl, rfl⟩
  | q :: ss, j + 1, p, h => by
    have ih := seCells_at (ss := ss) (j := j) (by simpa using h)
    rw [show (j + 1) * 2 = j * 2 + 1 + 1 by omega, seCells]
    simpa using ih
theorem seCells_mem : ∀ {ss : List Se}, ∀ c ∈ seCells ss, ∃ p ∈ ss, c = .leaf (.string p.1.1) ∨ c = rwF (sv p.2) p.1.2
  | [], c, h => by cases h
  | p :: ss, c, h => by
    rw [seCells] at h
    rcases List.mem_cons.1 h with h | h
    · exact ⟨p, List.mem_cons_self, Or.inl h⟩
    rcases List.mem_cons.1 h with h | h
    · exact ⟨p, List.mem_cons_self, Or.inr h⟩
    · obtain ⟨q, hq, e⟩ := seCells_mem c h
      exact ⟨q, List.mem_cons_of_mem _ hq, e⟩
theorem se_at {ss : List Se} {j : Nat} (h : j < ss.length) : ∃ p, ss[j]? = some p := ⟨_, List.getElem?_eq_getElem h⟩
theorem rwV_is (v : Value) (ss : List Se) : IsServerS (rwV v ss) :=
  ⟨v, ss.length, _, seCells ss, rfl, fun j hj => by
    obtain ⟨p, h⟩ := se_at hj
    exact ⟨_, _, (seCells_at h).1, (seCells_at h).2, rwF_is _ _⟩⟩
theorem seCells_data : ∀ {ss us : List Se}, ss.map Prod.fst = us.map Prod.fst → dataL (seCells ss) = dataL (seCells us)
  | [], [], _ => rfl
  | [], u :: us, h => by simp at h
  | t :: ss, [], h => by simp at h
  | t :: ss, u :: us, h => by
    rw [List.map_cons, List.map_cons] at h
    obtain ⟨h1, h2⟩ := List.cons.inj h
    rw [seCells, seCells, dataL, dataL, dataL, dataL, seCells_data h2, h1, rwF_data (sv t.2) (sv u.2)]
theorem rwV_data (v u : Value) {ss us : List Se} (h : ss.map Prod.fst = us.map Prod.fst) : (rwV v ss).data = (rwV u us).data := by
  rw [rwV, rwV, Rw.data, Rw.data, seCells_data h]
/-- A slice of servers, whole. -/
def ReadV (hi : Nat) (w : World) (v : Value) (ss : List Se) : Prop := ReadsK encG 2 hi w v ss ∧ ∀ p ∈ ss, ReadsK encF 7 hi w (sv p.2) p.1.2
theorem ReadV.below {hi B : Nat} {w w' : World} {v : Value} {ss : List Se} (h : ReadV hi w v ss) (hb : Below B w w') (hB : hi ≤ B) : ReadV hi w' v ss :=
  ⟨h.1.below hb hB, fun p hp => (h.2 p hp).below hb hB⟩
theorem ReadV.mono {hi hi' : Nat} {w : World} {v : Value} {ss : List Se} (h : ReadV hi w v ss) (hh : hi ≤ hi') : ReadV hi' w v ss :=
  ⟨h.1.mono hh, fun p hp => (h.2 p hp).mono hh⟩
theorem ReadV.up {w w' : World} {v : Value} {ss : List Se} (h : ReadV w.heap.size w v ss) (hb : Below w.heap.size w w') : ReadV w'.heap.size w' v ss :=
  (h.below hb (Nat.le_refl _)).mono hb.size
theorem rwV_reads {hi : Nat} {w : World} {v : Value} {ss : List Se} (h : ReadV hi w v ss) : (rwV v ss).ReadR hi w := by
  rw [rwV, Rw.ReadR]
  have h0 := h.1
  obtain ⟨⟨a, cap, rfl, h1, h2, h3, h4⟩, hin⟩ := h
  refine ⟨⟨a, cap, rfl, seCells_len ss, h1, h2, h3, ?_⟩, readRL_iff.2 fun c hc => ?_⟩
  · rcases h4 with h4 | ⟨g, off, rfl, hg, hc⟩
    · exact Or.inl h4
    · refine Or.inr ⟨g, off, rfl, hg, fun j c hj => ?_⟩
      rw [seCells_map] at hj
      have := h0.news encG_len j c hj
      rwa [add_off] at this
  · obtain ⟨p, hp, rfl | rfl⟩ := seCells_mem c hc
    · rw [Rw.ReadR]; rfl
    · exact rwF_reads (hin p hp)
theorem seCells_of {hi : Nat} {w : World} : ∀ {ss : List Se} {cs : List Rw}, dataL cs = dataL (seCells ss) → ReadRL hi w cs →
    ∃ ss' : List Se, ss'.map Prod.fst = ss.map Prod.fst ∧ cs.map Rw.cell = ss'.flatMap encG ∧ ∀ p ∈ ss', ReadsK encF 7 hi w (sv p.2) p.1.2
  | [], cs, h, _ => by
    cases cs with
    | nil => exact ⟨[], rfl, rfl, fun p hp => by cases hp⟩
    | cons c cs => rw [seCells, dataL, dataL] at h; cases h
  | q :: ss, cs, h, hr => by
    rw [seCells] at h
    rcases cs with _ | ⟨c0, _ | ⟨c1, cs⟩⟩
    · simp [dataL] at h
    · simp [dataL] at h
    · simp only [dataL, List.cons.injEq] at h
      obtain ⟨h0, h1, h2⟩ := h
      have hr' := readRL_iff.1 hr
      obtain ⟨ss', k1, k2, k3⟩ := seCells_of (ss := ss) (cs := cs) h2 (readRL_iff.2 fun c hc => hr' c (by simp [hc]))
      have ha := files_of_data h1 (hr' c1 (by simp))
      have e0 := leaf_of_data h0
      obtain ⟨s, hs⟩ : ∃ s : Sv, c1.cell = sv s := by
        obtain ⟨a, cap, e, _⟩ := ha
        exact ⟨(a, _, cap), e⟩
      rw [hs] at ha
      refine ⟨(q.1, s) :: ss', by rw [List.map_cons, List.map_cons, k1], ?_, fun p hp => ?_⟩
      · rw [List.map_cons, List.map_cons, k2, List.flatMap_cons, hs, e0]; rfl
      · rcases List.mem_cons.1 hp with h | h
        · rw [h]; exact ha
        · exact k3 p h
theorem servers_of_data {x : Rw} {u : Value} {ss : List Se} {hi : Nat} {w : World} (h : x.data = (rwV u ss).data) (hr : x.ReadR hi w) : ∃ ss', ss'.map Prod.fst = ss.map Prod.fst ∧ ReadV hi w x.cell ss' := by
  cases x with
  | leaf v => rw [rwV, Rw.data, Rw.data] at h; cases h
  | sl v n k e cs =>
    rw [rwV, Rw.data, Rw.data] at h
    obtain ⟨rfl, hd⟩ := Dt.sl.inj h
    have hl : cs.length = ss.length * 2 := by have := congrArg List.length hd; rwa [dataL_len, dataL_len, seCells_len] at this
    rw [Rw.ReadR] at hr
    obtain ⟨⟨a, cap, rfl, h1, h2, h3, h4, h5⟩, hrl⟩ := hr
    obtain ⟨ss', k1, k2, k3⟩ := seCells_of hd hrl
    have hnl : ss'.length = ss.length := by have := congrArg List.length k1; simpa using this
    have hn : n = ss'.length := by omega
    subst hn
    refine ⟨ss', k1, ⟨a, cap, rfl, h2, h3, h4, ?_⟩, k3⟩
    rcases h5 with h5 | ⟨g, off, rfl, hg, hc⟩
    · exact Or.inl h5
    · refine Or.inr ⟨g, off, rfl, hg, fun j y hj i hi' => ?_⟩
      have hjl := (List.getElem?_eq_some_iff.1 hj).1
      obtain ⟨c, hcs⟩ : ∃ c, (cs.map Rw.cell)[j * 2 + i]? = some c := ⟨_, List.getElem?_eq_getElem (by rw [List.length_map]; omega)⟩
      rw [Nat.add_assoc, hc (j * 2 + i) c hcs, ← hcs, k2, flat_at encG_len hj hi']
/-- The files of a server in such a slice. -/
theorem ReadV.files {hi n cap k : Nat} {w : World} {a : Option Addr} {ss : List Se} {p : Se} (h : ReadV hi w (.slice a n cap) ss) (hk : ss[k]? = some p) : ReadsK encF 7 hi w (sv p.2) p.1.2 := h.2 p (List.mem_of_getElem? hk)
theorem ReadV.at {hi n cap k : Nat} {w : World} {a : Option Addr} {ss : List Se} {p : Se} (h : ReadV hi w (.slice a n cap) ss) (hk : ss[k]? = some p) : ∃ g off, a = some ⟨g, off, none⟩ ∧ g < hi ∧ w.cell? ⟨g, off + k * 2, none⟩ = some (.string p.1.1) ∧ w.cell? ⟨g, off + k * 2 + 1, none⟩ = some (sv p.2) := by
  obtain ⟨⟨a', c', e, _, _, _, hc⟩, _⟩ := h
  injection e with e1 e2 e3; subst e1
  rcases hc with h0 | ⟨g, off, rfl, hg, hc⟩
  · have := (List.getElem?_eq_some_iff.1 hk).1; omega
  · exact ⟨g, off, rfl, hg, hc k p hk 0 (by omega), hc k p hk 1 (by omega)⟩
theorem ReadV.form {hi : Nat} {w : World} {v : Value} {ss : List Se} (h : ReadV hi w v ss) : ∃ a c, v = .slice a ss.length c ∧ ss.length ≤ c ∧ c ≤ 9223372036854775807 := by
  obtain ⟨⟨a, c, e, h1, h2, _⟩, _⟩ := h
  exact ⟨a, c, e, h1, h2⟩
/-- What a file may be. -/
def FlOk (f : Fl) : Prop := f.pa.size ≤ 9223372036854775807 ∧ f.rv.bo.size ≤ 9223372036854775807 ∧ f.rv.po.size ≤ 9223372036854775807
/-- A file of few letters. -/
def FlFew (f : Fl) : Prop := f.pa.size ≤ 1048576 ∧ f.rv.bo.size ≤ 1048576 ∧ f.rv.po.size ≤ 1048576
theorem rwF_small {v : Value} {fs : List Fl} (h : ∀ f ∈ fs, FlOk f) : (rwF v fs).Small := rwP_small fun f hf u hu => by
  obtain ⟨h1, h2, h3⟩ := h f hf
  simp only [encF, List.mem_cons, List.mem_nil_iff, or_false] at hu
  rcases hu with rfl | rfl | rfl | rfl | rfl | rfl | rfl <;> first | exact h1 | exact h2 | exact h3 | exact Nat.zero_le _
/-- Servers of few letters, few files. -/
structure SsOk (ss : List Se) : Prop where
  len : ss.length ≤ 1048576
  host : ∀ p ∈ ss, p.1.1.size ≤ 1048576
  few : ∀ p ∈ ss, p.1.2.length ≤ 1048576
  file : ∀ p ∈ ss, ∀ f ∈ p.1.2, FlFew f
theorem flFew_of {v : Value} {fs : List Fl} (h : (rwF v fs).weight ≤ 1048576) : fs.length ≤ 1048576 ∧ ∀ f ∈ fs, FlFew f := by
  refine ⟨Nat.le_trans (rwP_weight _ _ _) h, fun f hf => ⟨Nat.le_trans (rwP_str hf (s := f.pa) (by simp [encF])) h, Nat.le_trans (rwP_str hf (s := f.rv.bo) (by simp [encF])) h, Nat.le_trans (rwP_str hf (s := f.rv.po) (by simp [encF])) h⟩⟩
theorem ssOk_of {v : Value} {ss : List Se} (h : (rwV v ss).weight ≤ 1048576) : SsOk ss := by
  rw [rwV, Rw.weight] at h
  have hm : ∀ c ∈ seCells ss, c.weight ≤ 1048576 := fun c hc => by have := weight_mem hc; omega
  have hl : ∀ p ∈ ss, Rw.leaf (.string p.1.1) ∈ seCells ss ∧ rwF (sv p.2) p.1.2 ∈ seCells ss := fun p hp => by
    obtain ⟨i, hi⟩ := List.mem_iff_getElem?.1 hp
    exact ⟨List.mem_of_getElem? (seCells_at hi).1, List.mem_of_getElem? (seCells_at hi).2⟩
  refine ⟨by omega, fun p hp => ?_, fun p hp => (flFew_of (hm _ (hl p hp).2)).1, fun p hp => (flFew_of (hm _ (hl p hp).2)).2⟩
  have := hm _ (hl p hp).1
  rw [Rw.weight] at this; exact this
theorem SsOk.of {ss us : List Se} (h : SsOk ss) (e : us.map Prod.fst = ss.map Prod.fst) : SsOk us := by
  have hl : us.length = ss.length := by have := congrArg List.length e; simpa using this
  have hm : ∀ p ∈ us, ∃ q ∈ ss, q.1 = p.1 := fun p hp => by
    have hm : p.1 ∈ ss.map Prod.fst := by rw [← e]; exact List.mem_map_of_mem hp
    obtain ⟨q, hq, e2⟩ := List.mem_map.1 hm
    exact ⟨q, hq, e2⟩
  refine ⟨by rw [hl]; exact h.len, fun p hp => ?_, fun p hp => ?_, fun p hp => ?_⟩
  · obtain ⟨q, hq, e2⟩ := hm p hp; rw [← e2]; exact h.host q hq
  · obtain ⟨q, hq, e2⟩ := hm p hp; rw [← e2]; exact h.few q hq
  · obtain ⟨q, hq, e2⟩ := hm p hp; rw [← e2]; exact h.file q hq
/-- Servers that came in. -/
def SvOk (p : Se) : Prop := p.1.1.size ≤ 9223372036854775807 ∧ ∀ f ∈ p.1.2, FlOk f
theorem rwV_small {v : Value} {ss : List Se} (h : ∀ p ∈ ss, SvOk p) : (rwV v ss).Small := by
  rw [rwV, Rw.Small]
  refine smallL_iff.2 fun c hc => ?_
  obtain ⟨p, hp, rfl | rfl⟩ := seCells_mem c hc
  · rw [Rw.Small]; exact (h p hp).1
  · exact rwF_small (h p hp).2
theorem rwF_count (v : Value) (fs : List Fl) : (rwF v fs).count = fs.length * 7 := rwP_count encF_len _ _ _
end Go.Proofs.Ytpkicliimhflgaa
