/- Files and servers in memory: what it means that a slice value reads as a list of them. Helper facts, no claim of its own. Chapter 12 as plain functions: the first file of a path, the first server of a host, the answer to an address. Helper facts, no claim of its own. Helper contracts: the model's own division of a text, and its search for a byte. Asked: the string is shorter than 2^40 bytes. Append of attributes to a slice of the call's own. Helper facts, no claim of its own. Helper contracts: FindAttr of the program and of the model answer alike. Asked: the slice reads as the list named. Helper contracts: IsValue of the program and of the model answer alike. Asked: the string is shorter than 2^63 bytes. Helper facts for the walks over tags: a struct of four cells in a block, append of one attribute at a step of a drawn region, and what TagOf answers, in plain words. No claim of its own. Cells read in a row: what an argument's memory holds. Helper facts, no claim of its own. What a tokenizer, a token, and a slice of attributes, that came in is, for the walks. Helper facts, no claim of its own. Helper contracts over the functions with which the laws draw their inputs out of bytes: whatever the bytes, what is drawn is in range, and of what lay in memory before only the reader's own block is written. What an argument that came in is, for the walks: an int in its range, a string within reach, a slice of integers whose cells are known. Helper facts, no claim of its own. What a slice argument that came in reads as, for the walks: the list of its elements. Helper facts, no claim of its own. Helper contracts over the functions with which the laws copy, compare, measure and mark slices, by program (deep.py). Asked: what lies in memory is as named. Helper contracts over the functions with which the laws copy, compare, measure and mark slices, by program (deep.py). Asked: what lies in memory is as named. Style rules and sheets in memory: what it means that a slice value reads as a list of them. Helper facts, no claim of its own. What a sheet, and a slice of sheets, that came in is, for the walks. Helper facts, no claim of its own. What a request that came in is; a struct by value, opened field by field (fields of any number of cells). Helper facts, no claim of its own. -/
import Derived.Test.YtpkicliimhflgaaDoorMg3
import Derived.Test.YtpkicliimhflgaaDoorMg1
import Derived.Deep.AppendLies
import Derived.Deep.RegionLaw
import Derived.Deep.RegionWith
import Derived.Test.YtpkicliimhflgaaDoorMg2
import Derived.Lib.SmallJoins
import Derived.Deep.Slices
import Derived.ShutString
import Derived.ChangeOld
import Derived.Carry
import Derived.Test.YtpkicliimhflgaaDoorRows
import Derived.WalkKit
import Derived.ProofKit
import Derived.OpenShut
import Derived.LoopTactic
import Derived.Lib.Hide
import Derived.Below
import Derived.Laws.Rows
import Derived.Laws.BitsLemmas
import Derived.Deep.QuietTactic
import Derived.BigQuiet
import Derived.SizedLaws
import Derived.Shelf.SlSortCmp.QuietGrown
import Derived.Deep.Fields
namespace Go.Proofs.YtpkicliimhflgaaDoor

open Go.ChangeShapes Go.WideShapes Go.ChangeAt Go.RowKit

/-- A response: its six fields. -/
structure Rv where
  st : Int
  kd : Int
  bo : ByteArray
  ag : Int
  sh : Bool
  po : ByteArray
deriving DecidableEq
/-- A file: its path and its response. -/
structure Fl where
  pa : ByteArray
  rv : Rv
deriving DecidableEq
def encF (f : Fl) : List Value := [.string f.pa, .int .i64 f.rv.st, .int .i64 f.rv.kd, .string f.rv.bo, .int .i64 f.rv.ag, .bool f.rv.sh, .string f.rv.po]
theorem encF_len (f : Fl) : (encF f).length = 7 := rfl
theorem encF_one (f : Fl) : ∀ u ∈ encF f, u.oneCell' = true := by
  intro u hu
  simp only [encF, List.mem_cons, List.mem_nil_iff, or_false] at hu
  rcases hu with rfl | rfl | rfl | rfl | rfl | rfl | rfl <;> rfl
theorem infoFl : (Tryd.prog.info? 57).map (fun i => (i.zero, i.size, i.bytes)) = some (some (.agg #[.string ⟨#[]⟩, .int .i64 0, .int .i64 0, .string ⟨#[]⟩, .int .i64 0, .bool false, .string ⟨#[]⟩]), 7, 80) := by kernel_rfl
theorem infoSe : (Tryd.prog.info? 29).map (fun i => (i.zero, i.size, i.bytes)) = some (some (.agg #[.string ⟨#[]⟩, .slice none 0 0]), 2, 40) := by kernel_rfl
theorem fl_at {xs : List Fl} {j : Nat} (h : j < xs.length) : ∃ p s k b a c o, xs[j]? = some ⟨p, ⟨s, k, b, a, c, o⟩⟩ := ⟨_, _, _, _, _, _, _, List.getElem?_eq_getElem h⟩
/-- A slice of files. -/
def rwF (v : Value) (fs : List Fl) : Rw := rwP encF 7 57 v fs
theorem rwF_cell (v : Value) (fs : List Fl) : (rwF v fs).cell = v := rfl
theorem rwF_blocks (v : Value) (fs : List Fl) : (rwF v fs).blocks = v.ownBlock.toList := rwP_blocks _ _ _
theorem rwF_is (v : Value) (fs : List Fl) : IsFileS (rwF v fs) :=
  ⟨v, fs.length, _, lfCells encF fs, rfl, fun j hj => by
    obtain ⟨p, s, k, b, a, c, o, h⟩ := fl_at hj
    exact ⟨p, s, k, b, a, c, o, lf_at encF_len h (i := 0) (by decide) rfl, lf_at encF_len h (i := 1) (by decide) rfl, lf_at encF_len h (i := 2) (by decide) rfl, lf_at encF_len h (i := 3) (by decide) rfl, lf_at encF_len h (i := 4) (by decide) rfl, lf_at encF_len h (i := 5) (by decide) rfl, lf_at encF_len h (i := 6) (by decide) rfl⟩⟩
theorem rwF_own {lo hi : Nat} {w : World} {v : Value} {fs : List Fl} (h : OwnK encF 7 57 lo hi w v fs) : (rwF v fs).OwnR lo hi w := rwP_own encF_one h
theorem rwF_reads {hi : Nat} {w : World} {v : Value} {fs : List Fl} (h : ReadsK encF 7 hi w v fs) : (rwF v fs).ReadR hi w := rwP_reads encF_len encF_one _ h
theorem rwF_data (v u : Value) (fs : List Fl) : (rwF v fs).data = (rwF u fs).data := rwP_data _ _ _ _ _
theorem files_of_data {x : Rw} {u : Value} {fs : List Fl} {hi : Nat} {w : World} (h : x.data = (rwF u fs).data) (hr : x.ReadR hi w) : ReadsK encF 7 hi w x.cell fs := rowP_of_data encF_len h hr (by decide)
/-- The cells of a file in a slice of files. -/
theorem ReadsK.file {hi n cap k : Nat} {w : World} {a : Option Addr} {fs : List Fl} {f : Fl} (h : ReadsK encF 7 hi w (.slice a n cap) fs) (hk : fs[k]? = some f) : ∃ g off, a = some ⟨g, off, none⟩ ∧ g < hi ∧ w.cell? ⟨g, off + k * 7, none⟩ = some (.string f.pa) ∧ w.cell? ⟨g, off + k * 7 + 1, none⟩ = some (.int .i64 f.rv.st) ∧ w.cell? ⟨g, off + k * 7 + 2, none⟩ = some (.int .i64 f.rv.kd) ∧ w.cell? ⟨g, off + k * 7 + 3, none⟩ = some (.string f.rv.bo) ∧ w.cell? ⟨g, off + k * 7 + 4, none⟩ = some (.int .i64 f.rv.ag) ∧ w.cell? ⟨g, off + k * 7 + 5, none⟩ = some (.bool f.rv.sh) ∧ w.cell? ⟨g, off + k * 7 + 6, none⟩ = some (.string f.rv.po) := by
  obtain ⟨g, off, e, hg, hc⟩ := h.cells hk
  exact ⟨g, off, e, hg, hc 0 (by decide), hc 1 (by decide), hc 2 (by decide), hc 3 (by decide), hc 4 (by decide), hc 5 (by decide), hc 6 (by decide)⟩
theorem ReadsK.formF {hi : Nat} {w : World} {v : Value} {fs : List Fl} (h : ReadsK encF 7 hi w v fs) : ∃ a c, v = .slice a fs.length c ∧ fs.length ≤ c ∧ c ≤ 9223372036854775807 := by
  obtain ⟨a, c, e, h1, h2, _⟩ := h
  exact ⟨a, c, e, h1, h2⟩

/-- A server: its host and its files, and where they lie. -/
abbrev Se := (ByteArray × List Fl) × Sv
def encG (p : Se) : List Value := [.string p.1.1, sv p.2]
theorem encG_len (p : Se) : (encG p).length = 2 := rfl
theorem encG_one (p : Se) : ∀ u ∈ encG p, u.oneCell' = true := by
  intro u hu
  simp only [encG, List.mem_cons, List.mem_nil_iff, or_false] at hu
  rcases hu with rfl | rfl <;> rfl
def seCells : List Se → List Rw
  | [] => []
  | p :: ss => .leaf (.string p.1.1) :: rwF (sv p.2) p.1.2 :: seCells ss
/-- A slice of servers. -/
def rwV (v : Value) (ss : List Se) : Rw := .sl v ss.length 2 29 (seCells ss)
theorem rwV_cell (v : Value) (ss : List Se) : (rwV v ss).cell = v := rfl
theorem seCells_map : ∀ ss : List Se, (seCells ss).map Rw.cell = ss.flatMap encG
  | [] => rfl
  | p :: ss => by rw [seCells, List.map_cons, List.map_cons, seCells_map ss, List.flatMap_cons]; rfl
theorem seCells_len : ∀ ss : List Se, (seCells ss).length = ss.length * 2
  | [] => rfl
  | p :: ss => by rw [seCells, List.length_cons, List.length_cons, seCells_len ss, List.length_cons]; omega
theorem seCells_at : ∀ {ss : List Se} {j : Nat} {p : Se}, ss[j]? = some p → (seCells ss)[j * 2]? = some (.leaf (.string p.1.1)) ∧ (seCells ss)[j * 2 + 1]? = some (rwF (sv p.2) p.1.2)
  | [], j, p, h => by simp at h
  | q :: ss, 0, p, h => by
    have : q = p := by simpa using h
    subst this; exact ⟨rfl, rfl⟩
  | q :: ss, j + 1, p, h => by
    have ih := seCells_at (ss := ss) (j := j) (by simpa using h)
    rw [show (j + 1) * 2 = j * 2 + 1 + 1 by omega, seCells]
    simpa using ih
theorem seCells_mem : ∀ {ss : List Se}, ∀ c ∈ seCells ss, ∃ p ∈ ss, c = .leaf (.string p.1.1) ∨ c = rwF (sv p.2) p.1.2
  | [], c, h => by cases h
  | p :: ss, c, h => by
    rw [seCells] at h
    rcases List.mem_cons.1 h with h | h
    · exact ⟨p, List.mem_cons_self, Or.inl h⟩
    rcases List.mem_cons.1 h with h | h
    · exact ⟨p, List.mem_cons_self, Or.inr h⟩
    · obtain ⟨q, hq, e⟩ := seCells_mem c h
      exact ⟨q, List.mem_cons_of_mem _ hq, e⟩
theorem se_at {ss : List Se} {j : Nat} (h : j < ss.length) : ∃ p, ss[j]? = some p := ⟨_, List.getElem?_eq_getElem h⟩
theorem rwV_is (v : Value) (ss : List Se) : IsServerS (rwV v ss) :=
  ⟨v, ss.length, _, seCells ss, rfl, fun j hj => by
    obtain ⟨p, h⟩ := se_at hj
    exact ⟨_, _, (seCells_at h).1, (seCells_at h).2, rwF_is _ _⟩⟩
theorem seCells_data : ∀ {ss us : List Se}, ss.map Prod.fst = us.map Prod.fst → dataL (seCells ss) = dataL (seCells us)
  | [], [], _ => rfl
  | [], u :: us, h => by simp at h
  | t :: ss, [], h => by simp at h
  | t :: ss, u :: us, h => by
    rw [List.map_cons, List.map_cons] at h
    obtain ⟨h1, h2⟩ := List.cons.inj h
    rw [seCells, seCells, dataL, dataL, dataL, dataL, seCells_data h2, h1, rwF_data (sv t.2) (sv u.2)]
theorem rwV_data (v u : Value) {ss us : List Se} (h : ss.map Prod.fst = us.map Prod.fst) : (rwV v ss).data = (rwV u us).data := by
  rw [rwV, rwV, Rw.data, Rw.data, seCells_data h]
/-- A slice of servers, whole. -/
def ReadV (hi : Nat) (w : World) (v : Value) (ss : List Se) : Prop := ReadsK encG 2 hi w v ss ∧ ∀ p ∈ ss, ReadsK encF 7 hi w (sv p.2) p.1.2
theorem ReadV.below {hi B : Nat} {w w' : World} {v : Value} {ss : List Se} (h : ReadV hi w v ss) (hb : Below B w w') (hB : hi ≤ B) : ReadV hi w' v ss :=
  ⟨h.1.below hb hB, fun p hp => (h.2 p hp).below hb hB⟩
theorem ReadV.mono {hi hi' : Nat} {w : World} {v : Value} {ss : List Se} (h : ReadV hi w v ss) (hh : hi ≤ hi') : ReadV hi' w v ss :=
  ⟨h.1.mono hh, fun p hp => (h.2 p hp).mono hh⟩
theorem ReadV.up {w w' : World} {v : Value} {ss : List Se} (h : ReadV w.heap.size w v ss) (hb : Below w.heap.size w w') : ReadV w'.heap.size w' v ss :=
  (h.below hb (Nat.le_refl _)).mono hb.size
theorem rwV_reads {hi : Nat} {w : World} {v : Value} {ss : List Se} (h : ReadV hi w v ss) : (rwV v ss).ReadR hi w := by
  rw [rwV, Rw.ReadR]
  have h0 := h.1
  obtain ⟨⟨a, cap, rfl, h1, h2, h3, h4⟩, hin⟩ := h
  refine ⟨⟨a, cap, rfl, seCells_len ss, h1, h2, h3, ?_⟩, readRL_iff.2 fun c hc => ?_⟩
  · rcases h4 with h4 | ⟨g, off, rfl, hg, hc⟩
    · exact Or.inl h4
    · refine Or.inr ⟨g, off, rfl, hg, fun j c hj => ?_⟩
      rw [seCells_map] at hj
      have := h0.news encG_len j c hj
      rwa [add_off] at this
  · obtain ⟨p, hp, rfl | rfl⟩ := seCells_mem c hc
    · rw [Rw.ReadR]; rfl
    · exact rwF_reads (hin p hp)
theorem seCells_of {hi : Nat} {w : World} : ∀ {ss : List Se} {cs : List Rw}, dataL cs = dataL (seCells ss) → ReadRL hi w cs →
    ∃ ss' : List Se, ss'.map Prod.fst = ss.map Prod.fst ∧ cs.map Rw.cell = ss'.flatMap encG ∧ ∀ p ∈ ss', ReadsK encF 7 hi w (sv p.2) p.1.2
  | [], cs, h, _ => by
    cases cs with
    | nil => exact ⟨[], rfl, rfl, fun p hp => by cases hp⟩
    | cons c cs => rw [seCells, dataL, dataL] at h; cases h
  | q :: ss, cs, h, hr => by
    rw [seCells] at h
    rcases cs with _ | ⟨c0, _ | ⟨c1, cs⟩⟩
    · simp [dataL] at h
    · simp [dataL] at h
    · simp only [dataL, List.cons.injEq] at h
      obtain ⟨h0, h1, h2⟩ := h
      have hr' := readRL_iff.1 hr
      obtain ⟨ss', k1, k2, k3⟩ := seCells_of (ss := ss) (cs := cs) h2 (readRL_iff.2 fun c hc => hr' c (by simp [hc]))
      have ha := files_of_data h1 (hr' c1 (by simp))
      have e0 := leaf_of_data h0
      obtain ⟨s, hs⟩ : ∃ s : Sv, c1.cell = sv s := by
        obtain ⟨a, cap, e, _⟩ := ha
        exact ⟨(a, _, cap), e⟩
      rw [hs] at ha
      refine ⟨(q.1, s) :: ss', by rw [List.map_cons, List.map_cons, k1], ?_, fun p hp => ?_⟩
      · rw [List.map_cons, List.map_cons, k2, List.flatMap_cons, hs, e0]; rfl
      · rcases List.mem_cons.1 hp with h | h
        · rw [h]; exact ha
        · exact k3 p h
theorem servers_of_data {x : Rw} {u : Value} {ss : List Se} {hi : Nat} {w : World} (h : x.data = (rwV u ss).data) (hr : x.ReadR hi w) : ∃ ss', ss'.map Prod.fst = ss.map Prod.fst ∧ ReadV hi w x.cell ss' := by
  cases x with
  | leaf v => rw [rwV, Rw.data, Rw.data] at h; cases h
  | sl v n k e cs =>
    rw [rwV, Rw.data, Rw.data] at h
    obtain ⟨rfl, hd⟩ := Dt.sl.inj h
    have hl : cs.length = ss.length * 2 := by have := congrArg List.length hd; rwa [dataL_len, dataL_len, seCells_len] at this
    rw [Rw.ReadR] at hr
    obtain ⟨⟨a, cap, rfl, h1, h2, h3, h4, h5⟩, hrl⟩ := hr
    obtain ⟨ss', k1, k2, k3⟩ := seCells_of hd hrl
    have hnl : ss'.length = ss.length := by have := congrArg List.length k1; simpa using this
    have hn : n = ss'.length := by omega
    subst hn
    refine ⟨ss', k1, ⟨a, cap, rfl, h2, h3, h4, ?_⟩, k3⟩
    rcases h5 with h5 | ⟨g, off, rfl, hg, hc⟩
    · exact Or.inl h5
    · refine Or.inr ⟨g, off, rfl, hg, fun j y hj i hi' => ?_⟩
      have hjl := (List.getElem?_eq_some_iff.1 hj).1
      obtain ⟨c, hcs⟩ : ∃ c, (cs.map Rw.cell)[j * 2 + i]? = some c := ⟨_, List.getElem?_eq_getElem (by rw [List.length_map]; omega)⟩
      rw [Nat.add_assoc, hc (j * 2 + i) c hcs, ← hcs, k2, flat_at encG_len hj hi']
/-- The files of a server in such a slice. -/
theorem ReadV.files {hi n cap k : Nat} {w : World} {a : Option Addr} {ss : List Se} {p : Se} (h : ReadV hi w (.slice a n cap) ss) (hk : ss[k]? = some p) : ReadsK encF 7 hi w (sv p.2) p.1.2 := h.2 p (List.mem_of_getElem? hk)
theorem ReadV.at {hi n cap k : Nat} {w : World} {a : Option Addr} {ss : List Se} {p : Se} (h : ReadV hi w (.slice a n cap) ss) (hk : ss[k]? = some p) : ∃ g off, a = some ⟨g, off, none⟩ ∧ g < hi ∧ w.cell? ⟨g, off + k * 2, none⟩ = some (.string p.1.1) ∧ w.cell? ⟨g, off + k * 2 + 1, none⟩ = some (sv p.2) := by
  obtain ⟨⟨a', c', e, _, _, _, hc⟩, _⟩ := h
  injection e with e1 e2 e3; subst e1
  rcases hc with h0 | ⟨g, off, rfl, hg, hc⟩
  · have := (List.getElem?_eq_some_iff.1 hk).1; omega
  · exact ⟨g, off, rfl, hg, hc k p hk 0 (by omega), hc k p hk 1 (by omega)⟩
theorem ReadV.form {hi : Nat} {w : World} {v : Value} {ss : List Se} (h : ReadV hi w v ss) : ∃ a c, v = .slice a ss.length c ∧ ss.length ≤ c ∧ c ≤ 9223372036854775807 := by
  obtain ⟨⟨a, c, e, h1, h2, _⟩, _⟩ := h
  exact ⟨a, c, e, h1, h2⟩
/-- What a file may be. -/
def FlOk (f : Fl) : Prop := f.pa.size ≤ 9223372036854775807 ∧ f.rv.bo.size ≤ 9223372036854775807 ∧ f.rv.po.size ≤ 9223372036854775807
/-- A file of few letters. -/
def FlFew (f : Fl) : Prop := f.pa.size ≤ 1048576 ∧ f.rv.bo.size ≤ 1048576 ∧ f.rv.po.size ≤ 1048576
theorem rwF_small {v : Value} {fs : List Fl} (h : ∀ f ∈ fs, FlOk f) : (rwF v fs).Small := rwP_small fun f hf u hu => by
  obtain ⟨h1, h2, h3⟩ := h f hf
  simp only [encF, List.mem_cons, List.mem_nil_iff, or_false] at hu
  rcases hu with rfl | rfl | rfl | rfl | rfl | rfl | rfl <;> first | exact h1 | exact h2 | exact h3 | exact Nat.zero_le _
/-- Servers of few letters, few files. -/
structure SsOk (ss : List Se) : Prop where
  len : ss.length ≤ 1048576
  host : ∀ p ∈ ss, p.1.1.size ≤ 1048576
  few : ∀ p ∈ ss, p.1.2.length ≤ 1048576
  file : ∀ p ∈ ss, ∀ f ∈ p.1.2, FlFew f
theorem flFew_of {v : Value} {fs : List Fl} (h : (rwF v fs).weight ≤ 1048576) : fs.length ≤ 1048576 ∧ ∀ f ∈ fs, FlFew f := by
  refine ⟨Nat.le_trans (rwP_weight _ _ _) h, fun f hf => ⟨Nat.le_trans (rwP_str hf (s := f.pa) (by simp [encF])) h, Nat.le_trans (rwP_str hf (s := f.rv.bo) (by simp [encF])) h, Nat.le_trans (rwP_str hf (s := f.rv.po) (by simp [encF])) h⟩⟩
theorem ssOk_of {v : Value} {ss : List Se} (h : (rwV v ss).weight ≤ 1048576) : SsOk ss := by
  rw [rwV, Rw.weight] at h
  have hm : ∀ c ∈ seCells ss, c.weight ≤ 1048576 := fun c hc => by have := weight_mem hc; omega
  have hl : ∀ p ∈ ss, Rw.leaf (.string p.1.1) ∈ seCells ss ∧ rwF (sv p.2) p.1.2 ∈ seCells ss := fun p hp => by
    obtain ⟨i, hi⟩ := List.mem_iff_getElem?.1 hp
    exact ⟨List.mem_of_getElem? (seCells_at hi).1, List.mem_of_getElem? (seCells_at hi).2⟩
  refine ⟨by omega, fun p hp => ?_, fun p hp => (flFew_of (hm _ (hl p hp).2)).1, fun p hp => (flFew_of (hm _ (hl p hp).2)).2⟩
  have := hm _ (hl p hp).1
  rw [Rw.weight] at this; exact this
theorem SsOk.of {ss us : List Se} (h : SsOk ss) (e : us.map Prod.fst = ss.map Prod.fst) : SsOk us := by
  have hl : us.length = ss.length := by have := congrArg List.length e; simpa using this
  have hm : ∀ p ∈ us, ∃ q ∈ ss, q.1 = p.1 := fun p hp => by
    have hm : p.1 ∈ ss.map Prod.fst := by rw [← e]; exact List.mem_map_of_mem hp
    obtain ⟨q, hq, e2⟩ := List.mem_map.1 hm
    exact ⟨q, hq, e2⟩
  refine ⟨by rw [hl]; exact h.len, fun p hp => ?_, fun p hp => ?_, fun p hp => ?_⟩
  · obtain ⟨q, hq, e2⟩ := hm p hp; rw [← e2]; exact h.host q hq
  · obtain ⟨q, hq, e2⟩ := hm p hp; rw [← e2]; exact h.few q hq
  · obtain ⟨q, hq, e2⟩ := hm p hp; rw [← e2]; exact h.file q hq
/-- Servers that came in. -/
def SvOk (p : Se) : Prop := p.1.1.size ≤ 9223372036854775807 ∧ ∀ f ∈ p.1.2, FlOk f
theorem rwV_small {v : Value} {ss : List Se} (h : ∀ p ∈ ss, SvOk p) : (rwV v ss).Small := by
  rw [rwV, Rw.Small]
  refine smallL_iff.2 fun c hc => ?_
  obtain ⟨p, hp, rfl | rfl⟩ := seCells_mem c hc
  · rw [Rw.Small]; exact (h p hp).1
  · exact rwF_small (h p hp).2
theorem rwF_count (v : Value) (fs : List Fl) : (rwF v fs).count = fs.length * 7 := rwP_count encF_len _ _ _

end Go.Proofs.YtpkicliimhflgaaDoor
namespace Go.Proofs.YtpkicliimhflgaaDoor
open Go.ChangeShapes Go.WideShapes Go.ChangeAt Go.RowKit

abbrev Sp := ByteArray × List Fl
theorem findIdx_hit {α : Type} {p : α → Bool} : ∀ {xs : List α} {k : Nat} {x : α}, (∀ (j : Nat) (y : α), j < k → xs[j]? = some y → p y = false) → xs[k]? = some x → p x = true → xs.findIdx p = k
  | [], k, x, _, h, _ => by simp at h
  | y :: ys, 0, x, _, h, hp => by
    have : y = x := by simpa using h
    subst this; rw [List.findIdx_cons, hp]; rfl
  | y :: ys, k + 1, x, hn, h, hp => by
    have h0 := hn 0 y (by omega) rfl
    rw [List.findIdx_cons, h0, findIdx_hit (xs := ys) (k := k) (fun j z hj hz => hn (j + 1) z (by omega) (by simpa using hz)) (by simpa using h) hp]; rfl
theorem findIdx_no {α : Type} {p : α → Bool} : ∀ {xs : List α}, (∀ (j : Nat) (y : α), xs[j]? = some y → p y = false) → xs.findIdx p = xs.length
  | [], _ => rfl
  | y :: ys, hn => by
    have h0 := hn 0 y rfl
    rw [List.findIdx_cons, h0, findIdx_no (xs := ys) (fun j z hz => hn (j + 1) z (by simpa using hz))]; rfl
theorem findIdx_or {α : Type} (p : α → Bool) : ∀ (xs : List α), (xs.findIdx p = xs.length ∧ ∀ (j : Nat) (y : α), xs[j]? = some y → p y = false) ∨ ∃ x, xs.findIdx p < xs.length ∧ xs[xs.findIdx p]? = some x ∧ p x = true ∧ ∀ (j : Nat) (y : α), j < xs.findIdx p → xs[j]? = some y → p y = false
  | [] => Or.inl ⟨rfl, fun j y h => by simp at h⟩
  | y :: ys => by
    cases h0 : p y with
    | true =>
      refine Or.inr ⟨y, ?_⟩
      rw [List.findIdx_cons, h0]
      exact ⟨by simp, rfl, rfl, fun j z hj => by simp at hj⟩
    | false =>
      rw [List.findIdx_cons, h0]
      rcases findIdx_or p ys with ⟨e, hn⟩ | ⟨x, hl, hx, hp, hn⟩
      · refine Or.inl ⟨by simp [e], fun j z hz => ?_⟩
        cases j with
        | zero => have : y = z := by simpa using hz
                  subst this; exact h0
        | succ j => exact hn j z (by simpa using hz)
      · refine Or.inr ⟨x, by simpa using hl, by simpa using hx, hp, fun j z hj hz => ?_⟩
        cases j with
        | zero => have : y = z := by simpa using hz
                  subst this; exact h0
        | succ j => exact hn j z (by simpa using hj) (by simpa using hz)
/-- None of the first k is such a one. -/
def NoneTo {α : Type} (p : α → Bool) (xs : List α) (k : Nat) : Prop := ∀ (j : Nat) (y : α), j < k → xs[j]? = some y → p y = false
theorem NoneTo.zero {α : Type} (p : α → Bool) (xs : List α) : NoneTo p xs 0 := fun _ _ h => absurd h (Nat.not_lt_zero _)
theorem NoneTo.step {α : Type} {p : α → Bool} {xs : List α} {k : Nat} {x : α} (h : NoneTo p xs k) (hx : xs[k]? = some x) (hp : p x = false) : NoneTo p xs (k + 1) := fun j y hj hy => by
  by_cases e : j = k
  · subst e; rw [hx] at hy; cases hy; exact hp
  · exact h j y (by omega) hy
theorem NoneTo.full {α : Type} {p : α → Bool} {xs : List α} (h : NoneTo p xs xs.length) : xs.findIdx p = xs.length := findIdx_no fun j y hy => h j y (List.getElem?_eq_some_iff.1 hy).1 hy
theorem NoneTo.hit {α : Type} {p : α → Bool} {xs : List α} {k : Nat} {x : α} (h : NoneTo p xs k) (hx : xs[k]? = some x) (hp : p x = true) : xs.findIdx p = k := findIdx_hit h hx hp
/-- The place of the first server of this host, of the first file of this path; the length where there is none. -/
def isHost (h : ByteArray) (p : Sp) : Bool := decide (p.1 = h)
def isPath (p : ByteArray) (f : Fl) : Bool := decide (f.pa = p)
def fdS (l : List Sp) (h : ByteArray) : Nat := l.findIdx (isHost h)
def fdF (l : List Fl) (p : ByteArray) : Nat := l.findIdx (isPath p)
/-- The same as the code answers it. -/
def ixV (i n : Nat) : Int := if i < n then (i : Int) else -1
theorem ixV_hit {i n : Nat} (h : i < n) : ixV i n = i := if_pos h
theorem ixV_no (n : Nat) : ixV n n = -1 := if_neg (Nat.lt_irrefl _)
theorem fd_mapS (ss : List Se) (k : Nat) (p : Se) (hp : ss[k]? = some p) : (ss.map Prod.fst)[k]? = some p.1 := by rw [List.getElem?_map, hp]; rfl
def nfR : Rv := ⟨404, 1, ⟨#[]⟩, 0, false, ⟨#[]⟩⟩
def rvG (r : Rv) : Value := .agg #[.int .i64 r.st, .int .i64 r.kd, .string r.bo, .int .i64 r.ag, .bool r.sh, .string r.po]
/-- AnswerTo. -/
def ansF (fs : List Fl) (p : ByteArray) : Rv := match fs[fdF fs p]? with
  | none => nfR
  | some f => f.rv
def ansV (l : List Sp) (h p : ByteArray) : Rv := match l[fdS l h]? with
  | none => nfR
  | some s => ansF s.2 p
theorem ansV_no {l : List Sp} {h p : ByteArray} (e : fdS l h = l.length) : ansV l h p = nfR := by
  unfold ansV; rw [e, List.getElem?_eq_none (Nat.le_refl _)]
theorem ansV_at {l : List Sp} {h p : ByteArray} {s : Sp} {k : Nat} (e : fdS l h = k) (hs : l[k]? = some s) : ansV l h p = ansF s.2 p := by
  unfold ansV; rw [e, hs]
theorem ansF_no {fs : List Fl} {p : ByteArray} (e : fdF fs p = fs.length) : ansF fs p = nfR := by
  unfold ansF; rw [e, List.getElem?_eq_none (Nat.le_refl _)]
theorem ansF_at {fs : List Fl} {p : ByteArray} {f : Fl} {k : Nat} (e : fdF fs p = k) (hs : fs[k]? = some f) : ansF fs p = f.rv := by
  unfold ansF; rw [e, hs]
theorem findIdx_le {α : Type} {p : α → Bool} {xs : List α} {k : Nat} {x : α} (h : xs[k]? = some x) (hp : p x = true) : xs.findIdx p ≤ k := by
  have hk := (List.getElem?_eq_some_iff.1 h).1
  rcases findIdx_or p xs with ⟨_, hn⟩ | ⟨y, _, _, _, hn⟩
  · have := hn k x h; rw [hp] at this; cases this
  · by_cases hl : k < xs.findIdx p
    · have := hn k x hl h; rw [hp] at this; cases this
    · omega
theorem fdF_le {fs : List Fl} {k : Nat} {f : Fl} (h : fs[k]? = some f) {p : ByteArray} (e : f.pa = p) : fdF fs p ≤ k := findIdx_le h (decide_eq_true e)
theorem fdS_le {l : List Sp} {k : Nat} {s : Sp} (h : l[k]? = some s) {p : ByteArray} (e : s.1 = p) : fdS l p ≤ k := findIdx_le h (decide_eq_true e)
theorem ret_ix {a b : Int} (h : a = b) : Ending.returned (.int .i64 a) = .returned (.int .i64 b) := by rw [h]
theorem box2_0 (w : World) (o p : Obj) : ((w.alloc o).alloc p).heap[w.heap.size]? = some o := by
  rw [Below.heap_alloc _ _ _ (by rw [size_alloc]; omega)]
  exact heap_alloc_new w _
theorem box2_1 (w : World) (o p : Obj) : ((w.alloc o).alloc p).heap[w.heap.size + 1]? = some p := by
  have h := heap_alloc_new (w.alloc o) p
  rw [size_alloc] at h
  exact h
/-- Six stores into one block. -/
theorem set6_box {W : World} {p : Nat} {T : TypeId} {z0 z1 z2 z3 z4 z5 : Value} (h : W.heap[p]? = some (.cells #[z0, z1, z2, z3, z4, z5] T (0, 0))) (u0 u1 u2 u3 u4 u5 : Value) : ((((((W.setCell ⟨p, 0, none⟩ u0).setCell ⟨p, 1, none⟩ u1).setCell ⟨p, 2, none⟩ u2).setCell ⟨p, 3, none⟩ u3).setCell ⟨p, 4, none⟩ u4).setCell ⟨p, 5, none⟩ u5).heap[p]? = some (.cells #[u0, u1, u2, u3, u4, u5] T (0, 0)) :=
  heap_one (o := 5) (heap_one (o := 4) (heap_one (o := 3) (heap_one (o := 2) (heap_one (o := 1) (heap_one (o := 0) h u0) u1) u2) u3) u4) u5
theorem set6_grw {w W : World} {p : Nat} (h : Grw w W) (hp : w.heap.size ≤ p) (u0 u1 u2 u3 u4 u5 : Value) : Grw w ((((((W.setCell ⟨p, 0, none⟩ u0).setCell ⟨p, 1, none⟩ u1).setCell ⟨p, 2, none⟩ u2).setCell ⟨p, 3, none⟩ u3).setCell ⟨p, 4, none⟩ u4).setCell ⟨p, 5, none⟩ u5) :=
  grw_setC (grw_setC (grw_setC (grw_setC (grw_setC (grw_setC h hp u0) hp u1) hp u2) hp u3) hp u4) hp u5
theorem set6_bl {w W : World} {B p : Nat} (h : Below B w W) (hp : B ≤ p) (u0 u1 u2 u3 u4 u5 : Value) : Below B w ((((((W.setCell ⟨p, 0, none⟩ u0).setCell ⟨p, 1, none⟩ u1).setCell ⟨p, 2, none⟩ u2).setCell ⟨p, 3, none⟩ u3).setCell ⟨p, 4, none⟩ u4).setCell ⟨p, 5, none⟩ u5) :=
  (((((h.setCell hp u0).setCell hp u1).setCell hp u2).setCell hp u3).setCell hp u4).setCell hp u5

end Go.Proofs.YtpkicliimhflgaaDoor
namespace Go.Proofs.YtpkicliimhflgaaDoor
open Go.ChangeShapes Go.WideShapes Go.ChangeAt Go.RowKit

theorem byte_eq {s : ByteArray} {k : Nat} (hk : k < s.size) {c : UInt8} (h : s[k] = c) : s.data.toList[k]? = some c := by rw [get_at hk, h]
theorem byte_ne {s : ByteArray} {k : Nat} {c : UInt8} (h : ∀ hk : k < s.size, s[k] ≠ c) : s.data.toList[k]? ≠ some c := by
  intro e
  have hk : k < s.size := by have := (List.getElem?_eq_some_iff.1 e).1; rwa [size_list] at this
  rw [get_at hk] at e
  exact h hk (Option.some.inj e)
theorem u8_beq (b c : UInt8) : ((b.toNat : Int) == (c.toNat : Int)) = decide (b = c) := by
  by_cases h : b = c
  · subst h; simp
  · rw [decide_eq_false h]
    refine beq_eq_false_iff_ne.2 fun e => h (UInt8.toNat_inj.1 (by omega))

/-- No byte c from a on and below k. -/
def noB (c : UInt8) (s : ByteArray) (a k : Nat) : Prop := ∀ j, a ≤ j → j < k → s.data.toList[j]? ≠ some c
theorem noB.succ {c : UInt8} {s : ByteArray} {a k : Nat} (h : noB c s a k) (hk : s.data.toList[k]? ≠ some c) : noB c s a (k + 1) := by
  intro j h1 h2
  by_cases e : j = k
  · subst e; exact hk
  · exact h j h1 (by omega)
theorem noB.self (c : UInt8) (s : ByteArray) (a : Nat) : noB c s a a := fun _ h1 h2 => absurd h1 (by omega)

/-- The pieces as strings. -/
def splS (c : UInt8) (l : List UInt8) : List ByteArray := (splitB c l).map ofL
theorem splS_len (c : UInt8) (l : List UInt8) : (splS c l).length ≤ l.length + 1 := by unfold splS; rw [List.length_map]; exact splitB_length c l
theorem splS_round {c : UInt8} {s : ByteArray} {a i : Nat} (hai : a ≤ i) (hi : s.data.toList[i]? = some c) (hf : noB c s a i) :
    splS c (s.data.toList.drop a) = s.extract a i :: splS c (s.data.toList.drop (i + 1)) := by
  unfold splS
  rw [split_round hai hi hf, List.map_cons, extract_eq]
theorem splS_last {c : UInt8} {s : ByteArray} {a i : Nat} (hi : i = s.size) (hf : noB c s a i) :
    splS c (s.data.toList.drop a) = [s.extract a i] := by
  subst hi
  unfold splS
  rw [split_last fun j hj he => hf j hj (by have := (List.getElem?_eq_some_iff.1 he).1; rwa [size_list] at this) he, List.map_cons, List.map_nil, extract_suf]
theorem readsS_one (w : World) (s : ByteArray) : ReadsK encS 1 (w.heap.size + 1) (w.alloc (.cells #[.string s] 9)) (.slice (some ⟨w.heap.size, 0, none⟩) 1 1) [s] := by
  refine ⟨_, 1, rfl, by simp, by omega, (fun h => by cases h), Or.inr ⟨_, 0, rfl, by omega, fun j y hy i hi' => ?_⟩⟩
  have hj : j = 0 := by have := (List.getElem?_eq_some_iff.1 hy).1; simp at this; omega
  subst hj
  simp only [List.getElem?_cons_zero, Option.some.injEq] at hy
  subst hy
  obtain rfl : i = 0 := by omega
  simp [encS]
/-- append of strings to a slice of the call's own. -/
theorem wpList_appS {w : World} {ops : Array Oper} {rest : List Oper} {o : Oper} {a : Act} {Q : Exit → Act → World → Prop} (hgd : o.guard = none) (s x : Operand)
    (ho : o.op = .call { callee := .builtin .append, args := #[s, x], argTypes := #[73, 73] })
    (B : Nat) (w0 : World) (v : Value) (xs : List ByteArray) (hs : a.eval s = v) (hM : MineK encS 1 9 B w0 w v xs) (vx : Value) (top : Nat) (ys : List ByteArray) (hx : a.eval x = vx) (hr : ReadsK encS 1 top w vx ys)
    (hlen : xs.length + ys.length ≤ 137438953472)
    (h : ∀ v' w', MineK encS 1 9 B w0 w' v' (xs ++ ys) → wpList Tryd.prog ops Q rest (a.put o.dst v') w') : wpList Tryd.prog ops Q (o :: rest) a w := by
  obtain ⟨i, hi, hz, hsize, hby⟩ := info_parts infoStr
  exact wpList_appK hgd s x _ ho encS_len encS_one (by decide) _ i _ 16 Tryd.underlying73 hi hz hsize hby (by rfl) B w0 v xs hs hM vx top ys hx hr (by omega) hlen fun v' w' hM' _ => h v' w' hM'

set_option maxRecDepth 100000 in
set_option maxHeartbeats 2000000 in
theorem spl_spec (s : ByteArray) (c : UInt8) (hs : s.size ≤ 1099511627) (w : World) :
    Calls Tryd.prog 51 #[.string s, .int .u8 (c.toNat : Int)] w (NewK encS 1 9 (splS c s.data.toList) w) := by
  go_enter Tryd.func51, Tryd.ntmps51
  go_wp2
  go_loopw [5, 6, 7] (fun o f i wr => ∃ (a k : Nat) (done : List ByteArray), a ≤ k ∧ k ≤ s.size + 1 ∧ f = .int .i64 a ∧ i = .int .i64 k ∧ MineK encS 1 9 w.heap.size w wr o done ∧ done.length ≤ k ∧ noB c s a k ∧ (k ≤ s.size → splS c s.data.toList = done ++ splS c (s.data.toList.drop a)) ∧ (k = s.size + 1 → splS c s.data.toList = done))
    (fun _ _ i _ => s.size + 1 - (intOf i).toNat)
  case atStart => exact ⟨0, 0, [], Nat.le_refl _, Nat.zero_le _, rfl, rfl, MineK.empty _ _ _ _ _ _ (Below.refl _ _) (Nat.le_refl _), Nat.le_refl _, noB.self _ _ _, (fun _ => by rw [List.drop_zero, List.nil_append]), (fun h => by omega)⟩
  case round =>
    obtain ⟨a, k, done, hak, hk, rfl, rfl, hM, hdl, hno, hsp, hfin⟩ := hrel
    have HM := Lib.hid hM; have HNO := Lib.hid hno; have HSP := Lib.hid hsp; have HFIN := Lib.hid hfin
    clear hM hno hsp hfin
    by_cases hle : k ≤ s.size
    · have hle2 : decide ((k : Int) ≤ (s.size : Int)) = true := decide_eq_true (by omega)
      have c1 : (a : Int) ≤ (k : Int) := by omega
      have c2 : (k : Int) ≤ (s.size : Int) := by omega
      by_cases hend : k = s.size
      · subst hend
        have HR := Lib.hid (splS_last rfl HNO.out)
        go_wp2_with (at_builtin; refine wpList_appS rfl _ _ rfl w.heap.size w _ done rfl (HM.out.alloc _) _ _ [s.extract a s.size] rfl (readsS_one wr _) ?c3 ?_)
        case c3 => simp; omega
        intro v' w' hM'
        have HM2 := Lib.hid hM'; clear hM'
        go_wp2
        go_roundw
        case rel =>
          refine ⟨s.size + 1, s.size + 1, done ++ [s.extract a s.size], Nat.le_refl _, by omega, by go_num, by go_num, HM2.out, by simp; omega, noB.self _ _ _, (fun h => by omega), fun _ => ?_⟩
          rw [HSP.out hle, HR.out]
        case measure => simp [intOf] <;> omega
      · have hq : ((k : Int) == (s.size : Int)) = false := beq_eq_false_iff_ne.2 (by omega)
        have hlt : k < s.size := by omega
        have hb8 : (s[k].toNat : Int) < 256 := by have := UInt8.toNat_lt s[k]; omega
        by_cases he : s[k] = c
        · have hbq : ((s[k].toNat : Int) == (c.toNat : Int)) = true := by rw [u8_beq, decide_eq_true he]
          have HR := Lib.hid (splS_round hak (byte_eq hlt he) HNO.out)
          clear he
          go_wp2_with (at_builtin; refine wpList_appS rfl _ _ rfl w.heap.size w _ done rfl (HM.out.alloc _) _ _ [s.extract a k] rfl (readsS_one wr _) ?c3 ?_)
          case c3 => simp; omega
          intro v' w' hM'
          have HM2 := Lib.hid hM'; clear hM'
          go_wp2
          go_roundw
          case rel =>
            refine ⟨k + 1, k + 1, done ++ [s.extract a k], Nat.le_refl _, by omega, by go_num, by go_num, HM2.out, by simp; omega, noB.self _ _ _, (fun h => ?_), fun h => by omega⟩
            rw [HSP.out hle, HR.out, List.append_assoc]; rfl
          case measure => simp [intOf] <;> omega
        · have hbq : ((s[k].toNat : Int) == (c.toNat : Int)) = false := by rw [u8_beq, decide_eq_false he]
          have HS := Lib.hid (HNO.out.succ (byte_ne fun _ => he))
          clear he
          go_wp2
          go_roundw
          case rel => exact ⟨a, k + 1, done, by omega, by omega, rfl, by go_num, HM.out, by omega, HS.out, (fun h => HSP.out hle), fun h => by omega⟩
          case measure => simp [intOf] <;> omega
    · have hle2 : decide ((k : Int) ≤ (s.size : Int)) = false := decide_eq_false (by omega)
      have HF := Lib.hid (HFIN.out (by omega))
      go_wp2
      go_ret
      exact ⟨_, rfl, by rw [HF.out]; exact HM.out.own, HM.out.below⟩

end Go.Proofs.YtpkicliimhflgaaDoor
namespace Go.Proofs.YtpkicliimhflgaaDoor
open Go.ChangeShapes Go.WideShapes Go.ChangeAt Go.RowKit

end Go.Proofs.YtpkicliimhflgaaDoor
namespace Go.Proofs.YtpkicliimhflgaaDoor
open Go.ChangeShapes Go.WideShapes Go.ChangeAt Go.RowKit

def findV (ats : List At) (n : ByteArray) : Value := match findA ats n with
  | none => .tuple #[.string ⟨#[]⟩, .bool false]
  | some v => .tuple #[.string v, .bool true]
theorem findV_none {ats : List At} {n : ByteArray} (h : findA ats n = none) : findV ats n = .tuple #[.string ⟨#[]⟩, .bool false] := by unfold findV; rw [h]
theorem findV_some {ats : List At} {n v : ByteArray} (h : findA ats n = some v) : findV ats n = .tuple #[.string v, .bool true] := by unfold findV; rw [h]
/-- The first k attributes have other names. -/
def fndTo (ats : List At) (n : ByteArray) (k : Nat) : Prop := findA ats n = findA (ats.drop k) n
theorem fndTo.zero (ats : List At) (n : ByteArray) : fndTo ats n 0 := by unfold fndTo; rw [List.drop_zero]
theorem drop_at {ats : List At} {k : Nat} {a : At} (h : ats[k]? = some a) : ats.drop k = a :: ats.drop (k + 1) := by
  have hk := (List.getElem?_eq_some_iff.1 h).1
  rw [List.drop_eq_getElem_cons hk, show ats[k] = a from Option.some.inj ((List.getElem?_eq_getElem hk).symm.trans h)]
theorem fndTo.hit {ats : List At} {n : ByteArray} {k : Nat} {a : At} (h : fndTo ats n k) (ha : ats[k]? = some a) (e : a.1 = n) : findV ats n = .tuple #[.string a.2, .bool true] := by
  unfold fndTo at h
  rw [drop_at ha, findA, if_pos e] at h
  exact findV_some h
theorem fndTo.succ {ats : List At} {n : ByteArray} {k : Nat} {a : At} (h : fndTo ats n k) (ha : ats[k]? = some a) (e : a.1 ≠ n) : fndTo ats n (k + 1) := by
  unfold fndTo at h ⊢
  rw [drop_at ha, findA, if_neg e] at h
  exact h
theorem fndTo.miss {ats : List At} {n : ByteArray} {k : Nat} (h : fndTo ats n k) (hk : ats.length ≤ k) : findV ats n = .tuple #[.string ⟨#[]⟩, .bool false] := by
  unfold fndTo at h
  rw [List.drop_of_length_le hk, findA] at h
  exact findV_none h

end Go.Proofs.YtpkicliimhflgaaDoor
namespace Go.Proofs.YtpkicliimhflgaaDoor
open Go.ChangeShapes Go.WideShapes Go.ChangeAt Go.RowKit

def isVcI (c : Int) : Bool := decide ((97 ≤ c ∧ c ≤ 122) ∨ (48 ≤ c ∧ c ≤ 57) ∨ c = 47)
theorem vc_of {b : UInt8} : isVc b = isVcI (b.toNat : Int) := by
  unfold isVc isVcI
  exact decide_eq_decide.2 (by omega)
theorem vc_yes {c : Int} (h : (97 ≤ c ∧ c ≤ 122) ∨ (48 ≤ c ∧ c ≤ 57) ∨ c = 47) : isVcI c = true := decide_eq_true h
theorem vc_no {c : Int} (h : ¬ ((97 ≤ c ∧ c ≤ 122) ∨ (48 ≤ c ∧ c ≤ 57) ∨ c = 47)) : isVcI c = false := decide_eq_false h
/-- The first k bytes are those of a value. -/
def valTo (s : ByteArray) (k : Nat) : Prop := ∀ j (h : j < s.size), j < k → isVc s[j] = true
theorem valTo.zero (s : ByteArray) : valTo s 0 := fun _ _ h => absurd h (Nat.not_lt_zero _)
theorem valTo.succ {s : ByteArray} {k : Nat} (h : valTo s k) (hk : k < s.size) (h1 : isVcI (s[k].toNat : Int) = true) : valTo s (k + 1) := by
  intro j hj hjk
  by_cases e : j = k
  · subst e; rw [vc_of]; exact h1
  · exact h j hj (by omega)
theorem isVal_full {s : ByteArray} {k : Nat} (h : valTo s k) (hk : k = s.size) : isVal s = decide (1 ≤ s.size ∧ s.size ≤ 20) := by
  unfold isVal
  have : s.data.toList.all isVc = true := by
    rw [List.all_eq_true]
    intro b hb
    obtain ⟨j, hj⟩ := List.mem_iff_getElem?.1 hb
    have hjs : j < s.size := by
      have := (List.getElem?_eq_some_iff.1 hj).1
      rwa [Array.length_toList] at this
    rw [get_at hjs] at hj
    cases hj
    exact h j hjs (by omega)
  rw [this, Bool.and_true]
theorem isVal_bad {s : ByteArray} {k : Nat} (hk : k < s.size) (h : isVcI (s[k].toNat : Int) = false) : isVal s = false := by
  unfold isVal
  have : s.data.toList.all isVc = false := by
    rw [Bool.eq_false_iff]
    intro hall
    have := List.all_eq_true.1 hall s[k] (List.mem_iff_getElem?.2 ⟨k, get_at hk⟩)
    rw [vc_of, h] at this
    cases this
  rw [this, Bool.and_false]
theorem isVal_len {s : ByteArray} (h : ¬ (1 ≤ s.size ∧ s.size ≤ 20)) : isVal s = false := by
  unfold isVal; rw [decide_eq_false h, Bool.false_and]
theorem inB_size20 (s : ByteArray) : inB s.size 1 20 = decide (1 ≤ s.size ∧ s.size ≤ 20) := by
  unfold inB
  apply decide_eq_decide.2
  omega
theorem cls (c : Int) : c < 47 ∨ c = 47 ∨ (48 ≤ c ∧ c ≤ 57) ∨ (57 < c ∧ c < 97) ∨ (97 ≤ c ∧ c ≤ 122) ∨ 122 < c := by omega

set_option maxHeartbeats 1000000 in
theorem vb_any (c : Int) (w : World) :
    Calls Tryd.prog 79 #[.int .u8 c] w fun e w' => e = .returned (.bool (isVcI c)) ∧ w = w' := by
  rcases cls c with h | h | h | h | h | h
  · have HV := Lib.hid (vc_no (c := c) (by omega))
    have va : decide (c < 97) = true := decide_eq_true (by omega)
    have vb : decide (122 < c) = false := decide_eq_false (by omega)
    have vc : decide (c < 48) = true := decide_eq_true (by omega)
    have vd : decide (57 < c) = false := decide_eq_false (by omega)
    have ve : decide (97 ≤ c) = false := decide_eq_false (by omega)
    have vf : decide (c ≤ 122) = true := decide_eq_true (by omega)
    have vg : decide (48 ≤ c) = false := decide_eq_false (by omega)
    have vh : decide (c ≤ 57) = true := decide_eq_true (by omega)
    have vz : (c == 47) = false := beq_eq_false_iff_ne.2 (by omega)
    go_enter Tryd.func79, Tryd.ntmps79
    go_wp2
    go_ret
    exact ⟨ret_b HV.out.symm, rfl⟩
  · have HV := Lib.hid (vc_yes (c := c) (by omega))
    have va : decide (c < 97) = true := decide_eq_true (by omega)
    have vb : decide (122 < c) = false := decide_eq_false (by omega)
    have vc : decide (c < 48) = true := decide_eq_true (by omega)
    have vd : decide (57 < c) = false := decide_eq_false (by omega)
    have ve : decide (97 ≤ c) = false := decide_eq_false (by omega)
    have vf : decide (c ≤ 122) = true := decide_eq_true (by omega)
    have vg : decide (48 ≤ c) = false := decide_eq_false (by omega)
    have vh : decide (c ≤ 57) = true := decide_eq_true (by omega)
    have vz : (c == 47) = true := beq_iff_eq.2 (by omega)
    subst h
    go_enter Tryd.func79, Tryd.ntmps79
    go_wp2
    go_ret
    exact ⟨ret_b HV.out.symm, rfl⟩
  · have HV := Lib.hid (vc_yes (c := c) (by omega))
    have va : decide (c < 97) = true := decide_eq_true (by omega)
    have vb : decide (122 < c) = false := decide_eq_false (by omega)
    have vc : decide (c < 48) = false := decide_eq_false (by omega)
    have vd : decide (57 < c) = false := decide_eq_false (by omega)
    have ve : decide (97 ≤ c) = false := decide_eq_false (by omega)
    have vf : decide (c ≤ 122) = true := decide_eq_true (by omega)
    have vg : decide (48 ≤ c) = true := decide_eq_true (by omega)
    have vh : decide (c ≤ 57) = true := decide_eq_true (by omega)
    have vz : (c == 47) = false := beq_eq_false_iff_ne.2 (by omega)
    go_enter Tryd.func79, Tryd.ntmps79
    go_wp2
    go_ret
    exact ⟨ret_b HV.out.symm, rfl⟩
  · have HV := Lib.hid (vc_no (c := c) (by omega))
    have va : decide (c < 97) = true := decide_eq_true (by omega)
    have vb : decide (122 < c) = false := decide_eq_false (by omega)
    have vc : decide (c < 48) = false := decide_eq_false (by omega)
    have vd : decide (57 < c) = true := decide_eq_true (by omega)
    have ve : decide (97 ≤ c) = false := decide_eq_false (by omega)
    have vf : decide (c ≤ 122) = true := decide_eq_true (by omega)
    have vg : decide (48 ≤ c) = true := decide_eq_true (by omega)
    have vh : decide (c ≤ 57) = false := decide_eq_false (by omega)
    have vz : (c == 47) = false := beq_eq_false_iff_ne.2 (by omega)
    go_enter Tryd.func79, Tryd.ntmps79
    go_wp2
    go_ret
    exact ⟨ret_b HV.out.symm, rfl⟩
  · have HV := Lib.hid (vc_yes (c := c) (by omega))
    have va : decide (c < 97) = false := decide_eq_false (by omega)
    have vb : decide (122 < c) = false := decide_eq_false (by omega)
    have vc : decide (c < 48) = false := decide_eq_false (by omega)
    have vd : decide (57 < c) = true := decide_eq_true (by omega)
    have ve : decide (97 ≤ c) = true := decide_eq_true (by omega)
    have vf : decide (c ≤ 122) = true := decide_eq_true (by omega)
    have vg : decide (48 ≤ c) = true := decide_eq_true (by omega)
    have vh : decide (c ≤ 57) = false := decide_eq_false (by omega)
    have vz : (c == 47) = false := beq_eq_false_iff_ne.2 (by omega)
    go_enter Tryd.func79, Tryd.ntmps79
    go_wp2
    go_ret
    exact ⟨ret_b HV.out.symm, rfl⟩
  · have HV := Lib.hid (vc_no (c := c) (by omega))
    have va : decide (c < 97) = false := decide_eq_false (by omega)
    have vb : decide (122 < c) = true := decide_eq_true (by omega)
    have vc : decide (c < 48) = false := decide_eq_false (by omega)
    have vd : decide (57 < c) = true := decide_eq_true (by omega)
    have ve : decide (97 ≤ c) = true := decide_eq_true (by omega)
    have vf : decide (c ≤ 122) = false := decide_eq_false (by omega)
    have vg : decide (48 ≤ c) = true := decide_eq_true (by omega)
    have vh : decide (c ≤ 57) = false := decide_eq_false (by omega)
    have vz : (c == 47) = false := beq_eq_false_iff_ne.2 (by omega)
    go_enter Tryd.func79, Tryd.ntmps79
    go_wp2
    go_ret
    exact ⟨ret_b HV.out.symm, rfl⟩

set_option maxHeartbeats 1000000 in
theorem val_impl (s : ByteArray) (hs : s.size ≤ 9223372036854775807) (w : World) :
    Calls Tryd.prog 72 #[.string s] w fun e w' => e = .returned (.bool (isVal s)) ∧ w = w' := by
  by_cases hl : 1 ≤ (s.size : Int) ∧ (s.size : Int) ≤ 20
  · obtain ⟨hl1, hl2⟩ := hl
    have e1 : inB s.size 1 20 = true := inB_yes hl1 hl2
    go_enter Tryd.func72, Tryd.ntmps72
    go_wp2_with (go_at_call 44; refine (rin_any _ _ _ _).mono ?_; rintro e w' ⟨rfl, rfl⟩)
    go_loop [10] (fun i => ∃ (k : Nat), k ≤ s.size ∧ i = .int .i64 k ∧ valTo s k) (fun i => s.size - (intOf i).toNat)
    case atStart => exact ⟨0, Nat.zero_le _, rfl, valTo.zero s⟩
    case round =>
      obtain ⟨k, hk, rfl, hv⟩ := hrel
      have HV := Lib.hid hv; clear hv
      by_cases hlt : k < s.size
      · have hlt2 : decide ((k : Int) < (s.size : Int)) = true := by simp; omega
        have hb8 : (s[k].toNat : Int) < 256 := by have := UInt8.toNat_lt s[k]; omega
        cases hd : isVcI (s[k].toNat : Int) with
        | false =>
          have HN := Lib.hid (isVal_bad hlt hd)
          go_wp2_with (go_at_call 79; refine (vb_any _ _).mono ?_; rintro e w' ⟨rfl, rfl⟩)
          go_ret
          exact ⟨ret_b HN.out.symm, rfl⟩
        | true =>
          have HS := Lib.hid (HV.out.succ hlt hd)
          go_wp2_with (go_at_call 79; refine (vb_any _ _).mono ?_; rintro e w' ⟨rfl, rfl⟩)
          go_round
          case rel => exact ⟨k + 1, by omega, by go_num, HS.out⟩
          case measure => simp [intOf]; omega
      · have HN := Lib.hid (isVal_full HV.out (by omega))
        go_wp2
        go_ret
        exact ⟨ret_b (by rw [HN.out]; exact (decide_eq_true (by omega)).symm), rfl⟩
  · have e1 : inB s.size 1 20 = false := inB_no (by omega)
    have HN := Lib.hid (isVal_len (s := s) (by omega))
    go_enter Tryd.func72, Tryd.ntmps72
    go_wp2_with (go_at_call 44; refine (rin_any _ _ _ _).mono ?_; rintro e w' ⟨rfl, rfl⟩)
    go_ret
    exact ⟨ret_b HN.out.symm, rfl⟩

set_option maxRecDepth 100000 in
set_option maxHeartbeats 2000000 in
theorem val_spec (s : ByteArray) (hs : s.size ≤ 9223372036854775807) (w : World) :
    Calls Tryd.prog 62 #[.string s] w fun e w' => e = .returned (.bool (isVal s)) ∧ w = w' := by
  go_enter Tryd.func62, Tryd.ntmps62
  go_wp2
  go_loop [3] (fun i => ∃ (k : Nat), k ≤ s.size ∧ i = .int .i64 k ∧ valTo s k) (fun i => s.size - (intOf i).toNat)
  case atStart => exact ⟨0, Nat.zero_le _, rfl, valTo.zero s⟩
  case round =>
    obtain ⟨k, hk, rfl, hv⟩ := hrel
    have HV := Lib.hid hv; clear hv
    by_cases hlt : k < s.size
    · have hlt2 : decide ((k : Int) < (s.size : Int)) = true := by simp; omega
      have hb8 : (s[k].toNat : Int) < 256 := by have := UInt8.toNat_lt s[k]; omega
      rcases cls (s[k].toNat : Int) with h | h | h | h | h | h
      · have HN := Lib.hid (isVal_bad hlt (vc_no (by omega)))
        have va : decide ((s[k].toNat : Int) < 97) = true := decide_eq_true (by omega)
        have vb : decide (122 < (s[k].toNat : Int)) = false := decide_eq_false (by omega)
        have vc : decide ((s[k].toNat : Int) < 48) = true := decide_eq_true (by omega)
        have vd : decide (57 < (s[k].toNat : Int)) = false := decide_eq_false (by omega)
        have ve : decide (97 ≤ (s[k].toNat : Int)) = false := decide_eq_false (by omega)
        have vf : decide ((s[k].toNat : Int) ≤ 122) = true := decide_eq_true (by omega)
        have vg : decide (48 ≤ (s[k].toNat : Int)) = false := decide_eq_false (by omega)
        have vh : decide ((s[k].toNat : Int) ≤ 57) = true := decide_eq_true (by omega)
        have vz : ((s[k].toNat : Int) == 47) = false := beq_eq_false_iff_ne.2 (by omega)
        go_wp2
        go_ret
        exact ⟨ret_b HN.out.symm, rfl⟩
      · have HS := Lib.hid (HV.out.succ hlt (vc_yes (by omega)))
        have va : decide ((s[k].toNat : Int) < 97) = true := decide_eq_true (by omega)
        have vb : decide (122 < (s[k].toNat : Int)) = false := decide_eq_false (by omega)
        have vc : decide ((s[k].toNat : Int) < 48) = true := decide_eq_true (by omega)
        have vd : decide (57 < (s[k].toNat : Int)) = false := decide_eq_false (by omega)
        have ve : decide (97 ≤ (s[k].toNat : Int)) = false := decide_eq_false (by omega)
        have vf : decide ((s[k].toNat : Int) ≤ 122) = true := decide_eq_true (by omega)
        have vg : decide (48 ≤ (s[k].toNat : Int)) = false := decide_eq_false (by omega)
        have vh : decide ((s[k].toNat : Int) ≤ 57) = true := decide_eq_true (by omega)
        have vz : ((s[k].toNat : Int) == 47) = true := beq_iff_eq.2 (by omega)
        go_wp2
        go_round
        case rel => exact ⟨k + 1, by omega, by go_num, HS.out⟩
        case measure => simp [intOf]; omega
      · have HS := Lib.hid (HV.out.succ hlt (vc_yes (by omega)))
        have va : decide ((s[k].toNat : Int) < 97) = true := decide_eq_true (by omega)
        have vb : decide (122 < (s[k].toNat : Int)) = false := decide_eq_false (by omega)
        have vc : decide ((s[k].toNat : Int) < 48) = false := decide_eq_false (by omega)
        have vd : decide (57 < (s[k].toNat : Int)) = false := decide_eq_false (by omega)
        have ve : decide (97 ≤ (s[k].toNat : Int)) = false := decide_eq_false (by omega)
        have vf : decide ((s[k].toNat : Int) ≤ 122) = true := decide_eq_true (by omega)
        have vg : decide (48 ≤ (s[k].toNat : Int)) = true := decide_eq_true (by omega)
        have vh : decide ((s[k].toNat : Int) ≤ 57) = true := decide_eq_true (by omega)
        have vz : ((s[k].toNat : Int) == 47) = false := beq_eq_false_iff_ne.2 (by omega)
        go_wp2
        go_round
        case rel => exact ⟨k + 1, by omega, by go_num, HS.out⟩
        case measure => simp [intOf]; omega
      · have HN := Lib.hid (isVal_bad hlt (vc_no (by omega)))
        have va : decide ((s[k].toNat : Int) < 97) = true := decide_eq_true (by omega)
        have vb : decide (122 < (s[k].toNat : Int)) = false := decide_eq_false (by omega)
        have vc : decide ((s[k].toNat : Int) < 48) = false := decide_eq_false (by omega)
        have vd : decide (57 < (s[k].toNat : Int)) = true := decide_eq_true (by omega)
        have ve : decide (97 ≤ (s[k].toNat : Int)) = false := decide_eq_false (by omega)
        have vf : decide ((s[k].toNat : Int) ≤ 122) = true := decide_eq_true (by omega)
        have vg : decide (48 ≤ (s[k].toNat : Int)) = true := decide_eq_true (by omega)
        have vh : decide ((s[k].toNat : Int) ≤ 57) = false := decide_eq_false (by omega)
        have vz : ((s[k].toNat : Int) == 47) = false := beq_eq_false_iff_ne.2 (by omega)
        go_wp2
        go_ret
        exact ⟨ret_b HN.out.symm, rfl⟩
      · have HS := Lib.hid (HV.out.succ hlt (vc_yes (by omega)))
        have va : decide ((s[k].toNat : Int) < 97) = false := decide_eq_false (by omega)
        have vb : decide (122 < (s[k].toNat : Int)) = false := decide_eq_false (by omega)
        have vc : decide ((s[k].toNat : Int) < 48) = false := decide_eq_false (by omega)
        have vd : decide (57 < (s[k].toNat : Int)) = true := decide_eq_true (by omega)
        have ve : decide (97 ≤ (s[k].toNat : Int)) = true := decide_eq_true (by omega)
        have vf : decide ((s[k].toNat : Int) ≤ 122) = true := decide_eq_true (by omega)
        have vg : decide (48 ≤ (s[k].toNat : Int)) = true := decide_eq_true (by omega)
        have vh : decide ((s[k].toNat : Int) ≤ 57) = false := decide_eq_false (by omega)
        have vz : ((s[k].toNat : Int) == 47) = false := beq_eq_false_iff_ne.2 (by omega)
        go_wp2
        go_round
        case rel => exact ⟨k + 1, by omega, by go_num, HS.out⟩
        case measure => simp [intOf]; omega
      · have HN := Lib.hid (isVal_bad hlt (vc_no (by omega)))
        have va : decide ((s[k].toNat : Int) < 97) = false := decide_eq_false (by omega)
        have vb : decide (122 < (s[k].toNat : Int)) = true := decide_eq_true (by omega)
        have vc : decide ((s[k].toNat : Int) < 48) = false := decide_eq_false (by omega)
        have vd : decide (57 < (s[k].toNat : Int)) = true := decide_eq_true (by omega)
        have ve : decide (97 ≤ (s[k].toNat : Int)) = true := decide_eq_true (by omega)
        have vf : decide ((s[k].toNat : Int) ≤ 122) = false := decide_eq_false (by omega)
        have vg : decide (48 ≤ (s[k].toNat : Int)) = true := decide_eq_true (by omega)
        have vh : decide ((s[k].toNat : Int) ≤ 57) = false := decide_eq_false (by omega)
        have vz : ((s[k].toNat : Int) == 47) = false := beq_eq_false_iff_ne.2 (by omega)
        go_wp2
        go_ret
        exact ⟨ret_b HN.out.symm, rfl⟩
    · have HN := Lib.hid (isVal_full HV.out (by omega))
      have HE := Lib.hid (inB_size20 s)
      go_wp2_with fail
      refine (lin_any _ _ _ _).mono ?_
      rintro e w' ⟨rfl, rfl⟩
      go_wp2
      go_ret
      exact ⟨ret_b (by rw [HN.out, HE.out]), rfl⟩

end Go.Proofs.YtpkicliimhflgaaDoor
namespace Go.Proofs.YtpkicliimhflgaaDoor
open Go.ChangeShapes Go.WideShapes Go.ChangeAt Go.RowKit

theorem heap_four {w : World} {b : Nat} {x0 x1 x2 x3 : Value} {T : TypeId} (h : w.heap[b]? = some (.cells #[x0, x1, x2, x3] T (0, 0))) (u0 u1 u2 u3 : Value) :
    ((((w.setCell ⟨b, 0, none⟩ u0).setCell ⟨b, 1, none⟩ u1).setCell ⟨b, 2, none⟩ u2).setCell ⟨b, 3, none⟩ u3).heap[b]? = some (.cells #[u0, u1, u2, u3] T (0, 0)) := by
  have h0 := heap_one (o := 0) h u0
  have h1 := heap_one (o := 1) h0 u1
  have h2 := heap_one (o := 2) h1 u2
  have h3 := heap_one (o := 3) h2 u3
  rw [h3]; rfl
theorem cells_four {w : World} {b : Nat} {x0 x1 x2 x3 : Value} {T : TypeId} (h : w.heap[b]? = some (.cells #[x0, x1, x2, x3] T (0, 0))) :
    (w.cell? ⟨b, 0, none⟩ = some x0 ∧ w.cell? ⟨b, 1, none⟩ = some x1 ∧ w.cell? ⟨b, 2, none⟩ = some x2 ∧ w.cell? ⟨b, 3, none⟩ = some x3) ∧
    (w.frozen? ⟨b, 0, none⟩ = false ∧ w.frozen? ⟨b, 1, none⟩ = false ∧ w.frozen? ⟨b, 2, none⟩ = false ∧ w.frozen? ⟨b, 3, none⟩ = false) := by
  refine ⟨⟨?_, ?_, ?_, ?_⟩, ?_, ?_, ?_, ?_⟩
  · unfold World.cell?; rw [h]; rfl
  · unfold World.cell?; rw [h]; rfl
  · unfold World.cell?; rw [h]; rfl
  · unfold World.cell?; rw [h]; rfl
  · unfold World.frozen?; rw [h]; rfl
  · unfold World.frozen?; rw [h]; rfl
  · unfold World.frozen?; rw [h]; rfl
  · unfold World.frozen?; rw [h]; rfl
theorem below_four {B : Nat} {w w2 : World} (h : Below B w w2) {b : Nat} (hb : B ≤ b) (u0 u1 u2 u3 : Value) :
    Below B w ((((w2.setCell ⟨b, 0, none⟩ u0).setCell ⟨b, 1, none⟩ u1).setCell ⟨b, 2, none⟩ u2).setCell ⟨b, 3, none⟩ u3) :=
  (((h.setCell hb _).setCell hb _).setCell hb _).setCell hb _
theorem readsK_grown {α : Type} {enc : α → List Value} {k hi : Nat} {w : World} {v : Value} {xs : List α} (h : ReadsK enc k hi w v xs) (hh : hi ≤ w.heap.size) (n : Nat) (os : Array Obj) : ReadsK enc k hi (Sort.grow (w.drewN n) os) v xs := h.grw hh ⟨n, os, rfl⟩
theorem size_grown {hi : Nat} {w : World} (hh : hi ≤ w.heap.size) (n : Nat) (os : Array Obj) : hi ≤ (Sort.grow (w.drewN n) os).heap.size := by
  show hi ≤ (w.heap ++ os).size; simp; omega

/-- The token of a tag, or the zero token. -/
def tagT (s : ByteArray) : Tok := (tagB s.data.toList).getD tokZero
def tagOk (s : ByteArray) : Bool := (tagB s.data.toList).isSome
abbrev zTok : Value := .agg #[.int .i64 0, .string ⟨#[]⟩, .slice none 0 0, .string ⟨#[]⟩]
theorem tag_long {s : ByteArray} (h : 60 < s.size) : tagB s.data.toList = none := tagB_long (by rw [size_list]; exact h)
theorem tag_close_yes {s : ByteArray} {r : List UInt8} (h : s.size ≤ 60) (hs : s.data.toList = 47 :: r) (hn : isNm (ofL r) = true) : tagB s.data.toList = some (tokClose (ofL r)) := by
  have : r.length < 60 := by rw [← size_list, hs] at h; simp at h; omega
  rw [hs, tagB_close this, if_pos hn]
theorem tag_close_no {s : ByteArray} {r : List UInt8} (h : s.size ≤ 60) (hs : s.data.toList = 47 :: r) (hn : isNm (ofL r) = false) : tagB s.data.toList = none := by
  have : r.length < 60 := by rw [← size_list, hs] at h; simp at h; omega
  rw [hs, tagB_close this, if_neg (by rw [hn]; exact Bool.false_ne_true)]
theorem tag_open_none {s : ByteArray} {n : List UInt8} {ps : List (List UInt8)} (h : s.size ≤ 60) (h0 : s.data.toList[0]? ≠ some 47) (hs : splitB 32 s.data.toList = n :: ps) (ha : attrsB ps [] = none) : tagB s.data.toList = none := by
  rw [tagB_open (by rw [size_list]; exact h) h0 hs, ha]
theorem tag_open_no {s : ByteArray} {n : List UInt8} {ps : List (List UInt8)} {ats : List At} (h : s.size ≤ 60) (h0 : s.data.toList[0]? ≠ some 47) (hs : splitB 32 s.data.toList = n :: ps) (ha : attrsB ps [] = some ats) (hn : isNm (ofL n) = false ∨ 4 < ats.length) : tagB s.data.toList = none := by
  rw [tagB_open (by rw [size_list]; exact h) h0 hs, ha]
  refine if_neg fun hc => ?_
  rcases hn with hn | hn
  · rw [hn] at hc; exact Bool.false_ne_true hc.1
  · omega
theorem tag_open_yes {s : ByteArray} {n : List UInt8} {ps : List (List UInt8)} {ats : List At} (h : s.size ≤ 60) (h0 : s.data.toList[0]? ≠ some 47) (hs : splitB 32 s.data.toList = n :: ps) (ha : attrsB ps [] = some ats) (hn : isNm (ofL n) = true) (hl : ats.length ≤ 4) : tagB s.data.toList = some (tokOpen (ofL n) ats) := by
  rw [tagB_open (by rw [size_list]; exact h) h0 hs, ha]
  exact if_pos ⟨hn, hl⟩
/-- The attributes behind the first m pieces, those of which are taken. -/
def attTo (ps : List (List UInt8)) (m : Nat) (acc : List At) : Prop := attrsB ps [] = attrsB (ps.drop m) acc
theorem attTo.zero (ps : List (List UInt8)) : attTo ps 0 [] := by unfold attTo; rw [List.drop_zero]
theorem dropL_at {α : Type} {l : List α} {k : Nat} {a : α} (h : l[k]? = some a) : l.drop k = a :: l.drop (k + 1) := by
  have hk := (List.getElem?_eq_some_iff.1 h).1
  rw [List.drop_eq_getElem_cons hk, show l[k] = a from Option.some.inj ((List.getElem?_eq_getElem hk).symm.trans h)]
theorem attTo.bad {ps : List (List UInt8)} {m : Nat} {acc : List At} {p : List UInt8} (h : attTo ps m acc) (hp : ps[m]? = some p) (hb : attrB p = none) : attrsB ps [] = none := by
  unfold attTo at h; rw [h, dropL_at hp, attrsB, hb]
theorem attTo.twice {ps : List (List UInt8)} {m : Nat} {acc : List At} {p : List UInt8} {a : At} (h : attTo ps m acc) (hp : ps[m]? = some p) (hb : attrB p = some a) {v : ByteArray} (hf : findA acc a.1 = some v) : attrsB ps [] = none := by
  unfold attTo at h; rw [h, dropL_at hp, attrsB, hb]
  simp only
  rw [hf]; rfl
theorem attTo.succ {ps : List (List UInt8)} {m : Nat} {acc : List At} {p : List UInt8} {a : At} (h : attTo ps m acc) (hp : ps[m]? = some p) (hb : attrB p = some a) (hf : findA acc a.1 = none) : attTo ps (m + 1) (acc ++ [a]) := by
  unfold attTo at h ⊢; rw [h, dropL_at hp, attrsB, hb]
  simp only
  rw [hf]; rfl
theorem attTo.full {ps : List (List UInt8)} {m : Nat} {acc : List At} (h : attTo ps m acc) (hm : ps.length ≤ m) : attrsB ps [] = some acc := by
  unfold attTo at h; rw [h, List.drop_of_length_le hm, attrsB]
theorem attrB_len {p : List UInt8} (h : (splitB 61 p).length ≠ 2) : attrB p = none := by
  unfold attrB
  split
  · rename_i k v hs; rw [hs] at h; exact absurd rfl h
  · rfl
theorem attrB_yes {p k v : List UInt8} (h : splitB 61 p = [k, v]) (h1 : isNm (ofL k) = true) (h2 : isVal (ofL v) = true) : attrB p = some (ofL k, ofL v) := by
  unfold attrB; rw [h]; simp only; rw [if_pos ⟨h1, h2⟩]
theorem attrB_no {p k v : List UInt8} (h : splitB 61 p = [k, v]) (hn : isNm (ofL k) = false ∨ isVal (ofL v) = false) : attrB p = none := by
  unfold attrB; rw [h]; simp only
  refine if_neg fun hc => ?_
  rcases hn with hn | hn
  · rw [hn] at hc; exact Bool.false_ne_true hc.1
  · rw [hn] at hc; exact Bool.false_ne_true hc.2
theorem first_slash {s : ByteArray} (h : s.data.toList[0]? = some 47) : ∃ r, s.data.toList = 47 :: r := by
  cases hl : s.data.toList with
  | nil => rw [hl] at h; simp at h
  | cons b l => rw [hl] at h; simp at h; subst h; exact ⟨l, rfl⟩
theorem OwnK.slice {α : Type} {enc : α → List Value} {k : Nat} {e : TypeId} {lo hi : Nat} {w : World} {v : Value} {xs : List α} (h : OwnK enc k e lo hi w v xs) : ∃ a c, v = .slice a xs.length c := by
  rcases h.1.2 with ⟨rfl, h0⟩ | ⟨g, cap, cur, rfl, _⟩
  · exact ⟨none, 0, by rw [h0]⟩
  · exact ⟨_, _, rfl⟩
theorem OwnK.slice' {α : Type} {enc : α → List Value} {k : Nat} {e : TypeId} {lo hi : Nat} {w : World} {v : Value} {xs : List α} (h : OwnK enc k e lo hi w v xs) : ∃ a n c, v = .slice a n c := by
  obtain ⟨a, c, e⟩ := h.slice
  exact ⟨a, _, c, e⟩
theorem OwnK.strAt {lo hi : Nat} {w : World} {v : Value} {xs : List ByteArray} (h : OwnK encS 1 9 lo hi w v xs) (h0 : 0 < xs.length) :
    ∃ g cap, v = .slice (some ⟨g, 0, none⟩) xs.length cap ∧ lo ≤ g ∧ g < hi ∧ g < w.heap.size ∧ xs.length ≤ cap ∧ cap ≤ 9223372036854775807 ∧ ∀ (j : Nat) x, xs[j]? = some x → w.cell? ⟨g, j, none⟩ = some (.string x) := by
  have hr := h.reads encS_len
  have h1 := h.1
  rcases h1.2 with ⟨_, hz⟩ | ⟨g, cap, cur, rfl, hg, hh, hc, hm, _⟩
  · omega
  · refine ⟨g, cap, rfl, hg, h.2 g rfl, heap_lt hh, hc, by unfold maxLen at hm; omega, fun j x hj => ?_⟩
    have := hr.news encS_len j (.string x) (by
      have := flat_at encS_len hj (show 0 < 1 by decide)
      simpa [encS] using this)
    rwa [add_off, Nat.zero_add] at this
theorem OwnK.strCell {lo hi g n cap j : Nat} {w : World} {xs : List ByteArray} {x : ByteArray} (h : OwnK encS 1 9 lo hi w (.slice (some ⟨g, 0, none⟩) n cap) xs) (hx : xs[j]? = some x) : w.cell? ⟨g, j, none⟩ = some (.string x) := by
  have e : n = xs.length := by
    obtain ⟨a, c, e, _⟩ := h.reads encS_len
    injection e
  subst e
  have := (h.reads encS_len).news encS_len j (.string x) (by
    have := flat_at encS_len hx (show 0 < 1 by decide)
    simpa [encS] using this)
  rwa [add_off, Nat.zero_add] at this
theorem split_two {c : UInt8} {l : List UInt8} (h : (splS c l).length = 2) : ∃ k v, splitB c l = [k, v] ∧ splS c l = [ofL k, ofL v] := by
  unfold splS at h ⊢
  rw [List.length_map] at h
  match hs : splitB c l, h with
  | [k, v], _ => exact ⟨k, v, rfl, rfl⟩
theorem ownK_below {α : Type} {enc : α → List Value} {k : Nat} {e : TypeId} {lo hi B : Nat} {w w' : World} {v : Value} {xs : List α} (h : OwnK enc k e lo hi w v xs) (hb : Below B w w') (hB : hi ≤ B) : OwnK enc k e lo hi w' v xs := by
  refine ⟨⟨h.1.1, ?_⟩, h.2⟩
  rcases h.1.2 with h1 | ⟨g, cap, cur, h1, h2, h3, h4⟩
  · exact Or.inl h1
  · have hg := h.2 g (by rw [h1]; rfl)
    exact Or.inr ⟨g, cap, cur, h1, h2, by rw [hb.block g (by omega)]; exact h3, h4⟩
theorem ownK_set {α : Type} {enc : α → List Value} {k : Nat} {e : TypeId} {lo hi b o : Nat} {w : World} {v u : Value} {xs : List α} (h : OwnK enc k e lo hi w v xs) (hb : b < lo) : OwnK enc k e lo hi (w.setCell ⟨b, o, none⟩ u) v xs := by
  refine ⟨⟨h.1.1, ?_⟩, h.2⟩
  rcases h.1.2 with h1 | ⟨g, cap, cur, h1, h2, h3, h4⟩
  · exact Or.inl h1
  · exact Or.inr ⟨g, cap, cur, h1, h2, by rw [Below.heap_setCell _ _ _ _ (show g ≠ b by omega)]; exact h3, h4⟩
theorem ownK_set4 {α : Type} {enc : α → List Value} {k : Nat} {e : TypeId} {lo lo' hi b : Nat} {w : World} {v : Value} {xs : List α} (h : OwnK enc k e lo hi w v xs) (hb : b < lo) (hl : lo' ≤ lo) (hh : hi ≤ w.heap.size) (u0 u1 u2 u3 : Value) :
    OwnK enc k e lo' ((((w.setCell ⟨b, 0, none⟩ u0).setCell ⟨b, 1, none⟩ u1).setCell ⟨b, 2, none⟩ u2).setCell ⟨b, 3, none⟩ u3).heap.size ((((w.setCell ⟨b, 0, none⟩ u0).setCell ⟨b, 1, none⟩ u1).setCell ⟨b, 2, none⟩ u2).setCell ⟨b, 3, none⟩ u3) v xs :=
  (ownK_set (ownK_set (ownK_set (ownK_set h hb) hb) hb) hb).mono hl (Nat.le_trans hh (Nat.le_trans (size_set _ _ _) (Nat.le_trans (size_set _ _ _) (Nat.le_trans (size_set _ _ _) (size_set _ _ _)))))
theorem splS_pos (c : UInt8) (l : List UInt8) : 0 < (splS c l).length := by
  unfold splS; rw [List.length_map]
  cases h : splitB c l with
  | nil => exact absurd h (splitB_ne _ _)
  | cons a b => simp

end Go.Proofs.YtpkicliimhflgaaDoor
namespace Go.Proofs.YtpkicliimhflgaaDoor
open Go.ChangeShapes Go.WideShapes Go.ChangeAt Go.RowKit Go.Joins Go.Deep

theorem add_lit (g off j : Nat) : (⟨g, off, none⟩ : Addr).add j = ⟨g, off + j, none⟩ := by
  unfold Addr.add
  split
  · rename_i h4; subst h4; rfl
  · rfl
theorem mapM_at {f : Nat → Option Value} : ∀ {l : List Nat} {cs : List Value}, l.mapM f = some cs → cs.length = l.length ∧ ∀ i j : Nat, l[i]? = some j → f j = cs[i]?
  | [], cs, h => by
    have : cs = [] := by simpa using h.symm
    subst this
    exact ⟨rfl, fun i j h => by simp at h⟩
  | a :: l, cs, h => by
    rw [List.mapM_cons] at h
    obtain ⟨v, hv, h⟩ := Option.bind_eq_some_iff.1 h
    obtain ⟨vs, hvs, h⟩ := Option.bind_eq_some_iff.1 h
    have : cs = v :: vs := by simpa using h.symm
    subst this
    obtain ⟨k1, k2⟩ := mapM_at hvs
    refine ⟨by simp [k1], fun i j hj => ?_⟩
    cases i with
    | zero =>
      have : a = j := by simpa using hj
      subst this
      simpa using hv
    | succ i => simpa using k2 i j (by simpa using hj)
theorem cells?_at {w : World} {base n : Nat} {a : Addr} {cs : List Value} (h : w.cells? base a n = some cs) : cs.length = n ∧ ∀ i, i < n → w.cell? (a.add i) = cs[i]? := by
  unfold World.cells? at h
  split at h
  · obtain ⟨k1, k2⟩ := mapM_at h
    rw [List.length_range] at k1
    exact ⟨k1, fun i hi => k2 i i (by rw [List.getElem?_range hi])⟩
  · cases h

end Go.Proofs.YtpkicliimhflgaaDoor
namespace Go.Proofs.YtpkicliimhflgaaDoor
open Go.ChangeShapes Go.WideShapes Go.ChangeAt Go.RowKit Go.Joins Go.Deep

/-- The strings of an attribute are no longer than a string may be. -/
def AtOk (a : At) : Prop := a.1.size ≤ 9223372036854775807 ∧ a.2.size ≤ 9223372036854775807
theorem atCells_small {ats : List At} (h : ∀ a ∈ ats, AtOk a) : SmallL (atCells ats) := by
  induction ats with
  | nil => rw [atCells, SmallL]; trivial
  | cons a ats ih =>
    rw [atCells, SmallL, SmallL, Rw.Small, Rw.Small]
    exact ⟨(h a List.mem_cons_self).1, (h a List.mem_cons_self).2, ih fun b hb => h b (List.mem_cons_of_mem _ hb)⟩
/-- A slice of attributes that came in. -/
def IsAts (w : World) (a : Option Addr) (len cap : Nat) (xs : List At) : Prop :=
  ReadsK encA 2 w.heap.size w (.slice a len cap) xs ∧ xs.length = len ∧ ∀ x ∈ xs, AtOk x

theorem array1 {α : Type} {cs : Array α} (h : cs.size = 1) : ∃ c0, cs = #[c0] := by
  obtain ⟨l⟩ := cs
  match l, h with
  | [c0], _ => exact ⟨c0, rfl⟩
set_option maxRecDepth 100000 in
theorem open_agg1 {P : Program} {H : Type} {enc : TypeId × Value → H} {w : World} {base : Nat} {spare : Nat → Bool} {held : Bool} {r : Reach} {b0 : Nat} {t : TypeId} {f0 : Field} {v : Value} {d : DataW H} {p : List MemPlace} (hs : P.underlying t = some (.struct #[f0])) (hone : oneCellFields P #[f0] = true) (hC : P.cellsOf t = 1)
    (hv : Value.okWide P w r b0 t v) (h : DataW.Trod enc P w base spare held t v d p) :
    ∃ (v0 : Value) (y0 : DataW H × List MemPlace) (n : Nat), v = .agg #[v0] ∧ d = .agg [y0.1] ∧ p = y0.2 ∧ DataW.trod enc P w base spare held n f0.type [v0] = some y0 := by
  obtain ⟨cs, rfl, hsz⟩ := okWide_struct hs hv
  obtain ⟨c0, rfl⟩ := array1 (hsz.trans hC)
  obtain ⟨fuel, hf⟩ := h
  obtain ⟨y0, n, hx, _, h0⟩ := trod_struct1 hs hf
  obtain ⟨o0, k0⟩ := hone_of hone 0 f0 rfl
  simp only [Prod.mk.injEq] at hx
  exact ⟨c0, y0, n, rfl, hx.1, hx.2, by simpa [Value.cells, o0, k0] using h0⟩

end Go.Proofs.YtpkicliimhflgaaDoor
namespace Go.Proofs.YtpkicliimhflgaaDoor
open Go.ChangeShapes Go.WideShapes Go.ChangeAt Go.RowKit

/-- The bytes that the reader reads: a slice value of length len, each of its cells a byte, below block B. -/
def CodeOk (B : Nat) (w : World) (sv : Value) (len : Nat) : Prop :=
  ∃ (a : Option Addr) (cap : Nat), sv = .slice a len cap ∧ len ≤ 1048576 ∧ (len = 0 ∨ ∃ blk off, a = some ⟨blk, off, none⟩ ∧ blk < B ∧ ∀ j, j < len → ∃ n : Int, 0 ≤ n ∧ n < 256 ∧ w.cell? ⟨blk, off + j, none⟩ = some (.int .u8 n))
/-- Of what lay in memory only block b may have been written; no block is new. -/
structure Only (b : Nat) (w w' : World) : Prop where
  os : w'.os = w.os
  tape : w'.tape = w.tape
  output : w'.output = w.output
  size : w'.heap.size = w.heap.size
  block : ∀ k, k ≠ b → w'.heap[k]? = w.heap[k]?

theorem and255 (n : Int) : bits .and .i64 n 255 = n % 256 := by
  have h255 : (BitVec.ofInt 64 255).toNat = 2 ^ 8 - 1 := by decide
  have key : (BitVec.ofInt 64 n &&& BitVec.ofInt 64 255).toNat = (n % ((2 ^ 64 : Nat) : Int)).toNat % 2 ^ 8 := by
    rw [BitVec.toNat_and, BitVec.toNat_ofInt, h255, Nat.and_two_pow_sub_one_eq_mod]
  show IntKind.i64.wrap ((BitVec.ofInt 64 n &&& BitVec.ofInt 64 255).toNat : Nat) = n % 256
  rw [key, IntKind.wrap_i64]
  omega
theorem Only.refl (b : Nat) (w : World) : Only b w w := ⟨rfl, rfl, rfl, rfl, fun _ _ => rfl⟩
theorem Only.trans {b : Nat} {w1 w2 w3 : World} (h : Only b w1 w2) (k : Only b w2 w3) : Only b w1 w3 :=
  ⟨k.os.trans h.os, k.tape.trans h.tape, k.output.trans h.output, k.size.trans h.size, fun i hi => (k.block i hi).trans (h.block i hi)⟩
theorem Only.set {b : Nat} {a w : World} (h : Only b a w) (o : Nat) (v : Value) : Only b a (w.setCell ⟨b, o, none⟩ v) :=
  h.trans ⟨rfl, rfl, rfl, by simp [World.setCell], fun k hk => Below.heap_setCell _ _ _ _ hk⟩
theorem Only.drewN {b : Nat} {a w : World} (h : Only b a w) (n : Nat) : Only b a (w.drewN n) := h.trans ⟨rfl, rfl, rfl, rfl, fun _ _ => rfl⟩
theorem Only.cell {b : Nat} {w w' : World} (h : Only b w w') {p : Addr} (hp : p.block ≠ b) : w'.cell? p = w.cell? p := World.cell?_of_block (w := w) (h.block p.block hp)
theorem Only.below {b : Nat} {w w' : World} (h : Only b w w') : Below b w w' := ⟨h.os, h.tape, h.output, by rw [h.size]; exact Nat.le_refl _, fun k hk => h.block k (by omega)⟩
theorem CodeOk.only {b : Nat} {w w' : World} {sv : Value} {len : Nat} (h : CodeOk b w sv len) (k : Only b w w') : CodeOk b w' sv len := by
  obtain ⟨a, cap, e, h1, h2⟩ := h
  refine ⟨a, cap, e, h1, ?_⟩
  rcases h2 with h2 | ⟨blk, off, e2, hb, hc⟩
  · exact Or.inl h2
  · refine Or.inr ⟨blk, off, e2, hb, fun j hj => ?_⟩
    obtain ⟨n, n0, n1, hn⟩ := hc j hj
    exact ⟨n, n0, n1, by rw [k.cell (by show blk ≠ b; omega)]; exact hn⟩
theorem set_at2 {b : Nat} {w : World} {x y z v : Value} {T : TypeId} (h : w.heap[b]? = some (.cells #[x, y, z] T (0, 0))) : (w.setCell ⟨b, 2, none⟩ v).heap[b]? = some (.cells #[x, y, v] T (0, 0)) := by
  rw [heap_setCell_same w b 2 _ T v h]; rfl
theorem set_at1 {b : Nat} {w : World} {x y z v : Value} {T : TypeId} (h : w.heap[b]? = some (.cells #[x, y, z] T (0, 0))) : (w.setCell ⟨b, 1, none⟩ v).heap[b]? = some (.cells #[x, v, z] T (0, 0)) := by
  rw [heap_setCell_same w b 1 _ T v h]; rfl

theorem rem_bd {x n : Int} (h0 : 0 ≤ x) (hn : 0 < n) : 0 ≤ x % n ∧ x % n < n ∧ x % n ≤ x :=
  by
  have h1 := Int.mul_ediv_add_emod x n
  have h2 := Int.mul_nonneg (show 0 ≤ n by omega) (Int.ediv_nonneg h0 (show 0 ≤ n by omega))
  exact ⟨Int.emod_nonneg _ (by omega), Int.emod_lt_of_pos _ hn, by omega⟩

/-- Of what lay in memory only block b may have been written; there may be new blocks. -/
structure Kept (b : Nat) (w w' : World) : Prop where
  os : w'.os = w.os
  tape : w'.tape = w.tape
  output : w'.output = w.output
  size : w.heap.size ≤ w'.heap.size
  block : ∀ k, k < w.heap.size → k ≠ b → w'.heap[k]? = w.heap[k]?
theorem Kept.refl (b : Nat) (w : World) : Kept b w w := ⟨rfl, rfl, rfl, Nat.le_refl _, fun _ _ _ => rfl⟩
theorem Kept.trans {b : Nat} {w1 w2 w3 : World} (h : Kept b w1 w2) (k : Kept b w2 w3) : Kept b w1 w3 :=
  ⟨k.os.trans h.os, k.tape.trans h.tape, k.output.trans h.output, Nat.le_trans h.size k.size, fun i hi hn => (k.block i (Nat.lt_of_lt_of_le hi h.size) hn).trans (h.block i hi hn)⟩
theorem Only.kept {b : Nat} {w w' : World} (h : Only b w w') : Kept b w w' := ⟨h.os, h.tape, h.output, by rw [h.size]; exact Nat.le_refl _, fun k _ hk => h.block k hk⟩
theorem Kept.alloc (b : Nat) (w : World) (o : Obj) : Kept b w (w.alloc o) := ⟨rfl, rfl, rfl, by simp, fun k hk _ => Below.heap_alloc _ _ _ hk⟩
theorem Kept.below {b : Nat} {w w' : World} (h : Kept b w w') (hb : b ≤ w.heap.size) : Below b w w' := ⟨h.os, h.tape, h.output, h.size, fun k hk => h.block k (by omega) (by omega)⟩
theorem Kept.of_below {b : Nat} {w w' : World} (h : Below w.heap.size w w') : Kept b w w' := ⟨h.os, h.tape, h.output, h.size, fun k hk _ => h.block k hk⟩
theorem lt_heap {w : World} {b : Nat} {o : Obj} (h : w.heap[b]? = some o) : b < w.heap.size := by
  rcases Nat.lt_or_ge b w.heap.size with h' | h'
  · exact h'
  · rw [Array.getElem?_eq_none h'] at h; cases h

end Go.Proofs.YtpkicliimhflgaaDoor
namespace Go.Proofs.YtpkicliimhflgaaDoor
open Go.ChangeShapes Go.WideShapes Go.ChangeAt Go.RowKit

theorem int_range {n : Int} (h : (Lit.int .i64 n).wf = true) : -9223372036854775808 ≤ n ∧ n ≤ 9223372036854775807 := by
  have e1 : IntKind.i64.min = -9223372036854775808 := rfl
  have e2 : IntKind.i64.max = 9223372036854775807 := rfl
  simp [Lit.wf, e1, e2] at h
  omega
theorem str_reach {s : ByteArray} (h : s.data.toList.length ≤ reachBytes) : s.size ≤ 140737488351232 := by
  have e1 : s.size = s.data.size := rfl
  have e2 : s.data.toList.length = s.data.size := Array.length_toList
  have e3 : reachBytes = 140737488351232 := by decide
  omega

/-- A slice of integers that came in: nil, or a row of cap cells, of which the first len are its elements. -/
def IsRow (k : IntKind) (w : World) (a : Option Addr) (len cap : Nat) (zs : List Int) : Prop :=
  (a = none ∧ len = 0 ∧ cap = 0 ∧ zs = []) ∨
  ∃ x, a = some x ∧ len ≤ cap ∧ cap ≤ maxLen ∧ zs.length = cap ∧ (∀ i, i < zs.length → w.cell? (x.add i) = some (.int k (zs.getD i 0))) ∧ ∀ n ∈ zs, (Lit.int k n).wf = true

theorem row_of {P : Program} {H : Type} {enc : TypeId × Value → H} {W : World} {k : IntKind} {t e : TypeId} {a : Option Addr} {len cap : Nat} {d : DataW H} {p : List MemPlace}
    (ht : P.underlying t = some (.slice e)) (he : P.underlying e = some (.int k)) (hc : P.cellsOf e = 1) (h : DataW.Trod enc P W 0 (fun _ => true) true t (.slice a len cap) d p) : ∃ zs, IsRow k W a len cap zs := by
  obtain ⟨fuel, hf⟩ := h
  rcases open_ints ht he hc hf with ⟨hcs, _⟩ | ⟨x, l, c, zs, hcs, _, hl, hm, hz, _, hcell, hwz⟩
  · simp [Value.cells] at hcs
    obtain ⟨rfl, rfl, rfl⟩ := hcs
    exact ⟨[], .inl ⟨rfl, rfl, rfl, rfl⟩⟩
  · simp [Value.cells] at hcs
    obtain ⟨rfl, rfl, rfl⟩ := hcs
    exact ⟨zs, .inr ⟨_, rfl, hl, hm, by simpa using hz, hcell, hwz⟩⟩

theorem u8_range {n : Int} (h : (Lit.int .u8 n).wf = true) : 0 ≤ n ∧ n < 256 := by
  have e1 : IntKind.u8.min = 0 := rfl
  have e2 : IntKind.u8.max = 255 := rfl
  simp [Lit.wf, e1, e2] at h
  omega
/-- The bytes that a law draws from. -/
theorem code_of_row {w : World} {a : Option Addr} {len cap : Nat} {zs : List Int} (h : IsRow .u8 w a len cap zs) (hl : len ≤ 1048576) : CodeOk w.heap.size w (.slice a len cap) len := by
  refine ⟨a, cap, rfl, hl, ?_⟩
  rcases h with ⟨rfl, rfl, rfl, rfl⟩ | ⟨x, rfl, hlc, hm, hz, hcell, hwz⟩
  · exact Or.inl rfl
  · by_cases h0 : len = 0
    · exact Or.inl h0
    · obtain ⟨blk, off, spot⟩ := x
      have c0 := hcell 0 (by omega)
      have hspot : spot = none := by simpa [Addr.add] using World.cell?_spot c0
      subst hspot
      have hlt : blk < w.heap.size := by
        rcases Nat.lt_or_ge blk w.heap.size with h1 | h1
        · exact h1
        · have h2 : w.heap[blk]? = none := Array.getElem?_eq_none h1
          simp [World.cell?, Addr.add, h2] at c0
      refine Or.inr ⟨blk, off, rfl, hlt, fun j hj => ?_⟩
      have hj2 : j < zs.length := by omega
      have hw := u8_range (hwz (zs.getD j 0) (by simp [List.getD, List.getElem?_eq_getElem hj2]))
      refine ⟨zs.getD j 0, hw.1, hw.2, ?_⟩
      have h3 := hcell j hj2
      have e : (⟨blk, off, none⟩ : Addr).add j = ⟨blk, off + j, none⟩ := by
        unfold Addr.add
        split
        · rename_i h4; subst h4; rfl
        · rfl
      rw [e] at h3
      exact h3

end Go.Proofs.YtpkicliimhflgaaDoor
namespace Go.Proofs.YtpkicliimhflgaaDoor
open Go.ChangeShapes Go.WideShapes Go.ChangeAt Go.RowKit

theorem i64_range {n : Int} (h : (Lit.int .i64 n).wf = true) : -9223372036854775808 ≤ n ∧ n ≤ 9223372036854775807 := int_range h
theorem reads_of_row {k : IntKind} {w : World} {a : Option Addr} {len cap : Nat} {zs : List Int} (h : IsRow k w a len cap zs) :
    Reads k w.heap.size w (.slice a len cap) (zs.take len) ∧ (zs.take len).length = len ∧ ∀ n ∈ zs.take len, (Lit.int k n).wf = true := by
  rcases h with ⟨rfl, rfl, rfl, rfl⟩ | ⟨x, rfl, hlc, hm, hz, hcell, hwz⟩
  · exact ⟨⟨none, 0, rfl, by simp, by omega, (fun _ => rfl), Or.inl rfl⟩, rfl, by simp⟩
  · have hl : (zs.take len).length = len := by rw [List.length_take]; omega
    refine ⟨⟨some x, cap, by rw [hl], by omega, by unfold maxLen at hm; omega, (fun h => by cases h), ?_⟩, hl, fun n hn => hwz n (List.mem_of_mem_take hn)⟩
    rw [hl]
    by_cases h0 : len = 0
    · exact Or.inl h0
    · obtain ⟨blk, off, spot⟩ := x
      have c0 := hcell 0 (by omega)
      have hspot : spot = none := by simpa [Addr.add] using World.cell?_spot c0
      subst hspot
      have hlt : blk < w.heap.size := by
        rcases Nat.lt_or_ge blk w.heap.size with h1 | h1
        · exact h1
        · have h2 : w.heap[blk]? = none := Array.getElem?_eq_none h1
          simp [World.cell?, Addr.add, h2] at c0
      refine Or.inr ⟨blk, off, rfl, hlt, fun j hj => ?_⟩
      have h3 := hcell j (by omega)
      have e : (⟨blk, off, none⟩ : Addr).add j = ⟨blk, off + j, none⟩ := by
        unfold Addr.add
        split
        · rename_i h4; subst h4; rfl
        · rfl
      rw [e] at h3
      rw [h3]
      have e2 : (zs.take len).getD j 0 = zs.getD j 0 := by simp [List.getD_eq_getElem?_getD, hj]
      rw [e2]
theorem bytes_of_wf {zs : List Int} (h : ∀ n ∈ zs, (Lit.int .u8 n).wf = true) : Bytes zs := fun n hn => u8_range (h n hn)
theorem ints_of_wf {zs : List Int} (h : ∀ n ∈ zs, (Lit.int .i64 n).wf = true) : Ints zs := fun n hn => int_range (h n hn)

end Go.Proofs.YtpkicliimhflgaaDoor
namespace Go.Proofs.YtpkicliimhflgaaDoor
open Go.ChangeShapes Go.WideShapes Go.ChangeAt Go.RowKit

/-- What a slice of this type holds. -/
def IsRuleS (x : Rw) : Prop := ∃ v n e cs, x = .sl v n 2 e cs ∧ ∀ j, j < n → ∃ (a0 : ByteArray) (a1 : Int), cs[j * 2]? = some (.leaf (.string a0)) ∧ cs[j * 2 + 1]? = some (.leaf (.int .i64 a1))
theorem is_sl_RuleS {x : Rw} (h : IsRuleS x) : ∃ v n k e cs, x = .sl v n k e cs := by
  obtain ⟨v, n, e, cs, rfl, _⟩ := h
  exact ⟨v, n, _, e, cs, rfl⟩

def SzRule (a0 : ByteArray) (left : Int) (w : World) (e : Ending) (w' : World) : Prop :=
  ∃ r : Int, e = .returned (.int .i64 r) ∧ -1 ≤ r ∧ (0 ≤ r → r + (a0.size : Nat) = left) ∧ Grw w w'

end Go.Proofs.YtpkicliimhflgaaDoor
namespace Go.Proofs.YtpkicliimhflgaaDoor
open Go.ChangeShapes Go.WideShapes Go.ChangeAt Go.RowKit

/-- What a slice of this type holds. -/
def IsSheetS (x : Rw) : Prop := ∃ v n e cs, x = .sl v n 1 e cs ∧ ∀ j, j < n → ∃ (a0 : Rw), cs[j]? = some a0 ∧ IsRuleS a0
theorem is_sl_SheetS {x : Rw} (h : IsSheetS x) : ∃ v n k e cs, x = .sl v n k e cs := by
  obtain ⟨v, n, e, cs, rfl, _⟩ := h
  exact ⟨v, n, _, e, cs, rfl⟩

def SzSheet (a0 : Rw) (left : Int) (w : World) (e : Ending) (w' : World) : Prop :=
  ∃ r : Int, e = .returned (.int .i64 r) ∧ -1 ≤ r ∧ (0 ≤ r → r + (a0.weight : Nat) = left) ∧ Grw w w'

end Go.Proofs.YtpkicliimhflgaaDoor
namespace Go.Proofs.YtpkicliimhflgaaDoor
open Go.ChangeShapes Go.WideShapes Go.ChangeAt Go.RowKit

/-- A rule: its name and its color. -/
abbrev Ru := ByteArray × Int
def encU (r : Ru) : List Value := [.string r.1, .int .i64 r.2]
theorem encU_len (r : Ru) : (encU r).length = 2 := rfl
theorem encU_one (r : Ru) : ∀ u ∈ encU r, u.oneCell' = true := by
  intro u hu
  simp only [encU, List.mem_cons, List.mem_nil_iff, or_false] at hu
  rcases hu with rfl | rfl <;> rfl
theorem ru_at {xs : List Ru} {j : Nat} (h : j < xs.length) : ∃ a b, xs[j]? = some (a, b) := ⟨xs[j].1, xs[j].2, List.getElem?_eq_getElem h⟩

def ruCells : List Ru → List Rw
  | [] => []
  | a :: rs => .leaf (.string a.1) :: .leaf (.int .i64 a.2) :: ruCells rs
theorem ruCells_map : ∀ rs : List Ru, (ruCells rs).map Rw.cell = rs.flatMap encU
  | [] => rfl
  | a :: rs => by rw [ruCells, List.map_cons, List.map_cons, ruCells_map rs, List.flatMap_cons]; rfl
theorem ruCells_len : ∀ rs : List Ru, (ruCells rs).length = rs.length * 2
  | [] => rfl
  | a :: rs => by rw [ruCells, List.length_cons, List.length_cons, ruCells_len rs, List.length_cons]; omega
theorem ruCells_at : ∀ {rs : List Ru} {j : Nat} {a : Ru}, rs[j]? = some a → (ruCells rs)[j * 2]? = some (.leaf (.string a.1)) ∧ (ruCells rs)[j * 2 + 1]? = some (.leaf (.int .i64 a.2))
  | [], j, a, h => by simp at h
  | b :: rs, 0, a, h => by
    have : b = a := by simpa using h
    subst this; exact ⟨rfl, rfl⟩
  | b :: rs, j + 1, a, h => by
    have ih := ruCells_at (rs := rs) (j := j) (by simpa using h)
    rw [show (j + 1) * 2 = j * 2 + 1 + 1 by omega, ruCells]
    simpa using ih
theorem ruCells_leaf : ∀ {rs : List Ru}, ∀ c ∈ ruCells rs, ∃ v, c = .leaf v ∧ v.oneCell' = true
  | [], c, h => by cases h
  | a :: rs, c, h => by
    rw [ruCells] at h
    rcases List.mem_cons.1 h with h | h
    · exact ⟨_, h, rfl⟩
    · rcases List.mem_cons.1 h with h | h
      · exact ⟨_, h, rfl⟩
      · exact ruCells_leaf c h
theorem ruCells_blocks (rs : List Ru) : blocksL (ruCells rs) = [] := blocksL_nil fun c hc => by
  obtain ⟨s, rfl, _⟩ := ruCells_leaf c hc
  rw [Rw.blocks]
/-- A sheet: its rules and where they lie. -/
abbrev Shv := List Ru × Sv
def encH (p : Shv) : List Value := [sv p.2]
theorem encH_len (p : Shv) : (encH p).length = 1 := rfl
theorem encH_one (p : Shv) : ∀ u ∈ encH p, u.oneCell' = true := by
  intro u hu
  simp only [encH, List.mem_cons, List.mem_nil_iff, or_false] at hu
  subst hu; rfl
theorem sh_at {ss : List Shv} {j : Nat} (h : j < ss.length) : ∃ p, ss[j]? = some p := ⟨_, List.getElem?_eq_getElem h⟩
/-- A slice of sheets, whole. -/
def ReadH (hi : Nat) (w : World) (v : Value) (ss : List Shv) : Prop := ReadsK encH 1 hi w v ss ∧ ∀ p ∈ ss, ReadsK encU 2 hi w (sv p.2) p.1
theorem ReadH.below {hi B : Nat} {w w' : World} {v : Value} {ss : List Shv} (h : ReadH hi w v ss) (hb : Below B w w') (hB : hi ≤ B) : ReadH hi w' v ss :=
  ⟨h.1.below hb hB, fun p hp => (h.2 p hp).below hb hB⟩
theorem ReadH.mono {hi hi' : Nat} {w : World} {v : Value} {ss : List Shv} (h : ReadH hi w v ss) (hh : hi ≤ hi') : ReadH hi' w v ss :=
  ⟨h.1.mono hh, fun p hp => (h.2 p hp).mono hh⟩
theorem ReadH.up {w w' : World} {v : Value} {ss : List Shv} (h : ReadH w.heap.size w v ss) (hb : Below w.heap.size w w') : ReadH w'.heap.size w' v ss :=
  (h.below hb (Nat.le_refl _)).mono hb.size
/-- A sheet in such a slice. -/
theorem ReadH.sheet {hi n cap k : Nat} {w : World} {a : Option Addr} {ss : List Shv} {p : Shv} (h : ReadH hi w (.slice a n cap) ss) (hk : ss[k]? = some p) : ReadsK encU 2 hi w (sv p.2) p.1 := h.2 p (List.mem_of_getElem? hk)
theorem ReadH.at {hi n cap k : Nat} {w : World} {a : Option Addr} {ss : List Shv} {p : Shv} (h : ReadH hi w (.slice a n cap) ss) (hk : ss[k]? = some p) : ∃ g off, a = some ⟨g, off, none⟩ ∧ g < hi ∧ w.cell? ⟨g, off + k, none⟩ = some (sv p.2) := by
  obtain ⟨⟨a', c', e, _, _, _, hc⟩, _⟩ := h
  injection e with e1 e2 e3; subst e1
  rcases hc with h0 | ⟨g, off, rfl, hg, hc⟩
  · have := (List.getElem?_eq_some_iff.1 hk).1; omega
  · refine ⟨g, off, rfl, hg, ?_⟩
    have := hc k p hk 0 (by omega)
    rwa [Nat.mul_one] at this
theorem ReadH.form {hi : Nat} {w : World} {v : Value} {ss : List Shv} (h : ReadH hi w v ss) : ∃ a c, v = .slice a ss.length c ∧ ss.length ≤ c ∧ c ≤ 9223372036854775807 := by
  obtain ⟨⟨a, c, e, h1, h2, _⟩, _⟩ := h
  exact ⟨a, c, e, h1, h2⟩
/-- A rule in a slice of rules. -/
theorem ReadsK.rule {hi n cap k : Nat} {w : World} {a : Option Addr} {rs : List Ru} {r : Ru} (h : ReadsK encU 2 hi w (.slice a n cap) rs) (hk : rs[k]? = some r) : ∃ g off, a = some ⟨g, off, none⟩ ∧ g < hi ∧ w.cell? ⟨g, off + k * 2, none⟩ = some (.string r.1) ∧ w.cell? ⟨g, off + k * 2 + 1, none⟩ = some (.int .i64 r.2) := by
  obtain ⟨a', c', e, _, _, _, hc⟩ := h
  injection e with e1 e2 e3; subst e1
  rcases hc with h0 | ⟨g, off, rfl, hg, hc⟩
  · have := (List.getElem?_eq_some_iff.1 hk).1; omega
  · exact ⟨g, off, rfl, hg, hc k r hk 0 (by omega), hc k r hk 1 (by omega)⟩

/-- The rules of all sheets, in order. -/
def flatR (ss : List Shv) : List Ru := ss.flatMap Prod.fst
theorem flatR_take {ss : List Shv} {k : Nat} {p : Shv} (h : ss[k]? = some p) : flatR (ss.take (k + 1)) = flatR (ss.take k) ++ p.1 := by
  rw [flatR, List.take_add_one, h, List.flatMap_append]; simp [flatR]
theorem flatR_full {ss : List Shv} {k : Nat} (h : k = ss.length) : flatR (ss.take k) = flatR ss := by rw [h, List.take_length]
theorem flatR_of {ss us : List Shv} (h : ss.map Prod.fst = us.map Prod.fst) : flatR ss = flatR us := by
  rw [flatR, flatR, List.flatMap, List.flatMap, h]
/-- The color of the last rule for this name; 0 if there is none. -/
def colOf (rs : List Ru) (nm : ByteArray) : Int := rs.foldl (fun c r => if r.1 = nm then r.2 else c) 0
theorem colOf_nil (nm : ByteArray) : colOf [] nm = 0 := rfl
theorem colOf_snoc (rs : List Ru) (r : Ru) (nm : ByteArray) : colOf (rs ++ [r]) nm = if r.1 = nm then r.2 else colOf rs nm := by
  rw [colOf, List.foldl_append]; rfl
theorem take_snoc {α : Type} {xs : List α} {k : Nat} {x : α} (h : xs[k]? = some x) : xs.take (k + 1) = xs.take k ++ [x] := by
  rw [List.take_add_one, h]; rfl
/-- What a rule may be. -/
def RuOk (r : Ru) : Prop := r.1.size ≤ 9223372036854775807 ∧ -9223372036854775808 ≤ r.2 ∧ r.2 ≤ 9223372036854775807
theorem colF_range (nm : ByteArray) : ∀ (rs : List Ru) (c : Int), (-9223372036854775808 ≤ c ∧ c ≤ 9223372036854775807) → (∀ r ∈ rs, RuOk r) → -9223372036854775808 ≤ rs.foldl (fun c r => if r.1 = nm then r.2 else c) c ∧ rs.foldl (fun c r => if r.1 = nm then r.2 else c) c ≤ 9223372036854775807
  | [], _, hc, _ => hc
  | r :: rs, c, hc, h => by
    rw [List.foldl_cons]
    refine colF_range nm rs _ ?_ fun x hx => h x (List.mem_cons_of_mem _ hx)
    split
    · exact (h r List.mem_cons_self).2
    · exact hc
theorem colOf_range {rs : List Ru} {nm : ByteArray} (h : ∀ r ∈ rs, RuOk r) : -9223372036854775808 ≤ colOf rs nm ∧ colOf rs nm ≤ 9223372036854775807 :=
  colF_range nm rs 0 (by omega) h

end Go.Proofs.YtpkicliimhflgaaDoor
namespace Go.Proofs.YtpkicliimhflgaaDoor
open Go.ChangeShapes Go.WideShapes Go.ChangeAt Go.RowKit Go.Joins Go.Deep

theorem slice_in {P : Program} {H : Type} {enc : TypeId × Value → H} {w : World} {base : Nat} {spare : Nat → Bool} {held : Bool} {t e : TypeId} {fuel : Nat} {v : Value} {x : DataW H × List MemPlace} (ht : P.underlying t = some (.slice e)) (h : DataW.trod enc P w base spare held fuel t [v] = some x) : ∃ a len cap, v = .slice a len cap := by
  rcases open_slice ht h with ⟨hcs, _⟩ | ⟨a, l, c, _, _, _, _, hcs, _⟩
  · exact ⟨none, 0, 0, by simpa using hcs⟩
  · exact ⟨some a, l, c, by simpa using hcs⟩
instance : Inhabited Shv := ⟨([], svNil)⟩
/-- A slice of rules that came in. -/
def IsRus (w : World) (v : Value) (rs : List Ru) : Prop := ReadsK encU 2 w.heap.size w v rs ∧ ∀ r ∈ rs, RuOk r
/-- A slice of sheets that came in. -/
def IsShs (w : World) (v : Value) (ss : List Shv) : Prop := ReadH w.heap.size w v ss ∧ ∀ p ∈ ss, ∀ r ∈ p.1, RuOk r
theorem ruCells_small : ∀ {rs : List Ru}, (∀ r ∈ rs, RuOk r) → SmallL (ruCells rs)
  | [], _ => trivial
  | r :: rs, h => by
    have h1 := h r List.mem_cons_self
    rw [ruCells]
    refine smallL_iff.2 fun c hc => ?_
    rcases List.mem_cons.1 hc with e | hc
    · rw [e, Rw.Small]; exact h1.1
    rcases List.mem_cons.1 hc with e | hc
    · rw [e, Rw.Small]; exact Nat.zero_le _
    · exact smallL_iff.1 (ruCells_small fun q hq => h q (List.mem_cons_of_mem _ hq)) c hc
/-- How many rules there are, by the weight. -/
theorem ruCells_weight : ∀ rs : List Ru, weightL (ruCells rs) = (rs.map fun r => r.1.size).sum
  | [] => rfl
  | r :: rs => by
    have h1 : (Rw.leaf (.int .i64 r.2)).weight = 0 := rfl
    rw [ruCells, weightL, weightL, ruCells_weight rs, h1, Nat.zero_add, List.map_cons, List.sum_cons]; rfl
theorem rules_flat {ss : List Shv} {p : Shv} (h : p ∈ ss) : p.1.length ≤ (flatR ss).length := by
  induction ss with
  | nil => cases h
  | cons q ss ih =>
    rw [flatR, List.flatMap_cons, List.length_append]
    rcases List.mem_cons.1 h with rfl | h
    · exact Nat.le_add_right _ _
    · have := ih h; rw [flatR] at this; omega
/-- What the laws' walks need of sheets: few, in range. -/
structure ShsOk (ss : List Shv) : Prop where
  len : ss.length ≤ 1048576
  tot : (flatR ss).length ≤ 1048576
  ok : ∀ p ∈ ss, ∀ r ∈ p.1, RuOk r
theorem ShsOk.each {ss : List Shv} (h : ShsOk ss) : ∀ p ∈ ss, p.1.length ≤ 1099511627776 := fun _ hp => Nat.le_trans (rules_flat hp) (Nat.le_trans h.tot (by decide))
theorem ShsOk.of {ss us : List Shv} (h : ShsOk ss) (e : us.map Prod.fst = ss.map Prod.fst) : ShsOk us := by
  have hl : us.length = ss.length := by have := congrArg List.length e; simpa using this
  refine ⟨by rw [hl]; exact h.len, by rw [flatR_of e]; exact h.tot, fun p hp r hr => ?_⟩
  have hm : p.1 ∈ ss.map Prod.fst := by rw [← e]; exact List.mem_map_of_mem hp
  obtain ⟨q, hq, e2⟩ := List.mem_map.1 hm
  exact h.ok q hq r (by rw [e2]; exact hr)

end Go.Proofs.YtpkicliimhflgaaDoor
namespace Go.Proofs.YtpkicliimhflgaaDoor
open Go.ChangeShapes Go.WideShapes Go.ChangeAt Go.RowKit Go.Joins Go.Deep

theorem fields_at {P : Program} {H : Type} {enc : TypeId × Value → H} {w : World} {base : Nat} {spare : Nat → Bool} {held : Bool} {t : TypeId} {fs : Array Field} {fuel : Nat} {cs : List Value} {x : DataW H × List MemPlace} (hs : P.underlying t = some (.struct fs)) (h : DataW.trod enc P w base spare held fuel t cs = some x) :
    ∃ n, ∀ (i : Nat) (f : Field), fs[i]? = some f → ∃ y, DataW.trod enc P w base spare held n f.type ((cs.drop f.offset).take (P.cellsOf f.type)) = some y := by
  obtain ⟨ys, n, _, _, _, hlen, hat⟩ := DataW.trod_struct hs h
  refine ⟨n, fun i f hi => ?_⟩
  have hil : i < fs.size := (Array.getElem?_eq_some_iff.1 hi).1
  obtain ⟨y, hy⟩ : ∃ y, ys[i]? = some y := ⟨_, List.getElem?_eq_getElem (by omega)⟩
  exact ⟨y, (hat i f hi).trans hy⟩
theorem array5 {α : Type} {a : Array α} (h : a.size = 5) : ∃ x0 x1 x2 x3 x4, a = #[x0, x1, x2, x3, x4] := by
  obtain ⟨l⟩ := a
  match l, h with
  | [x0, x1, x2, x3, x4], _ => exact ⟨x0, x1, x2, x3, x4, rfl⟩
def RqOk (h p f g : ByteArray) : Prop := h.size ≤ 9223372036854775807 ∧ p.size ≤ 9223372036854775807 ∧ f.size ≤ 9223372036854775807 ∧ g.size ≤ 9223372036854775807

end Go.Proofs.YtpkicliimhflgaaDoor
