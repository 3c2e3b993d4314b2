/- 10 texts in one. -/
import Derived.Test.YtgcdfkpidcdicaaGreatDoorAddL
import Derived.Test.YtgcdfkpidcdicaaGreatDoorRowA2
import Derived.Test.YtgcdfkpidcdicaaGreatDoorNd
import Derived.Test.YtgcdfkpidcdicaaGreatDoorDpTok
import Derived.Test.YtgcdfkpidcdicaaGreatDoorRawL
import Derived.Shelf.SlSortCmp.QuietGrown
import Derived.Test.YtgcdfkpidcdicaaGreatDoorTagP
import Derived.Test.YtgcdfkpidcdicaaGreatDoorJnA
import Derived.Test.YtgcdfkpidcdicaaGreatDoorDrwB
namespace Go.Proofs.YtgcdfkpidcdicaaGreatDoor
/- AddM -/
open Go.ChangeShapes Go.WideShapes Go.ChangeAt Go.RowKit

/-- How much tokens add. -/
def tkW : List Tok → Nat
  | [] => 0
  | t :: ts => 3 + 2 * t.attrs.length + tkW ts
theorem tkW_take : ∀ (ts : List Tok) (k : Nat), tkW (ts.take k) ≤ tkW ts
  | [], k => by rw [List.take_nil]; exact Nat.le_refl _
  | t :: ts, 0 => Nat.zero_le _
  | t :: ts, k + 1 => by
    have := tkW_take ts k
    rw [List.take_succ_cons, tkW, tkW]; omega
theorem tkW_at : ∀ {ts : List Tok} {t : Tok}, t ∈ ts → 3 + 2 * t.attrs.length ≤ tkW ts
  | [], t, h => by cases h
  | u :: ts, t, h => by
    rw [tkW]
    rcases List.mem_cons.1 h with e | h2
    · rw [e]; omega
    · have := tkW_at h2; omega
theorem addToks_W : ∀ (ts : List Tok) (b : Bd), ndW (addToks b ts).nodes ≤ ndW b.nodes + tkW ts
  | [], b => by rw [addToks, tkW]; omega
  | t :: ts, b => by
    have h := addToks_W ts (addTok b t).1
    have h2 := (addTok_W b t).1
    rw [addToks, tkW]; omega
theorem fits_take {b : Bd} {ts : List Tok} (h : ndW b.nodes + tkW ts ≤ 68719476736) (ho : b.opn.length ≤ 68719476736) (k : Nat) : Fits (addToks b (ts.take k)) := by
  have h1 := addToks_W (ts.take k) b
  have h2 := tkW_take ts k
  have h3 := (addToks_len (ts.take k) b).2
  exact ⟨by omega, by omega⟩
def AddsOut (b : Bd) (ts : List Tok) (w : World) (e : Ending) (w' : World) : Prop := ∃ nv ov, e = .returned (.agg #[nv, ov]) ∧ BdAt w.heap.size w w' nv ov (addToks b ts)
theorem tok_at {tvs : List Tv} {ts : List Tok} (h : tvs.map Prod.fst = ts) {k : Nat} {p : Tv} (hp : tvs[k]? = some p) : ts[k]? = some p.1 := by
  rw [← h, List.getElem?_map, hp]; rfl

set_option maxRecDepth 100000 in
set_option maxHeartbeats 8000000 in
theorem adds_spec (nv ov : Value) (b : Bd) (lv : Value) (tvs : List Tv) (ts : List Tok) (hts : tvs.map Prod.fst = ts) (w : World) (hb : BdIn w.heap.size w nv ov b) (hl : ReadT w.heap.size w lv tvs) (hf : ndW b.nodes + tkW ts ≤ 68719476736) (hfo : b.opn.length ≤ 68719476736) :
    Calls Tryz.prog 165 #[.agg #[nv, ov], lv] w (AddsOut b ts w) := by
  obtain ⟨la, lc, rfl, hl1, hl2⟩ := hl.form
  obtain ⟨n, hn⟩ : ∃ n, tvs.length = n := ⟨_, rfl⟩
  rw [hn] at hl hl1 ⊢
  have htl : ts.length = n := by rw [← hts, List.length_map, hn]
  obtain ⟨W0, hW0⟩ : ∃ W, (w.alloc (.cells #[nv, ov] 40)).alloc (.cells #[.slice none 0 0, .slice none 0 0] 40) = W := ⟨_, rfl⟩
  have q1 : Box2 W0 w.heap.size nv ov := by rw [← hW0]; exact (Box2.new _ _ _).alloc _
  have q2 : Box2 W0 (w.heap.size + 1) (.slice none 0 0) (.slice none 0 0) := by rw [← hW0, ← size_alloc w]; exact Box2.new _ _ _
  have hB0 : Below w.heap.size w W0 := by rw [← hW0]; exact ((Below.refl _ _).alloc (Nat.le_refl _) _).alloc (by rw [size_alloc]; omega) _
  have hbi := (hb.below hB0 (Nat.le_refl _)).mono hB0.size
  have HCP := Lib.hid (copy_spec nv ov b W0 hbi ⟨by omega, hfo⟩)
  have HW0 := Lib.hid hW0; have Q2 := Lib.hid q2; have HB0 := Lib.hid hB0; have HL := Lib.hid hl; have HN := Lib.hid hn; have HTL := Lib.hid htl; have HTS := Lib.hid hts
  have HF := Lib.hid hf; have HFO := Lib.hid hfo
  obtain ⟨a0, n0, c0', rfl⟩ : ∃ a n c, nv = .slice a n c := by obtain ⟨ns, _, hrn, _⟩ := hb; obtain ⟨a, c, e, _⟩ := hrn.form; exact ⟨_, _, _, e⟩
  obtain ⟨a1, n1, c1', rfl⟩ : ∃ a n c, ov = .slice a n c := by obtain ⟨ns, _, _, hro⟩ := hb; obtain ⟨a, c, e, _⟩ := reads_form hro; exact ⟨_, _, _, e⟩
  clear hb hl hf hfo hW0 q1 q2 hB0 hbi hn htl hts
  go_enter Tryz.func165, Tryz.ntmps165
  go_wp2_with fail
  rw [HW0.out]
  refine HCP.out.mono ?_
  rintro e w1 ⟨nv1, ov1, rfl, hb1⟩
  obtain ⟨na, nn, nc, oa, on, oc, rfl, rfl⟩ := hb1.lens
  have hbw := hb1.below
  obtain ⟨W1, hW1⟩ : ∃ W, w1.alloc (.cells #[.slice na nn nc, .slice oa on oc] 40) = W := ⟨_, rfl⟩
  have hb2 : Below w1.heap.size w1 W1 := by rw [← hW1]; exact (Below.refl _ _).alloc (Nat.le_refl _) _
  have q3 : Box2 W1 w1.heap.size (.slice na nn nc) (.slice oa on oc) := by rw [← hW1]; exact Box2.new _ _ _
  have HBD := Lib.hid ((hb1.lower HB0.out HB0.out.size).later hb2)
  have P2 := Lib.hid ((Q2.out.later hbw).later hb2)
  have P3 := Lib.hid q3
  obtain ⟨C, hC⟩ : ∃ C, w1.heap.size = C := ⟨_, rfl⟩
  have HC := Lib.hid (show w.heap.size + 1 < C by have := hbw.size; have := Q2.out.lt; omega)
  rw [hC] at P3
  have HCE := Lib.hid hC; have HW1 := Lib.hid hW1
  clear hb1 hbw hW1 hb2 q3 hC
  go_upto_region 2 with (fail)
  rw [HW1.out, HCE.out]
  go_wp2_with fail
  go_loopw [6] (fun i wr => ∃ (k : Nat) (na : Option Addr) (nn nc : Nat) (oa : Option Addr) (on oc : Nat), k ≤ n ∧ i = .int .i64 k ∧ Box2 wr C (.slice na nn nc) (.slice oa on oc) ∧ Box2 wr (w.heap.size + 1) (.slice none 0 0) (.slice none 0 0) ∧ BdAt w.heap.size w wr (.slice na nn nc) (.slice oa on oc) (addToks b (ts.take k)))
    (fun i _ => n - (intOf i).toNat)
  case atStart => exact ⟨0, _, _, _, _, _, _, Nat.zero_le _, rfl, P3.out, P2.out, by rw [List.take_zero]; exact HBD.out⟩
  case round =>
    obtain ⟨k, na, nn, nc, oa, on, oc, hk, rfl, hq3, hq2, hbd⟩ := hrel
    obtain ⟨⟨d2, d3⟩, fd2, fd3⟩ := hq3.cells
    have bC := hq3.lt
    by_cases hlt : (k : Int) < (n : Int)
    · obtain ⟨p, hp⟩ : ∃ p, tvs[k]? = some p := ⟨_, List.getElem?_eq_getElem (by rw [HN.out]; omega)⟩
      obtain ⟨g, off, rfl, hg, c0, c1, c2, c3⟩ := (HL.out.below hbd.below (Nat.le_refl _)).at hp
      have hpa := (HL.out.below hbd.below (Nat.le_refl _)).2 p (List.mem_of_getElem? hp)
      have hpt := tok_at HTS.out hp
      have hal : p.1.attrs.length ≤ 68719476736 := by have := tkW_at (List.mem_of_getElem? hpt); have := HF.out; omega
      obtain ⟨⟨⟨kd, nm, ats, tx⟩, ⟨ta, tn, tc⟩⟩, rfl⟩ : ∃ q : Tv, p = q := ⟨p, rfl⟩
      replace c0 : _ = some (Value.int .i64 kd) := c0
      replace c1 : _ = some (Value.string nm) := c1
      replace c2 : _ = some (Value.slice ta tn tc) := c2
      replace c3 : _ = some (Value.string tx) := c3
      have hsz := hbd.size
      have bg : g < wr.heap.size := by omega
      have hk0 : (0 : Int) ≤ (k : Int) := by omega
      have hfit := fits_take HF.out HFO.out k
      have HADD := Lib.hid (fun (X : World) (hX : Below wr.heap.size wr X) => show Calls Tryz.prog 130 #[.agg #[.slice na nn nc, .slice oa on oc], .agg #[.int .i64 kd, .string nm, .slice ta tn tc, .string tx]] X fun e wA => ∃ naA nnA ncA oaA onA ocA z, e = .returned (.tuple #[.agg #[.slice naA nnA ncA, .slice oaA onA ocA], .int .i64 z]) ∧ Box2 wA C (.slice na nn nc) (.slice oa on oc) ∧ Box2 wA (w.heap.size + 1) (.slice none 0 0) (.slice none 0 0) ∧ BdAt w.heap.size w wA (.slice naA nnA ncA) (.slice oaA onA ocA) (addTok (addToks b (ts.take k)) ⟨kd, nm, ats, tx⟩).1 from by
        refine (add_spec (.slice na nn nc) (.slice oa on oc) (addToks b (ts.take k)) ⟨kd, nm, ats, tx⟩ ta tn tc X ((hbd.reads (Nat.le_refl _)).up hX) hfit ((hpa.below hX (by omega)).mono (by have := hX.size; omega)) hal).mono ?_
        rintro e wA ⟨nvA, ovA, rfl, hbA⟩
        obtain ⟨naA, nnA, ncA, oaA, onA, ocA, rfl, rfl⟩ := hbA.lens
        exact ⟨_, _, _, _, _, _, _, rfl, (hq3.later hX).later hbA.below, (hq2.later hX).later hbA.below, hbA.lower (hbd.below.trans (hX.mono hsz)) (Nat.le_trans hsz hX.size)⟩)
      have HMORE := Lib.hid (addToks_more (b := b) hpt)
      have HQ2 := Lib.hid hq2; have HQ3 := Lib.hid hq3; have HBE := Lib.hid hbd.below
      clear hq3 hq2 hbd hpa hpt hal hfit hp
      go_wp2_with fail
      go_region_with ((go_at_call 130; refine (HADD.out _ (by repeat' (first | (with_reducible exact Below.refl _ _) | (with_reducible refine bl_dr ?_) | (with_reducible refine bl_al ?_ _)))).mono ?_; rintro e wA ⟨naA, nnA, ncA, oaA, onA, ocA, zA, rfl, hq3A, hq2A, hbdA⟩; obtain ⟨⟨x0, x1⟩, y0, y1⟩ := hq3A.cells; have bCA := hq3A.lt))
      all_goals
        rw [← HMORE.out] at hbdA
        obtain ⟨nsA, hnsA, hmA, hoA⟩ := hbdA
        have HO := Lib.hid (out_box (⟨hmA, hoA⟩ : BdM w.heap.size w wA _ _ nsA (addToks b (ts.take (k + 1))).opn) hq3A (show w.heap.size ≤ C by have := HC.out; omega))
        have HNA := Lib.hid hnsA
        have HQA := Lib.hid ((hq2A.far (show w.heap.size + 1 ≠ C by have := HC.out; omega) (o := 0) (.slice naA nnA ncA)).far (show w.heap.size + 1 ≠ C by have := HC.out; omega) (o := 1) (.slice oaA onA ocA))
        clear hmA hoA hnsA hq2A hq3A
        go_wp2_with fail
        go_roundw
        case rel => exact ⟨k + 1, _, _, _, _, _, _, by omega, by go_num, HO.out.1, HQA.out, HO.out.2.at HNA.out⟩
        case measure => simp [intOf]; omega
    · have hkn : k = n := by omega
      subst hkn
      rw [show ts.take k = ts from List.take_of_length_le (by rw [HTL.out]; exact Nat.le_refl _)] at hbd
      obtain ⟨ns3, hns3, hm3, ho3⟩ := hbd
      have HO := Lib.hid (out_box (⟨hm3, ho3⟩ : BdM w.heap.size w wr _ _ ns3 (addToks b ts).opn) hq2 (Nat.le_succ _))
      have HN3 := Lib.hid hns3
      obtain ⟨⟨d0, d1⟩, f0, f1⟩ := hq2.cells
      have bH := hq2.lt
      clear hq3 hm3 ho3 hq2 hns3
      go_wp2_with fail
      obtain ⟨⟨r0, r1⟩, _⟩ := HO.out.1.cells
      refine bodyPost_ret (v := .agg #[.slice na nn nc, .slice oa on oc]) (by simp [results, Tryz.results165, go_sem, r0, r1]) rfl ?_
      exact ⟨_, _, rfl, HO.out.2.at HN3.out⟩

/- RowN -/
open Go.ChangeShapes Go.WideShapes Go.ChangeAt Go.RowKit Go.Joins Go.Deep

theorem trod_struct4 {P : Program} {H : Type} {enc : TypeId × Value → H} {w : World} {base : Nat} {spare : Nat → Bool} {held : Bool} {t : TypeId} {f0 f1 f2 f3 : Field} {fuel : Nat} {cs : List Value} {x : DataW H × List MemPlace} (ht : P.underlying t = some (.struct #[f0, f1, f2, f3])) (h : DataW.trod enc P w base spare held fuel t cs = some x) :
    ∃ y0 y1 y2 y3 n, x = (.agg [y0.1, y1.1, y2.1, y3.1], y0.2 ++ (y1.2 ++ (y2.2 ++ y3.2))) ∧ cs.length = P.cellsOf t ∧ DataW.trod enc P w base spare held n f0.type ((cs.drop f0.offset).take (P.cellsOf f0.type)) = some y0 ∧
      DataW.trod enc P w base spare held n f1.type ((cs.drop f1.offset).take (P.cellsOf f1.type)) = some y1 ∧ DataW.trod enc P w base spare held n f2.type ((cs.drop f2.offset).take (P.cellsOf f2.type)) = some y2 ∧ DataW.trod enc P w base spare held n f3.type ((cs.drop f3.offset).take (P.cellsOf f3.type)) = some y3 := by
  obtain ⟨xs, n, _, rfl, hl, hlen, hf⟩ := DataW.trod_struct ht h
  match xs, hlen with
  | [y0, y1, y2, y3], _ => exact ⟨y0, y1, y2, y3, n, by simp, hl, by simpa using hf 0 f0 rfl, by simpa using hf 1 f1 rfl, by simpa using hf 2 f2 rfl, by simpa using hf 3 f3 rfl⟩
theorem four_of {cs : List Value} (h : cs.length = 4) : ∃ c0 c1 c2 c3, cs = [c0, c1, c2, c3] := by
  match cs, h with
  | [c0, c1, c2, c3], _ => exact ⟨c0, c1, c2, c3, rfl⟩
theorem slice_of {P : Program} {H : Type} {enc : TypeId × Value → H} {w : World} {base : Nat} {spare : Nat → Bool} {held : Bool} {t e : TypeId} {fuel : Nat} {v : Value} {x : DataW H × List MemPlace} (ht : P.underlying t = some (.slice e)) (h : DataW.trod enc P w base spare held fuel t [v] = some x) : ∃ a len cap, v = .slice a len cap := by
  rcases open_slice ht h with ⟨hcs, _⟩ | ⟨a, l, c, _, _, _, _, hcs, _⟩
  · exact ⟨none, 0, 0, by simpa using hcs⟩
  · exact ⟨some a, l, c, by simpa using hcs⟩

instance : Inhabited Nv := ⟨(⟨⟨#[]⟩, ⟨#[]⟩, 0, []⟩, svNil)⟩
instance : Inhabited Tv := ⟨(tokZero, svNil)⟩
def NdOk (x : Nd) : Prop := x.name.size ≤ 9223372036854775807 ∧ x.text.size ≤ 9223372036854775807 ∧ (∀ a ∈ x.attrs, AtOk a) ∧ -9223372036854775808 ≤ x.parent ∧ x.parent ≤ 9223372036854775807
/-- A slice of nodes that came in. -/
def IsNds (w : World) (v : Value) (ns : List Nv) : Prop := ReadN w.heap.size w v ns ∧ ∀ p ∈ ns, NdOk p.1
set_option maxRecDepth 100000 in
theorem nodes_of {H : Type} {enc : TypeId × Value → H} {W : World} {fuel : Nat} {v : Value} {d : DataW H × List MemPlace} (hf : DataW.trod enc Tryz.prog W 0 (fun _ => true) true fuel 74 [v] = some d) :
    ∃ ns, IsNds W v ns := by
  rcases open_slice Tryz.underlying74 hf with ⟨hcs, _⟩ | ⟨x, len, cap, m, n, D, Pl, hcs, _, hl, hc, hm, _, hel⟩
  · obtain rfl : v = .slice none 0 0 := by simpa using hcs
    exact ⟨[], ⟨⟨none, 0, rfl, Nat.le_refl _, by omega, (fun _ => rfl), Or.inl rfl⟩, by simp⟩, by simp⟩
  · obtain rfl : v = .slice (some x) len cap := by simpa using hcs
    simp only [if_true] at hm
    subst hm
    have hC : Tryz.prog.cellsOf 195 = 4 := by kernel_rfl
    rw [hC] at hel
    have hstr : Tryz.prog.cellsOf 9 = 1 := by kernel_rfl
    have hint : Tryz.prog.cellsOf 3 = 1 := by kernel_rfl
    have hsl : Tryz.prog.cellsOf 193 = 1 := by kernel_rfl
    have hx : ∀ i, i < len → ∃ p : Nv, W.cell? (x.add (i * 4)) = some (.string p.1.name) ∧ W.cell? (x.add (i * 4 + 1)) = some (.string p.1.text) ∧ W.cell? (x.add (i * 4 + 2)) = some (.int .i64 p.1.parent) ∧ W.cell? (x.add (i * 4 + 3)) = some (sv p.2) ∧ ReadsK encA 2 W.heap.size W (sv p.2) p.1.attrs ∧ NdOk p.1 := by
      intro i hi
      obtain ⟨cs, h1, h2⟩ := hel i (by omega)
      obtain ⟨hlen, hat⟩ := cells?_at h1
      obtain ⟨y0, y1, y2, y3, n', _, _, t0, t1, t2, t3⟩ := trod_struct4 Tryz.underlying195 h2
      obtain ⟨c0, c1, c2, c3, rfl⟩ := four_of hlen
      obtain ⟨s, e0, _, w0⟩ := DataW.trod_string Tryz.underlying9 t0
      obtain ⟨t, e1, _, w1⟩ := DataW.trod_string Tryz.underlying9 t1
      obtain ⟨k, e2, _, w2⟩ := DataW.trod_int Tryz.underlying3 t2
      simp [hstr, hint] at e0 e1 e2
      simp [hsl] at t3
      obtain ⟨aa, al, ac, rfl⟩ := slice_of Tryz.underlying193 t3
      obtain ⟨xs, hxs, _, hok⟩ := attrs_of (enc := enc) (W := W) (a := aa) (len := al) (cap := ac) (d := y3.1) (p := y3.2) ⟨n', t3⟩
      have g0 := hat 0 (by omega)
      have g1 := hat 1 (by omega)
      have g2 := hat 2 (by omega)
      have g3 := hat 3 (by omega)
      rw [add_add] at g0 g1 g2 g3
      simp at g0 g1 g2 g3
      have hk := i64_range w2
      exact ⟨(⟨s, t, k, xs⟩, (aa, al, ac)), by rw [g0, e0], by rw [g1, e1], by rw [g2, e2], g3, hxs, w0, w1, hok, hk.1, hk.2⟩
    obtain ⟨f, hf⟩ := choose_lt hx
    refine ⟨(List.range len).map f, ⟨⟨some x, _, by rw [List.length_map, List.length_range], by simpa using hl, by unfold maxLen at hc; omega, (fun h => by cases h), ?_⟩, fun p hp => ?_⟩, fun p hp => ?_⟩
    · by_cases h0 : len = 0
      · exact Or.inl (by simpa using h0)
      · obtain ⟨blk, off, spot⟩ := x
        have c0 := (hf 0 (by omega)).1
        have hspot : spot = none := by simpa [Addr.add] using World.cell?_spot c0
        subst hspot
        have hlt : blk < W.heap.size := by
          have := World.block_lt_of_cell? W _ c0
          rwa [add_lit] at this
        refine Or.inr ⟨blk, off, rfl, hlt, fun j y hj i hi' => ?_⟩
        have hjl : j < len := by have := (List.getElem?_eq_some_iff.1 hj).1; simpa using this
        simp [hjl] at hj
        subst hj
        obtain ⟨g0, g1, g2, g3, _⟩ := hf j hjl
        rw [add_lit] at g0 g1 g2 g3
        rcases (show i = 0 ∨ i = 1 ∨ i = 2 ∨ i = 3 by omega) with rfl | rfl | rfl | rfl
        · rw [Nat.add_zero]; exact g0
        · rw [Nat.add_assoc]; exact g1
        · rw [Nat.add_assoc]; exact g2
        · rw [Nat.add_assoc]; exact g3
    · obtain ⟨i, hi, rfl⟩ := List.mem_map.1 hp
      exact (hf i (List.mem_range.1 hi)).2.2.2.2.1
    · obtain ⟨i, hi, rfl⟩ := List.mem_map.1 hp
      exact (hf i (List.mem_range.1 hi)).2.2.2.2.2

def TkOk (x : Tok) : Prop := x.name.size ≤ 9223372036854775807 ∧ x.text.size ≤ 9223372036854775807 ∧ (∀ a ∈ x.attrs, AtOk a)
/-- A slice of tokens that came in. -/
def IsTks (w : World) (v : Value) (ns : List Tv) : Prop := ReadT w.heap.size w v ns ∧ ∀ p ∈ ns, TkOk p.1

theorem ndCells_small : ∀ {ns : List Nv}, (∀ p ∈ ns, NdOk p.1) → SmallL (ndCells ns)
  | [], _ => trivial
  | p :: ns, h => by
    have h1 := h p List.mem_cons_self
    rw [ndCells]
    refine smallL_iff.2 fun c hc => ?_
    rcases List.mem_cons.1 hc with e | hc
    · rw [e, Rw.Small]; exact h1.1
    rcases List.mem_cons.1 hc with e | hc
    · rw [e, Rw.Small]; exact h1.2.1
    rcases List.mem_cons.1 hc with e | hc
    · rw [e, Rw.Small]; exact Nat.zero_le _
    rcases List.mem_cons.1 hc with e | hc
    · rw [e]; exact rwA_small h1.2.2.1
    · exact smallL_iff.1 (ndCells_small fun q hq => h q (List.mem_cons_of_mem _ hq)) c hc
theorem rwN_small {v : Value} {ns : List Nv} (h : ∀ p ∈ ns, NdOk p.1) : (rwN v ns).Small := by rw [rwN, Rw.Small]; exact ndCells_small h
theorem tkCells_small : ∀ {ns : List Tv}, (∀ p ∈ ns, TkOk p.1) → SmallL (tkCells ns)
  | [], _ => trivial
  | p :: ns, h => by
    have h1 := h p List.mem_cons_self
    rw [tkCells]
    refine smallL_iff.2 fun c hc => ?_
    rcases List.mem_cons.1 hc with e | hc
    · rw [e, Rw.Small]; exact Nat.zero_le _
    rcases List.mem_cons.1 hc with e | hc
    · rw [e, Rw.Small]; exact h1.1
    rcases List.mem_cons.1 hc with e | hc
    · rw [e]; exact rwA_small h1.2.2
    rcases List.mem_cons.1 hc with e | hc
    · rw [e, Rw.Small]; exact h1.2.1
    · exact smallL_iff.1 (tkCells_small fun q hq => h q (List.mem_cons_of_mem _ hq)) c hc
theorem rwT_smallS {v : Value} {ns : List Tv} (h : ∀ p ∈ ns, TkOk p.1) : (rwT v ns).Small := by rw [rwT, Rw.Small]; exact tkCells_small h
theorem rwI_small (v : Value) (zs : List Int) : (rwI v zs).Small := by
  rw [rwI, Rw.Small]
  refine smallL_iff.2 fun c hc => ?_
  obtain ⟨z, rfl⟩ := intCells_leaf hc
  rw [Rw.Small]; exact Nat.zero_le _
/-- A builder that came in. -/
def IsBd (w : World) (nv ov : Value) (ns : List Nv) (zs : List Int) : Prop := IsNds w nv ns ∧ Reads .i64 w.heap.size w ov zs ∧ (∀ z ∈ zs, (Lit.int .i64 z).wf = true) ∧ (∃ a n c, nv = .slice a n c) ∧ ∃ a n c, ov = .slice a n c
set_option maxRecDepth 100000 in
theorem builder_of {H : Type} {enc : TypeId × Value → H} {W : World} {base : Nat} {v : Value} {d : DataW H} {p : List MemPlace} (hv : Value.okWide Tryz.prog W .any base 76 v) (h : DataW.Trod enc Tryz.prog W 0 (fun _ => true) true 76 v d p) :
    ∃ (nv ov : Value) (ns : List Nv) (zs : List Int), v = .agg #[nv, ov] ∧ IsBd W nv ov ns zs := by
  obtain ⟨v0, v1, y0, y1, n, rfl, _, _, h0, h1⟩ := open_agg2 Tryz.underlying76 (by kernel_rfl) (by kernel_rfl) hv h
  obtain ⟨a1, l1, c1, rfl⟩ := slice_of Tryz.underlying38 h1
  obtain ⟨a0, l0, c0, rfl⟩ := slice_of Tryz.underlying74 h0
  obtain ⟨ns, hns⟩ := nodes_of h0
  obtain ⟨zs, hz⟩ := row_of (k := .i64) Tryz.underlying38 Tryz.underlying3 (by kernel_rfl) (W := W) (a := a1) (len := l1) (cap := c1) (d := y1.1) (p := y1.2) ⟨n, h1⟩
  obtain ⟨r1, r2, r3⟩ := reads_of_row hz
  exact ⟨_, _, ns, zs.take l1, rfl, hns, r1, r3, ⟨a0, l0, c0, rfl⟩, ⟨a1, l1, c1, rfl⟩⟩

/- DpTokL -/
open Go.ChangeShapes Go.WideShapes Go.ChangeAt Go.RowKit

def SzToken (a1 : ByteArray) (a2 : Rw) (a3 : ByteArray) (left : Int) (w : World) (e : Ending) (w' : World) : Prop :=
  ∃ r : Int, e = .returned (.int .i64 r) ∧ -1 ≤ r ∧ (0 ≤ r → r + (a1.size : Nat) + (a2.weight : Nat) + (a3.size : Nat) = left) ∧ Grw w w'
theorem info_TokenS : (Tryz.prog.info? 176).map (fun i => (i.zero, i.size, i.bytes)) = some (some (.agg #[.int .i64 0, .string ⟨#[]⟩, .slice none 0 0, .string ⟨#[]⟩]), 4, 64) := by kernel_rfl

/- FeedP -/
open Go.ChangeShapes Go.WideShapes Go.ChangeAt Go.RowKit

theorem MineT.alloc {B : Nat} {w0 w : World} {v : Value} {ts : List Tv} (h : MineT B w0 w v ts) (o : Obj) : MineT B w0 (w.alloc o) v ts := h.later ((Below.refl _ w).alloc (Nat.le_refl _) o)
theorem MineT.rebase {B B' : Nat} {w0 w0' w : World} {v : Value} {ts : List Tv} (h : MineT B w0 w v ts) (hB : B' ≤ B) (hb : Below B' w0' w) : MineT B' w0' w v ts :=
  ⟨⟨(h.row.own.mono hB (Nat.le_refl _)).1, hb, Nat.le_trans hB h.row.size⟩, fun p hp => (h.inn p hp).mono hB (Nat.le_refl _), h.nod⟩
theorem MineT.set {B b o : Nat} {w0 w : World} {v u : Value} {ts : List Tv} (h : MineT B w0 w v ts) (hb : b < B) : MineT B (w.setCell ⟨b, o, none⟩ u) (w.setCell ⟨b, o, none⟩ u) v ts :=
  ⟨⟨(ownK_set h.row.own hb).1, Below.refl _ _, Nat.le_trans h.row.size (size_set _ _ _)⟩, fun p hp => (ownK_set (h.inn p hp) hb).mono (Nat.le_refl _) (size_set _ _ _), h.nod⟩
theorem MineT.slice {B : Nat} {w0 w : World} {v : Value} {ts : List Tv} (h : MineT B w0 w v ts) : ∃ a n c, v = .slice a n c := h.row.own.slice'
theorem heap_one1 {w : World} {b : Nat} {x u : Value} {T : TypeId} (h : w.heap[b]? = some (.cells #[x] T (0, 0))) : (w.setCell ⟨b, 0, none⟩ u).heap[b]? = some (.cells #[u] T (0, 0)) := by
  rw [heap_one (o := 0) h u]; rfl
theorem cells_one {w : World} {b : Nat} {x : Value} {T : TypeId} (h : w.heap[b]? = some (.cells #[x] T (0, 0))) : w.cell? ⟨b, 0, none⟩ = some x ∧ w.frozen? ⟨b, 0, none⟩ = false := by
  refine ⟨?_, ?_⟩
  · unfold World.cell?; rw [h]; rfl
  · unfold World.frozen?; rw [h]; rfl

/-- What FeedText answers for the bytes x: the tokens, all the call's own, and what remains. -/
def FeedOut (x : List UInt8) (w : World) (e : Ending) (w' : World) : Prop :=
  ∃ v ts, e = .returned (.tuple #[v, .agg #[.string (ofL (feedB x).2)]]) ∧ ts.map Prod.fst = (feedB x).1 ∧ MineT w.heap.size w w' v ts
/-- What EndText and TokensOf answer: these tokens, all the call's own. -/
def ToksOut (l : List Tok) (w : World) (e : Ending) (w' : World) : Prop :=
  ∃ v ts, e = .returned v ∧ ts.map Prod.fst = l ∧ MineT w.heap.size w w' v ts
/-- One token more. -/
theorem toks_more {x y z : List UInt8} {ts : List Tv} {p : Tv} (h : feedB x = (ts.map Prod.fst ++ (feedB y).1, (feedB y).2)) (hy : feedB y = (p.1 :: (feedB z).1, (feedB z).2)) : feedB x = ((ts ++ [p]).map Prod.fst ++ (feedB z).1, (feedB z).2) := by
  rw [h, hy]; simp
theorem toks_none {x y z : List UInt8} {ts : List Tv} (h : feedB x = (ts.map Prod.fst ++ (feedB y).1, (feedB y).2)) (hy : feedB y = ((feedB z).1, (feedB z).2)) : feedB x = (ts.map Prod.fst ++ (feedB z).1, (feedB z).2) := by
  rw [h, hy]
theorem toks_end {x y : List UInt8} {ts : List Tv} (h : feedB x = (ts.map Prod.fst ++ (feedB y).1, (feedB y).2)) (hy : feedB y = ([], y)) : ts.map Prod.fst = (feedB x).1 ∧ y = (feedB x).2 := by
  rw [h, hy]; simp
theorem tag_inside (y : List UInt8) (e : Nat) : (ofL y).extract 1 e = ofL ((y.take e).drop 1) := by
  rw [extract_eq, ofL_list]
  congr 1
  rw [List.drop_take]
/-- What TagOf answers, by cases. -/
theorem tagOut_cases {s : ByteArray} {w : World} {e : Ending} {w' : World} (h : TagOut s w e w') :
    (∃ a n c, tagB s.data.toList = none ∧ e = .returned (.tuple #[.agg #[.int .i64 0, .string ⟨#[]⟩, .slice a n c, .string ⟨#[]⟩], .bool false]) ∧ Below w.heap.size w w') ∨
    ∃ t a n c, tagB s.data.toList = some t ∧ e = .returned (.tuple #[.agg #[.int .i64 t.kind, .string t.name, .slice a n c, .string t.text], .bool true]) ∧ OwnK encA 2 187 w.heap.size w'.heap.size w' (.slice a n c) t.attrs ∧ Below w.heap.size w w' := by
  obtain ⟨⟨a, n, c⟩, he, ho, hb⟩ := h
  cases ht : tagB s.data.toList with
  | none =>
    have e1 : tagT s = tokZero := by unfold tagT; rw [ht]; rfl
    have e2 : tagOk s = false := by unfold tagOk; rw [ht]; rfl
    refine Or.inl ⟨a, n, c, rfl, ?_, hb⟩
    rw [he, e2, e1]; rfl
  | some t =>
    have e1 : tagT s = t := by unfold tagT; rw [ht]; rfl
    have e2 : tagOk s = true := by unfold tagOk; rw [ht]; rfl
    refine Or.inr ⟨t, a, n, c, rfl, ?_, ?_, hb⟩
    · rw [he, e2, e1]; rfl
    · rw [e1] at ho; exact ho
/-- One token in a new block, whose number is known otherwise. -/
theorem readsT_at (w : World) (p : Tv) (H : Nat) (hH : w.heap.size = H) {k : Int} {nm tx : ByteArray} {u : Value} (h1 : p.1.kind = k) (h2 : p.1.name = nm) (h3 : sv p.2 = u) (h4 : p.1.text = tx) :
    ReadsK encT 4 (H + 1) (w.alloc (.cells #[.int .i64 k, .string nm, u, .string tx] 176)) (.slice (some ⟨H, 0, none⟩) 1 1) [p] := by
  subst hH; exact readsT_one w p h1 h2 h3 h4
/-- A slice of one new token. -/
theorem mineT_lit {B : Nat} {w0 w : World} (p : Tv) (H : Nat) (hH : w.heap.size = H) (hB : B ≤ w.heap.size) (hb : Below B w0 w) {k : Int} {nm tx : ByteArray} {u : Value} (h1 : p.1.kind = k) (h2 : p.1.name = nm) (h3 : sv p.2 = u) (h4 : p.1.text = tx)
    (hi : OwnK encA 2 187 B w.heap.size w (sv p.2) p.1.attrs) : MineT B w0 (w.alloc (.cells #[.int .i64 k, .string nm, u, .string tx] 176)) (.slice (some ⟨H, 0, none⟩) 1 1) [p] := by
  subst hH; subst h1; subst h2; subst h3; subst h4
  have ha : Below w.heap.size w (w.alloc (.cells #[.int .i64 p.1.kind, .string p.1.name, sv p.2, .string p.1.text] 176)) := (Below.refl _ w).alloc (Nat.le_refl _) _
  refine ⟨⟨?_, hb.trans (ha.mono hB), by rw [size_alloc]; omega⟩, fun q hq => ?_, ?_⟩
  · have := World.ownsRow_lit (base := B) (e := 176) (size := 4) w #[.int .i64 p.1.kind, .string p.1.name, sv p.2, .string p.1.text] 1 hB (by decide) (by simp)
    exact this
  · rw [List.mem_singleton] at hq
    subst hq
    exact (hi.later ha).mono (Nat.le_refl _) ha.size
  · unfold insB
    rw [List.flatMap_cons, List.flatMap_nil, List.append_nil]
    cases (sv p.2).ownBlock with
    | none => exact List.nodup_nil
    | some g => simp
theorem endB_nil : endB [] = [] := by simp [endB]
theorem endB_tag {r : List UInt8} (h : r[0]? = some 60) : endB r = [] := by unfold endB; rw [if_pos (Or.inr h)]
theorem endB_text {r : List UInt8} (h : r ≠ []) (h2 : r[0]? ≠ some 60) : endB r = [tokText (ofL r)] := by unfold endB; rw [if_neg (by rintro (h3 | h3); exact h h3; exact h2 h3)]
theorem toks_nodup {B : Nat} {w0 wr w1 : World} {v : Value} {ts : List Tv} {p : Tv} {hi : Nat} (h : MineT B w0 wr v ts) (ho : OwnK encA 2 187 wr.heap.size hi w1 (sv p.2) p.1.attrs) : (insB ts ++ insB [p]).Nodup := by
  rw [List.nodup_append]
  refine ⟨h.nod, ?_, fun a ha b hb e => ?_⟩
  · unfold insB
    rw [List.flatMap_cons, List.flatMap_nil, List.append_nil]
    cases (sv p.2).ownBlock with
    | none => exact List.nodup_nil
    | some g => simp
  · subst e
    obtain ⟨q, hq, hb2⟩ := insB_mem.1 hb
    rw [List.mem_singleton] at hq
    subst hq
    have h1 := (h.lt a ha).2
    have h2 := (ho.1.lt a hb2).1
    omega
theorem idx_tag {y : List UInt8} (h0 : idxB 60 y = 0) (h1 : idxB 62 y < y.length) : 1 ≤ idxB 62 y := by
  cases y with
  | nil => exact absurd h1 (Nat.not_lt_zero _)
  | cons b l =>
    have hb : b = 60 := by
      have := idxB_at (c := 60) (l := b :: l) (by rw [h0]; simp)
      rw [h0] at this
      simpa using this
    subst hb
    rw [idxB, if_neg (by decide)]; omega

/- LawT -/
open Go.ChangeShapes Go.WideShapes Go.ChangeAt Go.RowKit

theorem tagB_attrs {l : List UInt8} {t : Tok} (h : tagB l = some t) : t.attrs.length ≤ 4 := by
  unfold tagB at h
  split at h
  · cases h
  · split at h
    · split at h
      · cases h; exact Nat.zero_le _
      · cases h
    · split at h
      · cases h
      · split at h
        · cases h
        · split at h
          · rename_i hh; cases h; exact hh.2
          · cases h
theorem feed_attrs (a : List UInt8) : ∀ t ∈ (feedB a).1, t.attrs.length ≤ 4 := by
  generalize hn : a.length = n
  induction n using Nat.strongRecOn generalizing a with
  | _ n ih =>
    by_cases h1 : 0 < idxB 60 a ∧ idxB 60 a < a.length
    · rw [feed_text h1.1 h1.2]
      intro t ht
      rcases List.mem_cons.1 ht with h | h
      · subst h; exact Nat.zero_le _
      · exact ih (a.length - idxB 60 a) (by omega) (a.drop (idxB 60 a)) List.length_drop t h
    · by_cases h2 : idxB 60 a = 0 ∧ idxB 62 a < a.length
      · rw [feed_tag h2.1 h2.2]
        intro t ht
        rcases List.mem_append.1 ht with h | h
        · exact tagB_attrs (Option.mem_toList.1 h)
        · exact ih (a.length - (idxB 62 a + 1)) (by omega) (a.drop (idxB 62 a + 1)) List.length_drop t h
      · have hl := idxB_le 60 a
        have hl2 := idxB_le 62 a
        rw [feed_end (x := a) (by omega) h1]
        intro t ht; cases ht
theorem end_attrs (r : List UInt8) : ∀ t ∈ endB r, t.attrs.length ≤ 4 := by
  intro t ht
  unfold endB at ht
  split at ht
  · cases ht
  · rw [List.mem_singleton] at ht; subst ht; exact Nat.zero_le _
theorem tokens_attrs (s : List UInt8) : ∀ t ∈ tokensB s, t.attrs.length ≤ 4 := by
  intro t ht
  rcases List.mem_append.1 ht with h | h
  · exact feed_attrs s t h
  · exact end_attrs _ t h
theorem atCells_count : ∀ ats : List At, countL (atCells ats) = 2 * ats.length
  | [] => rfl
  | a :: ats => by rw [atCells, countL, countL, Rw.count, Rw.count, atCells_count ats, List.length_cons]; omega
theorem rwA_count (v : Value) (ats : List At) : (rwA v ats).count = 2 * ats.length := by rw [rwA, Rw.count, atCells_count]
theorem tkCells_count : ∀ {ts : List Tv}, (∀ p ∈ ts, p.1.attrs.length ≤ 4) → countL (tkCells ts) ≤ 11 * ts.length
  | [], _ => by rw [tkCells, countL]; exact Nat.zero_le _
  | p :: ts, h => by
    have ih := tkCells_count fun q hq => h q (List.mem_cons_of_mem _ hq)
    have h1 := h p List.mem_cons_self
    rw [tkCells, countL, countL, countL, countL, Rw.count, Rw.count, Rw.count, rwA_count, List.length_cons]; omega
theorem rwT_small {v : Value} {ts : List Tv} {l : List Tok} (h : ts.map Prod.fst = l) (ha : ∀ t ∈ l, t.attrs.length ≤ 4) : (rwT v ts).count ≤ 11 * l.length := by
  rw [rwT, Rw.count]
  subst h
  rw [List.length_map]
  exact tkCells_count fun p hp => ha p.1 (List.mem_map_of_mem hp)
theorem mark_is_read {x : Rw} {lo hi k hi' : Nat} {w : World} (h : (x.mark k).OwnR lo hi w) (hh : hi ≤ hi') : (x.mark k).ReadR hi' w := Rw.ReadR.mono hh _ (Rw.OwnR.reads _ h)
theorem own_read {x : Rw} {lo hi hi' : Nat} {w : World} (h : x.OwnR lo hi w) (hh : hi ≤ hi') : x.ReadR hi' w := Rw.ReadR.mono hh _ (Rw.OwnR.reads _ h)
/-- What another call owns is as it was when this call's own is written. -/
theorem own_apart {x y : Rw} {lo hi lo' hi' : Nat} {w w' : World} (h : x.OwnR lo hi w) (hy : y.OwnR lo' hi' w) (hh : hi ≤ lo') (ho : OnlyB y.blocks w w') : x.OwnR lo hi w' := by
  refine Rw.OwnR.only ho x h fun b hb hby => ?_
  have h1 := Rw.OwnR.lt x h b hb
  have h2 := Rw.OwnR.lt y hy b hby
  omega
theorem own_back {y : Rw} {lo hi : Nat} {w0 w w' : World} (hb : Below lo w0 w) (hy : y.OwnR lo hi w) (hl : lo ≤ w.heap.size) (ho : OnlyB y.blocks w w') : Below lo w0 w' :=
  hb.trans (ho.below (fun b hbm => (Rw.OwnR.lt y hy b hbm).1) hl)
theorem optL_nodup (o : Option Nat) : o.toList.Nodup := by cases o <;> simp
/-- What TagOf answers, in letters. -/
theorem tagOut_all {s : ByteArray} {w : World} {e : Ending} {w' : World} (h : TagOut s w e w') :
    ∃ a n c, e = .returned (.tuple #[.agg #[.int .i64 (tagT s).kind, .string (tagT s).name, .slice a n c, .string (tagT s).text], .bool (tagOk s)]) ∧ OwnK encA 2 187 w.heap.size w'.heap.size w' (.slice a n c) (tagT s).attrs ∧ Below w.heap.size w w' := by
  obtain ⟨⟨a, n, c⟩, he, ho, hb⟩ := h
  exact ⟨a, n, c, he, ho, hb⟩

/- LawBd -/
open Go.ChangeShapes Go.WideShapes Go.ChangeAt Go.RowKit

mutual
theorem count_data : ∀ (x y : Rw), x.data = y.data → x.count = y.count
  | .leaf v, .leaf u, _ => rfl
  | .leaf v, .sl u n k e cs, h => by rw [Rw.data, Rw.data] at h; cases h
  | .sl u n k e cs, .leaf v, h => by rw [Rw.data, Rw.data] at h; cases h
  | .sl v n k e cs, .sl u m j f ds, h => by
    rw [Rw.data, Rw.data] at h
    rw [Rw.count, Rw.count]
    exact countL_data cs ds (Dt.sl.inj h).2
theorem countL_data : ∀ (cs ds : List Rw), dataL cs = dataL ds → countL cs = countL ds
  | [], [], _ => rfl
  | [], d :: ds, h => by rw [dataL, dataL] at h; cases h
  | c :: cs, [], h => by rw [dataL, dataL] at h; cases h
  | c :: cs, d :: ds, h => by
    rw [dataL, dataL] at h
    obtain ⟨h1, h2⟩ := List.cons.inj h
    rw [countL, countL, count_data c d h1, countL_data cs ds h2]
end
/-- A copy of a builder that came in, as a reading. -/
theorem tb_any {w X : World} {nv ov : Value} {ns : List Nv} {zs : List Int} (hr : ReadN w.heap.size w nv ns) (hi : Reads .i64 w.heap.size w ov zs) (hl : (rwN nv ns).weight ≤ 1048576) (hl2 : (rwI ov zs).weight ≤ 1048576) (hb : Below w.heap.size w X) :
    Calls Tryz.prog 44 #[.agg #[nv, ov]] X fun e w' => ∃ na nn nc oa on oc, e = .returned (.agg #[.slice na nn nc, .slice oa on oc]) ∧ BdIn w'.heap.size w' (.slice na nn nc) (.slice oa on oc) ⟨ns.map Prod.fst, zs⟩ ∧ Below X.heap.size X w' := by
  refine (toL_Builder (rwN nv ns) (rwI ov zs) X (rwN_is _ _) (rwN_reads ((hr.below hb (Nat.le_refl _)).mono hb.size)) (by omega) (rwI_is _ _) (rwI_reads.2 ((hi.below hb (Nat.le_refl _)).mono hb.size)) (by omega)).mono ?_
  rintro e w' ⟨y0, y1, rfl, i0, d0, i1, d1, ho, _, hb'⟩
  have h := bdIn_of d0 i1 d1 ho
  obtain ⟨na, nn, nc, e0⟩ := sl_form (is_sl_NodeS i0) (Rw.OwnR.reads _ (ownL_two.1 ho).1)
  obtain ⟨oa, on, oc, e1⟩ := sl_form (is_sl_IntS i1) (Rw.OwnR.reads _ (ownL_two.1 ho).2)
  rw [e0, e1] at h
  exact ⟨na, nn, nc, oa, on, oc, by rw [e0, e1], h, hb'⟩

/- LawA -/
open Go.ChangeShapes Go.WideShapes Go.ChangeAt Go.RowKit

theorem ownTk {lo hi : Nat} {w : World} {y : Rw} {v u : Value} {ats : List At} (d : y.data = (rwA u ats).data) (e : y.cell = v) (h : OwnRL lo hi w [y]) : ReadsK encA 2 w.heap.size w v ats := by
  subst e; exact attrs_of_data d (rd_of (ownL_one.1 h))
/-- What AddToken answers, with the places of all that it made. -/
def AddForm (b : Bd) (t : Tok) (X : World) (e : Ending) (w' : World) : Prop :=
  ∃ na nn nc oa on oc ns, e = .returned (.tuple #[.agg #[.slice na nn nc, .slice oa on oc], .int .i64 (addTok b t).2]) ∧ ns.map Prod.fst = (addTok b t).1.nodes ∧ BdM X.heap.size X w' (.slice na nn nc) (.slice oa on oc) ns (addTok b t).1.opn
theorem addForm {b : Bd} {t : Tok} {X w' : World} {e : Ending} (h : AddOut b t X e w') : AddForm b t X e w' := by
  obtain ⟨nv, ov, he, hb⟩ := h
  obtain ⟨na, nn, nc, oa, on, oc, rfl, rfl⟩ := hb.lens
  obtain ⟨ns, hns, hm, ho⟩ := hb
  exact ⟨na, nn, nc, oa, on, oc, ns, he, hns, ⟨hm, ho⟩⟩
theorem adds_any {X : World} {nv ov : Value} {b : Bd} {kd : Int} {nm tx : ByteArray} {ats : List At} {ta : Option Addr} {tn tc : Nat} (hb : BdIn X.heap.size X nv ov b) (hf : Fits b) (ht : ReadsK encA 2 X.heap.size X (.slice ta tn tc) ats) (hta : ats.length ≤ 1048576) :
    Calls Tryz.prog 130 #[.agg #[nv, ov], .agg #[.int .i64 kd, .string nm, .slice ta tn tc, .string tx]] X (AddForm b ⟨kd, nm, ats, tx⟩ X) :=
  (add_spec nv ov b ⟨kd, nm, ats, tx⟩ ta tn tc X hb hf ht (by show ats.length ≤ _; omega)).mono fun _ _ h => addForm h
/-- What an argument may hold so that append stays within its reach. -/
theorem fits_row {v u : Value} {ns : List Nv} {zs : List Int} (h : (rwN v ns).weight ≤ 1048576) (h2 : (rwI u zs).weight ≤ 1048576) : Fits ⟨ns.map Prod.fst, zs⟩ := by
  have := (rwN_weight v ns).1
  rw [rwI_weight] at h2
  exact ⟨by show ndW (ns.map Prod.fst) ≤ _; omega, by show zs.length ≤ _; omega⟩
theorem attrs_row {v : Value} {ats : List At} (h : (rwA v ats).weight ≤ 1048576) : ats.length ≤ 1048576 := by
  rw [rwA, Rw.weight] at h; omega
theorem bd_al {B : Nat} {w0 w : World} {nv ov : Value} {ns : List Nv} {zs : List Int} (h : BdM B w0 w nv ov ns zs) (o : Obj) : BdM B w0 (w.alloc o) nv ov ns zs := h.later ((Below.refl _ _).alloc (Nat.le_refl _) o)
theorem bd_st2 {B c : Nat} {w0 w : World} {nv ov u v : Value} {ns : List Nv} {zs : List Int} (hb : w.heap[c]? = some (.cells zBd 40 (0, 0))) (hB : B ≤ c) (h : BdM B w0 w nv ov ns zs) : BdM B w0 ((w.setCell ⟨c, 0, none⟩ u).setCell ⟨c, 1, none⟩ v) nv ov ns zs := (h.setT hb hB).setT (Box2.set0 hb u) hB
theorem heap_bl {X w' : World} {g : Nat} {o : Obj} (k : Below X.heap.size X w') (h : X.heap[g]? = some o) : w'.heap[g]? = some o := below_heap k (heap_lt h) h
theorem bd_nobox {B c : Nat} {w0 w : World} {x y nv ov : Value} {ns : List Nv} {zs : List Int} (hq : Box2 w c x y) (h : BdM B w0 w nv ov ns zs) : c ∉ blocksL [rwN nv ns, rwI ov zs] := by
  intro hc
  rw [blocksL, blocksL, blocksL, List.append_nil] at hc
  rcases List.mem_append.1 hc with hc | hc
  · rw [rwN, Rw.blocks, ndCells_blocks] at hc
    rcases List.mem_append.1 hc with hc | hc
    · exact row_ne_box h.n.row.row hq nd_ne_bd.1 (by have : nv.ownBlock = some c := by simpa using hc
                                                     exact this.symm)
    · obtain ⟨p, hp, hpb⟩ := insN_mem.1 hc
      exact row_ne_box (h.n.inn p hp).1 hq nd_ne_bd.2.1 hpb.symm
  · rw [rwI_blocks] at hc
    exact row_ne_box h.o.row hq nd_ne_bd.2.2.1 (by have : ov.ownBlock = some c := by simpa using hc
                                                   exact this.symm)

/- LawB -/
open Go.ChangeShapes Go.WideShapes Go.ChangeAt Go.RowKit

theorem tkCells_cnt : ∀ ts : List Tv, countL (tkCells ts) = tkW (ts.map Prod.fst)
  | [] => rfl
  | p :: ts => by
    rw [tkCells, countL, countL, countL, countL, Rw.count, Rw.count, Rw.count, rwA, Rw.count, atCells_count', tkCells_cnt ts, List.map_cons, tkW]; omega
theorem rwT_cnt (v : Value) (ts : List Tv) : (rwT v ts).count = tkW (ts.map Prod.fst) := by rw [rwT, Rw.count, tkCells_cnt]
theorem tkCells_w : ∀ ts : List Tv, tkW (ts.map Prod.fst) ≤ 3 * ts.length + 2 * weightL (tkCells ts)
  | [] => Nat.le_refl _
  | p :: ts => by
    have := tkCells_w ts
    rw [tkCells, weightL, weightL, weightL, weightL, rwA, Rw.weight, Rw.weight, Rw.weight, Rw.weight, List.map_cons, tkW, List.length_cons]; omega
theorem rwT_w (v : Value) (ts : List Tv) : tkW (ts.map Prod.fst) ≤ 3 * (rwT v ts).weight := by
  have := tkCells_w ts
  rw [rwT, Rw.weight]; omega

/-- What AddTokens answers, with the places of all that it made. -/
def AddsForm (b : Bd) (ts : List Tok) (X : World) (e : Ending) (w' : World) : Prop :=
  ∃ na nn nc oa on oc ns, e = .returned (.agg #[.slice na nn nc, .slice oa on oc]) ∧ ns.map Prod.fst = (addToks b ts).nodes ∧ BdM X.heap.size X w' (.slice na nn nc) (.slice oa on oc) ns (addToks b ts).opn
theorem addsForm {b : Bd} {ts : List Tok} {X w' : World} {e : Ending} (h : AddsOut b ts X e w') : AddsForm b ts X e w' := by
  obtain ⟨nv, ov, he, hb⟩ := h
  obtain ⟨na, nn, nc, oa, on, oc, rfl, rfl⟩ := hb.lens
  obtain ⟨ns, hns, hm, ho⟩ := hb
  exact ⟨na, nn, nc, oa, on, oc, ns, he, hns, ⟨hm, ho⟩⟩

theorem ownTs {lo hi : Nat} {w : World} {y : Rw} {u : Value} {ts : List Tv} (d : y.data = (rwT u ts).data) (h : OwnRL lo hi w [y]) : ∃ tvs : List Tv, tvs.map Prod.fst = ts.map Prod.fst ∧ ReadT w.heap.size w y.cell tvs := toks_of_data d (rd_of (ownL_one.1 h))

theorem addsS_any {X : World} {nv ov lv : Value} {b : Bd} {ts : List Tok} (hb : BdIn X.heap.size X nv ov b) (ht : ∃ tvs : List Tv, tvs.map Prod.fst = ts ∧ ReadT X.heap.size X lv tvs) (hf : ndW b.nodes + tkW ts ≤ 68719476736) (hfo : b.opn.length ≤ 68719476736) :
    Calls Tryz.prog 165 #[.agg #[nv, ov], lv] X (AddsForm b ts X) := by
  obtain ⟨tvs, h1, h2⟩ := ht
  exact (adds_spec nv ov b lv tvs ts h1 X hb h2 hf hfo).mono fun _ _ h => addsForm h

/- NewB -/
open Go.ChangeShapes Go.WideShapes Go.ChangeAt Go.RowKit

/-- What NewBuilder answers, with the places of all that it made. -/
def NewForm (X : World) (e : Ending) (w' : World) : Prop :=
  ∃ na nn nc oa on oc ns, e = .returned (.agg #[.slice na nn nc, .slice oa on oc]) ∧ ns.map Prod.fst = bdNew.nodes ∧ BdM X.heap.size X w' (.slice na nn nc) (.slice oa on oc) ns bdNew.opn
theorem lit_row {w : World} {e : TypeId} {k B g : Nat} {cs : Array Value} (h : w.heap[g]? = some (.cells cs e (0, 0))) (hk : cs.size = k) (hB : B ≤ g) : w.ownsRow B e k (.slice (some ⟨g, 0, none⟩) 1 1) 1 cs.toList :=
  ⟨by rw [Nat.one_mul, Array.length_toList, hk], Or.inr ⟨g, 1, cs, rfl, hB, h, Nat.le_refl _, by decide, by rw [Nat.one_mul, hk], by rw [Nat.one_mul, ← hk, ← Array.length_toList, List.take_length]⟩⟩
abbrev nvNew : Nv := (⟨sPage, ⟨#[]⟩, -1, []⟩, svNil)
theorem new_made (w : World) : BdM w.heap.size w (((w.alloc (.cells #[.slice (some ⟨w.heap.size + 1, 0, none⟩) 1 1, .slice (some ⟨w.heap.size + 2, 0, none⟩) 1 1] 40)).alloc (.cells #[.string ⟨#[112, 97, 103, 101]⟩, .string ⟨#[]⟩, .int .i64 (-1), .slice none 0 0] 125)).alloc (.cells #[.int .i64 0] 3)) (.slice (some ⟨w.heap.size + 1, 0, none⟩) 1 1) (.slice (some ⟨w.heap.size + 2, 0, none⟩) 1 1) [nvNew] [0] := by
  have hB : Below w.heap.size w (((w.alloc (.cells #[.slice (some ⟨w.heap.size + 1, 0, none⟩) 1 1, .slice (some ⟨w.heap.size + 2, 0, none⟩) 1 1] 40)).alloc (.cells #[.string ⟨#[112, 97, 103, 101]⟩, .string ⟨#[]⟩, .int .i64 (-1), .slice none 0 0] 125)).alloc (.cells #[.int .i64 0] 3)) := (((Below.refl _ _).alloc (Nat.le_refl _) _).alloc (by rw [size_alloc]; omega) _).alloc (by rw [size_alloc, size_alloc]; omega) _
  have h1 := three_new1 w (.cells #[.slice (some ⟨w.heap.size + 1, 0, none⟩) 1 1, .slice (some ⟨w.heap.size + 2, 0, none⟩) 1 1] 40) (.cells #[.string ⟨#[112, 97, 103, 101]⟩, .string ⟨#[]⟩, .int .i64 (-1), .slice none 0 0] 125) (.cells #[.int .i64 0] 3)
  have h2 := three_new2 w (.cells #[.slice (some ⟨w.heap.size + 1, 0, none⟩) 1 1, .slice (some ⟨w.heap.size + 2, 0, none⟩) 1 1] 40) (.cells #[.string ⟨#[112, 97, 103, 101]⟩, .string ⟨#[]⟩, .int .i64 (-1), .slice none 0 0] 125) (.cells #[.int .i64 0] 3)
  refine ⟨⟨⟨?_, hB, hB.size⟩, fun p hp => ?_, by simp [insN, nvNew, sv, svNil, Value.ownBlock]⟩, ⟨?_, hB, hB.size⟩⟩
  · exact lit_row (k := 4) h1 rfl (by omega)
  · rw [List.mem_singleton] at hp; subst hp; exact ownK_nil _ _ _ _ _ _
  · exact lit_row (k := 1) h2 rfl (by omega)

set_option maxHeartbeats 1000000 in
theorem new_spec (w : World) : Calls Tryz.prog 166 #[] w (NewForm w) := by
  have HO := Lib.hid (new_made w)
  go_enter Tryz.func166, Tryz.ntmps166
  go_wp2_with fail
  refine bodyPost_ret (v := .agg #[.slice (some ⟨w.heap.size + 1, 0, none⟩) 1 1, .slice (some ⟨w.heap.size + 2, 0, none⟩) 1 1]) (by simp [results, Tryz.results166, go_sem]) rfl ?_
  exact ⟨_, _, _, _, _, _, [nvNew], rfl, rfl, HO.out⟩

/- DrawBd -/
open Go.ChangeShapes Go.WideShapes Go.ChangeAt Go.RowKit

theorem tkW_four : ∀ ts : List Tok, (∀ t ∈ ts, t.attrs.length ≤ 4) → tkW ts ≤ 11 * ts.length
  | [], _ => Nat.le_refl _
  | t :: ts, h => by
    have h1 := h t List.mem_cons_self
    have h2 := tkW_four ts fun u hu => h u (List.mem_cons_of_mem _ hu)
    rw [tkW, List.length_cons]; omega
/-- The model's TokensOf, as a premise: what ToksS gives. -/
def ToksS : Prop := ∀ (s : ByteArray), s.size ≤ 536870912 → ∀ w : World, Calls Tryz.prog 167 #[.string s] w (ToksOut (tokensB s.data.toList) w)
set_option maxRecDepth 100000 in
set_option maxHeartbeats 2000000 in
theorem builder_any (HT : ToksS) (b : Nat) (sv : Value) (len : Nat) (w : World) (hc : Cur b sv len w) :
    Calls Tryz.prog 128 #[.pointer (some ⟨b, 0, none⟩)] w (BdGot b sv len w) := by
  have HC := Lib.hid hc; have HL := Lib.hid hc.lt; have HTK := Lib.hid HT; clear hc HT
  go_enter Tryz.func128, Tryz.ntmps128
  go_wp2_with fail
  refine (new_spec _).mono ?_
  rintro e w1 ⟨na, nn, nc, oa, on, oc, ns, rfl, hns, hM⟩
  have HNS := Lib.hid hns
  have hM0 := hM
  have hM := hM.down (bl_tr ((Below.refl w.heap.size w).alloc (Nat.le_refl _) _) hM.n.row.below) (by rw [size_alloc]; exact Nat.le_succ _)
  have HX1 := Lib.hid ((Box2.new w (.slice none 0 0) (.slice none 0 0)).below hM0.n.row.below (by rw [size_alloc]; exact Nat.lt_succ_self _))
  have HM := Lib.hid hM; have HC1 := Lib.hid (HC.out.below hM.n.row.below)
  have HK1 := Lib.hid (Kept.of_below (b := b) hM.n.row.below)
  clear hM hM0 hns
  go_wp2_with fail
  refine (page10_any b sv len _ HC1.out).mono ?_
  rintro e w2 ⟨s, rfl, hs, hc2, ho2⟩
  have HC2 := Lib.hid hc2; have HK2 := Lib.hid (HK1.out.trans ho2)
  have HM2 := Lib.hid (bdM_kept HM.out ho2 HL.out); have HX2 := Lib.hid (box_kept HX1.out ho2 (by have := HL.out; omega))
  have HS := Lib.hid (show s.size ≤ 6000 from hs)
  clear hc2 ho2 hs
  go_wp2_with fail
  refine (HTK.out s (by have := HS.out; omega) _).mono ?_
  rintro e w3 ⟨lv, tvs, rfl, hts, hT⟩
  obtain ⟨la, lc, rfl⟩ := hT.row.own.slice
  have HTS := Lib.hid hts; have HT3 := Lib.hid hT
  have HC3 := Lib.hid (HC2.out.below hT.row.below)
  have HK3 := Lib.hid (HK2.out.trans (Kept.of_below (b := b) hT.row.below))
  have HM3 := Lib.hid (HM2.out.later hT.row.below); have HX3 := Lib.hid (HX2.out.below hT.row.below HX2.out.lt)
  clear hts hT
  go_wp2_with fail
  refine (addsS_any (b := bdNew) (ts := tokensB s.data.toList) (HM3.out.reads HNS.out) ⟨tvs, HTS.out, HT3.out.reads (Nat.le_refl _)⟩ ?_ (by decide)).mono ?_
  · have h1 := tkW_four _ (tokens_attrs s.data.toList)
    have h2 := tokens_size s.data.toList
    rw [size_list] at h2
    have h3 := HS.out
    have h4 : ndW bdNew.nodes ≤ 100 := by decide
    omega
  rintro e w4 ⟨na4, nn4, nc4, oa4, on4, oc4, ns4, rfl, hns4, hM4⟩
  have HC4 := Lib.hid (HC3.out.below hM4.n.row.below)
  have HK4 := Lib.hid (HK3.out.trans (Kept.of_below (b := b) hM4.n.row.below))
  have HM4 := Lib.hid (hM4.down (Below.refl _ w4) (B' := w.heap.size) (w0' := w4) HK3.out.size)
  have HOK := Lib.hid (show BdOk 6000 ⟨ns4.map Prod.fst, (addToks bdNew (tokensB s.data.toList)).opn⟩ by
    rw [hns4]
    refine bdOk_adds _ _ (bdOk_new _) fun t ht => ?_
    have h1 := tokens_text_le s.data.toList t ht
    rw [size_list] at h1
    have h3 := HS.out
    exact ⟨by omega, tokens_attrs s.data.toList t ht, tokens_name_le s.data.toList t ht⟩)
  obtain ⟨⟨c0, c1⟩, f0, f1⟩ := (HX3.out.below hM4.n.row.below HX3.out.lt).cells
  have HX4 := Lib.hid (HX3.out.below hM4.n.row.below HX3.out.lt)
  clear hM4 hns4
  go_wp2_with fail
  obtain ⟨⟨r0, r1⟩, -⟩ := ((HX4.out.set0 (.slice na4 nn4 nc4)).set1 (.slice oa4 on4 oc4)).cells
  refine bodyPost_ret (v := .agg #[.slice na4 nn4 nc4, .slice oa4 on4 oc4]) (by simp [results, Tryz.results128, go_sem, r0, r1]) rfl ?_
  exact ⟨na4, nn4, nc4, oa4, on4, oc4, ns4, _, rfl, HOK.out, ((HM4.out.setT HX4.out (Nat.le_refl _)).setT (HX4.out.set0 _) (Nat.le_refl _)).down (Below.refl _ _) (Nat.le_refl _), cur_setB (cur_setB HC4.out HL.out _ _) HL.out _ _, kept_set (kept_set HK4.out (Nat.le_refl _) _ _) (Nat.le_refl _) _ _⟩
end Go.Proofs.YtgcdfkpidcdicaaGreatDoor
