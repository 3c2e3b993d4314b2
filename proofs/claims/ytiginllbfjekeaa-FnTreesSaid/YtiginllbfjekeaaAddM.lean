/- Helper contracts: AddTokens of the program and of the model. -/
import Derived.Test.YtiginllbfjekeaaAddL
namespace Go.Proofs.Ytiginllbfjekeaa
open Go.ChangeShapes Go.WideShapes Go.ChangeAt Go.RowKit

/-- How much tokens add. -/
def tkW : List Tok → Nat
  | [] => 0
  | t :: ts => 3 + 2 * t.attrs.length + tkW ts
theorem tkW_take : ∀ (ts : List Tok) (k : Nat), tkW (ts.take k) ≤ tkW ts
  | [], k => by rw [List.take_nil]; exact Nat.le_refl _
  | t :: ts, 0 => Nat.zero_le _
  | t :: ts, k + 1 => by
    have := tkW_take ts k
    rw [List.take_succ_cons, tkW, tkW]; omega
theorem tkW_at : ∀ {ts : List Tok} {t : Tok}, t ∈ ts → 3 + 2 * t.attrs.length ≤ tkW ts
  | [], t, h => by cases h
  | u :: ts, t, h => by
    rw [tkW]
    rcases List.mem_cons.1 h with e | h2
    · rw [e]; omega
    · have := tkW_at h2; omega
theorem addToks_W : ∀ (ts : List Tok) (b : Bd), ndW (addToks b ts).nodes ≤ ndW b.nodes + tkW ts
  | [], b => by rw [addToks, tkW]; omega
  | t :: ts, b => by
    have h := addToks_W ts (addTok b t).1
    have h2 := (addTok_W b t).1
    rw [addToks, tkW]; omega
theorem fits_take {b : Bd} {ts : List Tok} (h : ndW b.nodes + tkW ts ≤ 68719476736) (ho : b.opn.length ≤ 68719476736) (k : Nat) : Fits (addToks b (ts.take k)) := by
  have h1 := addToks_W (ts.take k) b
  have h2 := tkW_take ts k
  have h3 := (addToks_len (ts.take k) b).2
  exact ⟨by omega, by omega⟩
def AddsOut (b : Bd) (ts : List Tok) (w : World) (e : Ending) (w' : World) : Prop := ∃ nv ov, e = .returned (.agg #[nv, ov]) ∧ BdAt w.heap.size w w' nv ov (addToks b ts)
theorem tok_at {tvs : List Tv} {ts : List Tok} (h : tvs.map Prod.fst = ts) {k : Nat} {p : Tv} (hp : tvs[k]? = some p) : ts[k]? = some p.1 := by
  rw [← h, List.getElem?_map, hp]; rfl

set_option maxRecDepth 100000 in
set_option maxHeartbeats 8000000 in
theorem adds_impl (nv ov : Value) (b : Bd) (lv : Value) (tvs : List Tv) (ts : List Tok) (hts : tvs.map Prod.fst = ts) (w : World) (hb : BdIn w.heap.size w nv ov b) (hl : ReadT w.heap.size w lv tvs) (hf : ndW b.nodes + tkW ts ≤ 68719476736) (hfo : b.opn.length ≤ 68719476736) :
    Calls Try.prog 14 #[.agg #[nv, ov], lv] w (AddsOut b ts w) := by
  obtain ⟨la, lc, rfl, hl1, hl2⟩ := hl.form
  obtain ⟨n, hn⟩ : ∃ n, tvs.length = n := ⟨_, rfl⟩
  rw [hn] at hl hl1 ⊢
  have htl : ts.length = n := by rw [← hts, List.length_map, hn]
  obtain ⟨W0, hW0⟩ : ∃ W, (w.alloc (.cells #[nv, ov] 27)).alloc (.cells #[.slice none 0 0, .slice none 0 0] 27) = W := ⟨_, rfl⟩
  have q1 : Box2 W0 w.heap.size nv ov := by rw [← hW0]; exact (Box2.new _ _ _).alloc _
  have q2 : Box2 W0 (w.heap.size + 1) (.slice none 0 0) (.slice none 0 0) := by rw [← hW0, ← size_alloc w]; exact Box2.new _ _ _
  have hB0 : Below w.heap.size w W0 := by rw [← hW0]; exact ((Below.refl _ _).alloc (Nat.le_refl _) _).alloc (by rw [size_alloc]; omega) _
  have hbi := (hb.below hB0 (Nat.le_refl _)).mono hB0.size
  have HCP := Lib.hid (copy_impl w.heap.size nv ov b W0 hbi ⟨by omega, hfo⟩ q1.cells.1.1 q1.cells.1.2 q1.lt)
  have HW0 := Lib.hid hW0; have Q2 := Lib.hid q2; have HB0 := Lib.hid hB0; have HL := Lib.hid hl; have HN := Lib.hid hn; have HTL := Lib.hid htl; have HTS := Lib.hid hts
  have HF := Lib.hid hf; have HFO := Lib.hid hfo
  obtain ⟨a0, n0, c0', rfl⟩ : ∃ a n c, nv = .slice a n c := by obtain ⟨ns, _, hrn, _⟩ := hb; obtain ⟨a, c, e, _⟩ := hrn.form; exact ⟨_, _, _, e⟩
  obtain ⟨a1, n1, c1', rfl⟩ : ∃ a n c, ov = .slice a n c := by obtain ⟨ns, _, _, hro⟩ := hb; obtain ⟨a, c, e, _⟩ := reads_form hro; exact ⟨_, _, _, e⟩
  clear hb hl hf hfo hW0 q1 q2 hB0 hbi hn htl hts
  go_enter Try.func14, Try.ntmps14
  go_wp2_with fail
  rw [HW0.out]
  refine HCP.out.mono ?_
  rintro e w1 ⟨nv1, ov1, rfl, hb1⟩
  obtain ⟨na, nn, nc, oa, on, oc, rfl, rfl⟩ := hb1.lens
  have hbw := hb1.below
  obtain ⟨W1, hW1⟩ : ∃ W, w1.alloc (.cells #[.slice na nn nc, .slice oa on oc] 27) = W := ⟨_, rfl⟩
  have hb2 : Below w1.heap.size w1 W1 := by rw [← hW1]; exact (Below.refl _ _).alloc (Nat.le_refl _) _
  have q3 : Box2 W1 w1.heap.size (.slice na nn nc) (.slice oa on oc) := by rw [← hW1]; exact Box2.new _ _ _
  have HBD := Lib.hid ((hb1.lower HB0.out HB0.out.size).later hb2)
  have P2 := Lib.hid ((Q2.out.later hbw).later hb2)
  have P3 := Lib.hid q3
  obtain ⟨C, hC⟩ : ∃ C, w1.heap.size = C := ⟨_, rfl⟩
  have HC := Lib.hid (show w.heap.size + 1 < C by have := hbw.size; have := Q2.out.lt; omega)
  rw [hC] at P3
  have HCE := Lib.hid hC; have HW1 := Lib.hid hW1
  clear hb1 hbw hW1 hb2 q3 hC
  go_upto_region 2 with (fail)
  rw [HW1.out, HCE.out]
  go_wp2_with fail
  go_loopw [11] (fun i wr => ∃ (k : Nat) (na : Option Addr) (nn nc : Nat) (oa : Option Addr) (on oc : Nat), k ≤ n ∧ i = .int .i64 k ∧ Box2 wr C (.slice na nn nc) (.slice oa on oc) ∧ Box2 wr (w.heap.size + 1) (.slice none 0 0) (.slice none 0 0) ∧ BdAt w.heap.size w wr (.slice na nn nc) (.slice oa on oc) (addToks b (ts.take k)))
    (fun i _ => n - (intOf i).toNat)
  case atStart => exact ⟨0, _, _, _, _, _, _, Nat.zero_le _, rfl, P3.out, P2.out, by rw [List.take_zero]; exact HBD.out⟩
  case round =>
    obtain ⟨k, na, nn, nc, oa, on, oc, hk, rfl, hq3, hq2, hbd⟩ := hrel
    by_cases hlt : (k : Int) < (n : Int)
    · obtain ⟨p, hp⟩ : ∃ p, tvs[k]? = some p := ⟨_, List.getElem?_eq_getElem (by rw [HN.out]; omega)⟩
      obtain ⟨g, off, rfl, hg, c0, c1, c2, c3⟩ := (HL.out.below hbd.below (Nat.le_refl _)).at hp
      have hpa := (HL.out.below hbd.below (Nat.le_refl _)).2 p (List.mem_of_getElem? hp)
      have hpt := tok_at HTS.out hp
      have hal : p.1.attrs.length ≤ 68719476736 := by have := tkW_at (List.mem_of_getElem? hpt); have := HF.out; omega
      obtain ⟨⟨⟨kd, nm, ats, tx⟩, ⟨ta, tn, tc⟩⟩, rfl⟩ : ∃ q : Tv, p = q := ⟨p, rfl⟩
      replace c0 : _ = some (Value.int .i64 kd) := c0
      replace c1 : _ = some (Value.string nm) := c1
      replace c2 : _ = some (Value.slice ta tn tc) := c2
      replace c3 : _ = some (Value.string tx) := c3
      have hsz := hbd.size
      have bg : g < wr.heap.size := by omega
      have hfit := fits_take HF.out HFO.out k
      have hno : (addToks b (ts.take k)).nodes.length ≤ 68719476736 := by have := ndW_len (addToks b (ts.take k)).nodes; have := hfit.1; omega
      obtain ⟨mk, hmk⟩ : ∃ m, mkOf kd nm ta tn tc tx = m := ⟨_, rfl⟩
      have HMK := Lib.hid (fun W => hmk ▸ mkOf_any kd nm ta tn tc tx W)
      have HMA := Lib.hid (fun (W : World) (hW : Below wr.heap.size wr W) => hmk ▸ mark_add (B := w.heap.size) (w0 := w) (w := W) (c := C) (b := addToks b (ts.take k)) ⟨kd, nm, ats, tx⟩ ta tn tc (hq3.later hW) (by have := HC.out; omega) (hbd.later hW) ((hpa.below hW (by omega)).mono (by have := hW.size; omega)) hal hno hfit.2)
      have HMORE := Lib.hid (addToks_more (b := b) hpt)
      obtain ⟨R, hR⟩ : ∃ r, addTok (addToks b (ts.take k)) ⟨kd, nm, ats, tx⟩ = r := ⟨_, rfl⟩
      rw [hR] at HMA
      have HR := Lib.hid hR
      have HQ2 := Lib.hid hq2
      have HBT := Lib.hid ((Below.refl wr.heap.size wr).alloc (Nat.le_refl _) (.cells #[.int .i64 kd, .string nm, .slice ta tn tc, .string tx] 30))
      clear hq3 hq2 hbd hpa hpt hal hfit hno hmk hp hR
      go_wp2_with fail
      refine (HMK.out _).mono ?_
      rintro e w2 ⟨rfl, hg2⟩
      have HG2 := Lib.hid (HBT.out.trans (hg2.below.mono HBT.out.size)); clear hg2
      go_wp2_with fail
      refine (HMA.out _ HG2.out).mono ?_
      rintro e w3 ⟨nv3, ov3, rfl, hq3, hu3, hb3⟩
      obtain ⟨na3, nn3, nc3, oa3, on3, oc3, rfl, rfl⟩ := hb3.lens
      have HX := Lib.hid (show Box2 w3 C (.slice na3 nn3 nc3) (.slice oa3 on3 oc3) ∧ Box2 w3 (w.heap.size + 1) (.slice none 0 0) (.slice none 0 0) ∧ BdAt w.heap.size w w3 (.slice na3 nn3 nc3) (.slice oa3 on3 oc3) (addToks b (ts.take (k + 1))) from ⟨hq3, hu3 _ _ _ (show w.heap.size + 1 ≠ C by have := HC.out; omega) (HQ2.out.later HG2.out), by rw [HMORE.out]; show BdAt _ _ _ _ _ (addTok (addToks b (ts.take k)) ⟨kd, nm, ats, tx⟩).1; rw [HR.out]; exact hb3⟩)
      clear hq3 hu3 hb3
      go_wp2_with fail
      go_roundw
      case rel => exact ⟨k + 1, _, _, _, _, _, _, by omega, by go_num, HX.out⟩
      case measure => simp [intOf]; omega
    · have hkn : k = n := by omega
      subst hkn
      rw [show ts.take k = ts from List.take_of_length_le (by rw [HTL.out]; exact Nat.le_refl _)] at hbd
      obtain ⟨ns3, hns3, hm3, ho3⟩ := hbd
      have HO := Lib.hid (out_box (⟨hm3, ho3⟩ : BdM w.heap.size w wr _ _ ns3 (addToks b ts).opn) hq2 (Nat.le_succ _))
      have HN3 := Lib.hid hns3
      obtain ⟨⟨d0, d1⟩, f0, f1⟩ := hq2.cells
      obtain ⟨⟨d2, d3⟩, _, _⟩ := hq3.cells
      have bC := hq3.lt; have bH := hq2.lt
      clear hq3 hm3 ho3 hq2 hns3
      go_wp2_with fail
      obtain ⟨⟨r0, r1⟩, _⟩ := HO.out.1.cells
      refine bodyPost_ret (v := .agg #[.slice na nn nc, .slice oa on oc]) (by simp [results, Try.results14, go_sem, r0, r1]) rfl ?_
      exact ⟨_, _, rfl, HO.out.2.at HN3.out⟩

set_option maxRecDepth 100000 in
set_option maxHeartbeats 8000000 in
theorem adds_spec (nv ov : Value) (b : Bd) (lv : Value) (tvs : List Tv) (ts : List Tok) (hts : tvs.map Prod.fst = ts) (w : World) (hb : BdIn w.heap.size w nv ov b) (hl : ReadT w.heap.size w lv tvs) (hf : ndW b.nodes + tkW ts ≤ 68719476736) (hfo : b.opn.length ≤ 68719476736) :
    Calls Try.prog 15 #[.agg #[nv, ov], lv] w (AddsOut b ts w) := by
  obtain ⟨la, lc, rfl, hl1, hl2⟩ := hl.form
  obtain ⟨n, hn⟩ : ∃ n, tvs.length = n := ⟨_, rfl⟩
  rw [hn] at hl hl1 ⊢
  have htl : ts.length = n := by rw [← hts, List.length_map, hn]
  obtain ⟨W0, hW0⟩ : ∃ W, (w.alloc (.cells #[nv, ov] 27)).alloc (.cells #[.slice none 0 0, .slice none 0 0] 27) = W := ⟨_, rfl⟩
  have q1 : Box2 W0 w.heap.size nv ov := by rw [← hW0]; exact (Box2.new _ _ _).alloc _
  have q2 : Box2 W0 (w.heap.size + 1) (.slice none 0 0) (.slice none 0 0) := by rw [← hW0, ← size_alloc w]; exact Box2.new _ _ _
  have hB0 : Below w.heap.size w W0 := by rw [← hW0]; exact ((Below.refl _ _).alloc (Nat.le_refl _) _).alloc (by rw [size_alloc]; omega) _
  have hbi := (hb.below hB0 (Nat.le_refl _)).mono hB0.size
  have HCP := Lib.hid (copy_spec nv ov b W0 hbi ⟨by omega, hfo⟩)
  have HW0 := Lib.hid hW0; have Q2 := Lib.hid q2; have HB0 := Lib.hid hB0; have HL := Lib.hid hl; have HN := Lib.hid hn; have HTL := Lib.hid htl; have HTS := Lib.hid hts
  have HF := Lib.hid hf; have HFO := Lib.hid hfo
  obtain ⟨a0, n0, c0', rfl⟩ : ∃ a n c, nv = .slice a n c := by obtain ⟨ns, _, hrn, _⟩ := hb; obtain ⟨a, c, e, _⟩ := hrn.form; exact ⟨_, _, _, e⟩
  obtain ⟨a1, n1, c1', rfl⟩ : ∃ a n c, ov = .slice a n c := by obtain ⟨ns, _, _, hro⟩ := hb; obtain ⟨a, c, e, _⟩ := reads_form hro; exact ⟨_, _, _, e⟩
  clear hb hl hf hfo hW0 q1 q2 hB0 hbi hn htl hts
  go_enter Try.func15, Try.ntmps15
  go_wp2_with fail
  rw [HW0.out]
  refine HCP.out.mono ?_
  rintro e w1 ⟨nv1, ov1, rfl, hb1⟩
  obtain ⟨na, nn, nc, oa, on, oc, rfl, rfl⟩ := hb1.lens
  have hbw := hb1.below
  obtain ⟨W1, hW1⟩ : ∃ W, w1.alloc (.cells #[.slice na nn nc, .slice oa on oc] 27) = W := ⟨_, rfl⟩
  have hb2 : Below w1.heap.size w1 W1 := by rw [← hW1]; exact (Below.refl _ _).alloc (Nat.le_refl _) _
  have q3 : Box2 W1 w1.heap.size (.slice na nn nc) (.slice oa on oc) := by rw [← hW1]; exact Box2.new _ _ _
  have HBD := Lib.hid ((hb1.lower HB0.out HB0.out.size).later hb2)
  have P2 := Lib.hid ((Q2.out.later hbw).later hb2)
  have P3 := Lib.hid q3
  obtain ⟨C, hC⟩ : ∃ C, w1.heap.size = C := ⟨_, rfl⟩
  have HC := Lib.hid (show w.heap.size + 1 < C by have := hbw.size; have := Q2.out.lt; omega)
  rw [hC] at P3
  have HCE := Lib.hid hC; have HW1 := Lib.hid hW1
  clear hb1 hbw hW1 hb2 q3 hC
  go_upto_region 2 with (fail)
  rw [HW1.out, HCE.out]
  go_wp2_with fail
  go_loopw [6] (fun i wr => ∃ (k : Nat) (na : Option Addr) (nn nc : Nat) (oa : Option Addr) (on oc : Nat), k ≤ n ∧ i = .int .i64 k ∧ Box2 wr C (.slice na nn nc) (.slice oa on oc) ∧ Box2 wr (w.heap.size + 1) (.slice none 0 0) (.slice none 0 0) ∧ BdAt w.heap.size w wr (.slice na nn nc) (.slice oa on oc) (addToks b (ts.take k)))
    (fun i _ => n - (intOf i).toNat)
  case atStart => exact ⟨0, _, _, _, _, _, _, Nat.zero_le _, rfl, P3.out, P2.out, by rw [List.take_zero]; exact HBD.out⟩
  case round =>
    obtain ⟨k, na, nn, nc, oa, on, oc, hk, rfl, hq3, hq2, hbd⟩ := hrel
    obtain ⟨⟨d2, d3⟩, fd2, fd3⟩ := hq3.cells
    have bC := hq3.lt
    by_cases hlt : (k : Int) < (n : Int)
    · obtain ⟨p, hp⟩ : ∃ p, tvs[k]? = some p := ⟨_, List.getElem?_eq_getElem (by rw [HN.out]; omega)⟩
      obtain ⟨g, off, rfl, hg, c0, c1, c2, c3⟩ := (HL.out.below hbd.below (Nat.le_refl _)).at hp
      have hpa := (HL.out.below hbd.below (Nat.le_refl _)).2 p (List.mem_of_getElem? hp)
      have hpt := tok_at HTS.out hp
      have hal : p.1.attrs.length ≤ 68719476736 := by have := tkW_at (List.mem_of_getElem? hpt); have := HF.out; omega
      obtain ⟨⟨⟨kd, nm, ats, tx⟩, ⟨ta, tn, tc⟩⟩, rfl⟩ : ∃ q : Tv, p = q := ⟨p, rfl⟩
      replace c0 : _ = some (Value.int .i64 kd) := c0
      replace c1 : _ = some (Value.string nm) := c1
      replace c2 : _ = some (Value.slice ta tn tc) := c2
      replace c3 : _ = some (Value.string tx) := c3
      have hsz := hbd.size
      have bg : g < wr.heap.size := by omega
      have hk0 : (0 : Int) ≤ (k : Int) := by omega
      have hfit := fits_take HF.out HFO.out k
      have HADD := Lib.hid (fun (X : World) (hX : Below wr.heap.size wr X) => show Calls Try.prog 8 #[.agg #[.slice na nn nc, .slice oa on oc], .agg #[.int .i64 kd, .string nm, .slice ta tn tc, .string tx]] X fun e wA => ∃ naA nnA ncA oaA onA ocA z, e = .returned (.tuple #[.agg #[.slice naA nnA ncA, .slice oaA onA ocA], .int .i64 z]) ∧ Box2 wA C (.slice na nn nc) (.slice oa on oc) ∧ Box2 wA (w.heap.size + 1) (.slice none 0 0) (.slice none 0 0) ∧ BdAt w.heap.size w wA (.slice naA nnA ncA) (.slice oaA onA ocA) (addTok (addToks b (ts.take k)) ⟨kd, nm, ats, tx⟩).1 from by
        refine (add_spec (.slice na nn nc) (.slice oa on oc) (addToks b (ts.take k)) ⟨kd, nm, ats, tx⟩ ta tn tc X ((hbd.reads (Nat.le_refl _)).up hX) hfit ((hpa.below hX (by omega)).mono (by have := hX.size; omega)) hal).mono ?_
        rintro e wA ⟨nvA, ovA, rfl, hbA⟩
        obtain ⟨naA, nnA, ncA, oaA, onA, ocA, rfl, rfl⟩ := hbA.lens
        exact ⟨_, _, _, _, _, _, _, rfl, (hq3.later hX).later hbA.below, (hq2.later hX).later hbA.below, hbA.lower (hbd.below.trans (hX.mono hsz)) (Nat.le_trans hsz hX.size)⟩)
      have HMORE := Lib.hid (addToks_more (b := b) hpt)
      have HQ2 := Lib.hid hq2; have HQ3 := Lib.hid hq3; have HBE := Lib.hid hbd.below
      clear hq3 hq2 hbd hpa hpt hal hfit hp
      go_wp2_with fail
      go_region_with ((go_at_call 8; refine (HADD.out _ (by repeat' (first | (with_reducible exact Below.refl _ _) | (with_reducible refine bl_dr ?_) | (with_reducible refine bl_al ?_ _)))).mono ?_; rintro e wA ⟨naA, nnA, ncA, oaA, onA, ocA, zA, rfl, hq3A, hq2A, hbdA⟩; obtain ⟨⟨x0, x1⟩, y0, y1⟩ := hq3A.cells; have bCA := hq3A.lt))
      all_goals
        rw [← HMORE.out] at hbdA
        obtain ⟨nsA, hnsA, hmA, hoA⟩ := hbdA
        have HO := Lib.hid (out_box (⟨hmA, hoA⟩ : BdM w.heap.size w wA _ _ nsA (addToks b (ts.take (k + 1))).opn) hq3A (show w.heap.size ≤ C by have := HC.out; omega))
        have HNA := Lib.hid hnsA
        have HQA := Lib.hid ((hq2A.far (show w.heap.size + 1 ≠ C by have := HC.out; omega) (o := 0) (.slice naA nnA ncA)).far (show w.heap.size + 1 ≠ C by have := HC.out; omega) (o := 1) (.slice oaA onA ocA))
        clear hmA hoA hnsA hq2A hq3A
        go_wp2_with fail
        go_roundw
        case rel => exact ⟨k + 1, _, _, _, _, _, _, by omega, by go_num, HO.out.1, HQA.out, HO.out.2.at HNA.out⟩
        case measure => simp [intOf]; omega
    · have hkn : k = n := by omega
      subst hkn
      rw [show ts.take k = ts from List.take_of_length_le (by rw [HTL.out]; exact Nat.le_refl _)] at hbd
      obtain ⟨ns3, hns3, hm3, ho3⟩ := hbd
      have HO := Lib.hid (out_box (⟨hm3, ho3⟩ : BdM w.heap.size w wr _ _ ns3 (addToks b ts).opn) hq2 (Nat.le_succ _))
      have HN3 := Lib.hid hns3
      obtain ⟨⟨d0, d1⟩, f0, f1⟩ := hq2.cells
      have bH := hq2.lt
      clear hq3 hm3 ho3 hq2 hns3
      go_wp2_with fail
      obtain ⟨⟨r0, r1⟩, _⟩ := HO.out.1.cells
      refine bodyPost_ret (v := .agg #[.slice na nn nc, .slice oa on oc]) (by simp [results, Try.results15, go_sem, r0, r1]) rfl ?_
      exact ⟨_, _, rfl, HO.out.2.at HN3.out⟩
end Go.Proofs.Ytiginllbfjekeaa
