/- Helper contracts: addMarkup, AddToken and AddTokens of the program. -/
import Derived.Test.YtiginllbfjekeaaAddI
import Derived.Test.YtiginllbfjekeaaAddK
import Derived.Test.YtiginllbfjekeaaFmtI
namespace Go.Proofs.Ytiginllbfjekeaa
open Go.ChangeShapes Go.WideShapes Go.ChangeAt Go.RowKit

theorem BdAt.lens {B : Nat} {w0 w : World} {nv ov : Value} {b : Bd} (h : BdAt B w0 w nv ov b) : ∃ a n c a' n' c', nv = .slice a n c ∧ ov = .slice a' n' c' := by
  obtain ⟨ns, _, hm, ho⟩ := h
  obtain ⟨a, c, e⟩ := mineN_form hm
  obtain ⟨a', c', e'⟩ := mine_form ho
  exact ⟨_, _, _, _, _, _, e, e'⟩
theorem BOut.from {B : Nat} {w0 w w1 : World} {c : Nat} {b : Bd} {z : Int} {e : Ending} {w' : World} (h : BOut B w0 c b z w1 e w') (hu : Upd c w w1) : BOut B w0 c b z w e w' := by
  obtain ⟨nv, ov, h1, h2, h3, h4⟩ := h
  exact ⟨nv, ov, h1, h2, hu.trans h3, h4⟩

set_option maxRecDepth 100000 in
set_option maxHeartbeats 4000000 in
theorem mark_add {B : Nat} {w0 w : World} {c : Nat} {nv ov : Value} {b : Bd} (t : Tok) (ta : Option Addr) (tn tc : Nat) (hq : Box2 w c nv ov) (hB : B ≤ c) (hb : BdAt B w0 w nv ov b) (hr : ReadsK encA 2 w.heap.size w (.slice ta tn tc) t.attrs) (hta : t.attrs.length ≤ 68719476736) (hln : b.nodes.length ≤ 68719476736) (hlz : b.opn.length ≤ 68719476736) :
    Calls Try.prog 27 #[.pointer (some ⟨c, 0, none⟩), mkOf t.kind t.name ta tn tc t.text] w (BOut B w0 c (addTok b t).1 (addTok b t).2 w) := by
  obtain ⟨kd, nm, ats, tx⟩ := t
  dsimp only at hr hta ⊢
  by_cases h1 : kd = 1
  · subst h1
    have hE : addTok b ⟨1, nm, ats, tx⟩ = openB b nm ats := by unfold addTok; rw [if_pos rfl]
    rw [hE, show mkOf 1 nm ta tn tc tx = .iface 94 (.agg #[.string nm, .slice ta tn tc]) from rfl]
    have hb0 : Below w.heap.size w (w.alloc (.cells #[.string nm, .slice ta tn tc] 94)) := (Below.refl _ _).alloc (Nat.le_refl _) _
    have HO := Lib.hid (open_impl nm ta tn tc ats (hq.later hb0) hB (hb.later hb0) ((hr.below hb0 (Nat.le_refl _)).mono hb0.size) hta hln hlz)
    have HU := Lib.hid (show Upd c w (w.alloc (.cells #[.string nm, .slice ta tn tc] 94)) from Upd.below hb0)
    have o1 := as_o_o (.agg #[.string nm, .slice ta tn tc])
    obtain ⟨r, hre⟩ : ∃ r, openB b nm ats = r := ⟨_, rfl⟩
    rw [hre] at HO ⊢
    clear hE hb0 hq hb hr hre
    go_enter Try.func27, Try.ntmps27
    go_wp2_with fail
    refine HO.out.mono ?_
    rintro e w' ⟨nv', ov', rfl, hq', hu', hb'⟩
    have HX := Lib.hid (show Box2 w' c nv' ov' ∧ Upd c w w' ∧ BdAt B w0 w' nv' ov' r.1 from ⟨hq', HU.out.trans hu', hb'⟩)
    clear hq' hu' hb'
    go_wp2_with fail
    go_ret
    exact ⟨_, _, rfl, HX.out⟩
  by_cases h2 : kd = 2
  · subst h2
    have hE : addTok b ⟨2, nm, ats, tx⟩ = (closeB b nm, -1) := by unfold addTok; rw [if_neg (by show ¬ (2 : Int) = 1; decide), if_pos rfl]
    rw [hE, show mkOf 2 nm ta tn tc tx = .iface 97 (.agg #[.string nm]) from rfl]
    have hb0 : Below w.heap.size w (w.alloc (.cells #[.string nm] 97)) := (Below.refl _ _).alloc (Nat.le_refl _) _
    obtain ⟨ns, hns, hm, ho⟩ := hb
    have HO := Lib.hid (close_impl nm (hq.later hb0) hB ((⟨hm, ho⟩ : BdM B w0 w nv ov ns b.opn).later hb0) (by rw [← hns, List.length_map] at hln; exact hln) hlz)
    have HU := Lib.hid (show Upd c w (w.alloc (.cells #[.string nm] 97)) from Upd.below hb0)
    have o1 := as_c_o (.agg #[.string nm])
    have o2 := as_c_c (.agg #[.string nm])
    have HNS := Lib.hid hns
    clear hE hb0 hq hm ho hr hns
    go_enter Try.func27, Try.ntmps27
    go_wp2_with fail
    refine HO.out.mono ?_
    rintro e w' ⟨ov', rfl, hq', hu', hb'⟩
    rw [HNS.out] at hb'
    have HX := Lib.hid (show Box2 w' c nv ov' ∧ Upd c w w' ∧ BdAt B w0 w' nv ov' (closeB b nm) from ⟨hq', HU.out.trans hu', hb'.at (b := closeB b nm) HNS.out⟩)
    clear hq' hu' hb'
    go_wp2_with fail
    go_ret
    exact ⟨_, _, rfl, HX.out⟩
  by_cases h3 : kd = 3
  · subst h3
    have hE : addTok b ⟨3, nm, ats, tx⟩ = textB b tx := by unfold addTok; rw [if_neg (by show ¬ (3 : Int) = 1; decide), if_neg (by show ¬ (3 : Int) = 2; decide), if_pos rfl]
    rw [hE, show mkOf 3 nm ta tn tc tx = .iface 100 (.agg #[.string tx]) from rfl]
    have hb0 : Below w.heap.size w (w.alloc (.cells #[.string tx] 100)) := (Below.refl _ _).alloc (Nat.le_refl _) _
    obtain ⟨ns, hns, hm, ho⟩ := hb
    have hnl : ns.length = b.nodes.length := by rw [← hns, List.length_map]
    have hbd := (⟨hm, ho⟩ : BdM B w0 w nv ov ns b.opn).later hb0
    have HO := Lib.hid (push_text tx (hq.later hb0) hB hbd (by rw [hnl]; exact hln) hlz)
    have HU := Lib.hid (show Upd c w (w.alloc (.cells #[.string tx] 100)) from Upd.below hb0)
    have HQ := Lib.hid (hq.later hb0); have HBD := Lib.hid hbd
    have o1 := as_p_o (.agg #[.string tx])
    have o2 := as_p_c (.agg #[.string tx])
    have o3 := as_p_p (.agg #[.string tx])
    have HNS := Lib.hid hns; have HNL := Lib.hid hnl
    clear hE hb0 hq hm ho hr hns hbd
    go_enter Try.func27, Try.ntmps27
    go_wp2_with fail
    refine HO.out.mono ?_
    intro e w' hout
    obtain ⟨nv', ov', he, HX⟩ : ∃ nv' ov', e = .returned (.int .i64 (textB b tx).2) ∧ RowKit.Hid (Box2 w' c nv' ov' ∧ Upd c w w' ∧ BdAt B w0 w' nv' ov' (textB b tx).1) := by
      by_cases h0 : tx.size = 0
      · rw [if_pos h0] at hout
        obtain ⟨rfl, rfl⟩ := hout
        have e1 : textB b tx = (b, -1) := by unfold textB; rw [if_pos (Or.inl h0)]
        rw [e1]
        exact ⟨_, _, rfl, Lib.hid ⟨HQ.out, HU.out, HBD.out.at HNS.out⟩⟩
      · rw [if_neg h0] at hout
        obtain ⟨nv', ov', hq', hu', hr'⟩ := hout
        by_cases hc : 40 ≤ ns.length ∨ b.opn.length = 0
        · rw [if_pos hc] at hr'
          have e1 : textB b tx = (b, -1) := by unfold textB; rw [if_pos (Or.inr (roomB_no (by rw [HNL.out] at hc; exact hc)))]
          rw [e1]
          exact ⟨_, _, hr'.1, Lib.hid ⟨hq', HU.out.trans hu', hr'.2.at HNS.out⟩⟩
        · rw [if_neg hc] at hr'
          have hrm : roomB b = true := roomB_yes (by rw [HNL.out] at hc; omega) (by omega)
          have e1 : textB b tx = (⟨b.nodes ++ [⟨⟨#[]⟩, tx, lastOpen b, []⟩], b.opn⟩, (b.nodes.length : Int)) := by
            unfold textB; rw [if_neg (by rintro (h1 | h1); exact h0 h1; rw [hrm] at h1; exact absurd h1 (by decide))]
          rw [e1]
          exact ⟨_, _, by rw [hr'.1, HNL.out], Lib.hid ⟨hq', HU.out.trans hu', hr'.2.at (b := ⟨b.nodes ++ [⟨⟨#[]⟩, tx, lastOpen b, []⟩], b.opn⟩) (by rw [List.map_append, HNS.out]; rfl)⟩⟩
    subst he
    clear hout
    go_wp2_with fail
    go_ret
    exact ⟨_, _, rfl, HX.out⟩
  · have hE : addTok b ⟨kd, nm, ats, tx⟩ = (b, -1) := add_kind h1 h2 h3
    rw [hE, show mkOf kd nm ta tn tc tx = .nilIface by unfold mkOf; rw [if_neg h1, if_neg h2, if_neg h3]]
    have o1 := as_n_o
    have o2 := as_n_c
    have o3 := as_n_p
    have HX := Lib.hid (show Box2 w c nv ov ∧ Upd c w w ∧ BdAt B w0 w nv ov b from ⟨hq, Upd.refl _ _, hb⟩)
    clear hE hq hb hr h1 h2 h3
    go_enter Try.func27, Try.ntmps27
    go_wp2_with fail
    go_ret
    exact ⟨_, _, rfl, HX.out⟩

theorem addToks_len : ∀ (ts : List Tok) (b : Bd), (addToks b ts).nodes.length ≤ max 40 b.nodes.length ∧ (addToks b ts).opn.length ≤ max 8 b.opn.length
  | [], b => by rw [addToks]; omega
  | t :: ts, b => by
    have h := addToks_len ts (addTok b t).1
    have h2 := (addTok_W b t).2
    rw [addToks]; omega
theorem addToks_more {b : Bd} {ts : List Tok} {k : Nat} {t : Tok} (h : ts[k]? = some t) : addToks b (ts.take (k + 1)) = (addTok (addToks b (ts.take k)) t).1 := by
  rw [take_moreN h, addToks_append]

/-- The token's cells. -/
theorem ReadT.at {hi n cap k : Nat} {w : World} {a : Option Addr} {ts : List Tv} {p : Tv} (h : ReadT hi w (.slice a n cap) ts) (hk : ts[k]? = some p) :
    ∃ g off, a = some ⟨g, off, none⟩ ∧ g < hi ∧ w.cell? ⟨g, off + k * 4, none⟩ = some (.int .i64 p.1.kind) ∧ w.cell? ⟨g, off + k * 4 + 1, none⟩ = some (.string p.1.name) ∧ w.cell? ⟨g, off + k * 4 + 2, none⟩ = some (sv p.2) ∧ w.cell? ⟨g, off + k * 4 + 3, none⟩ = some (.string p.1.text) := by
  obtain ⟨⟨a', cap', e, h1, h2, h3, h4⟩, _⟩ := h
  cases e
  have hlt := (List.getElem?_eq_some_iff.1 hk).1
  rcases h4 with h4 | ⟨g, off, rfl, hg, hc⟩
  · omega
  · exact ⟨g, off, rfl, hg, hc k p hk 0 (by omega), hc k p hk 1 (by omega), hc k p hk 2 (by omega), hc k p hk 3 (by omega)⟩
theorem ReadT.form {hi : Nat} {w : World} {v : Value} {ts : List Tv} (h : ReadT hi w v ts) : ∃ a cap, v = .slice a ts.length cap ∧ ts.length ≤ cap ∧ cap ≤ 9223372036854775807 := by
  obtain ⟨⟨a, cap, e, h1, h2, _⟩, _⟩ := h
  exact ⟨a, cap, e, h1, h2⟩

set_option maxRecDepth 100000 in
set_option maxHeartbeats 4000000 in
theorem add_impl (nv ov : Value) (b : Bd) (t : Tok) (ta : Option Addr) (tn tc : Nat) (w : World) (hb : BdIn w.heap.size w nv ov b) (hf : Fits b) (ht : ReadsK encA 2 w.heap.size w (.slice ta tn tc) t.attrs) (hta : t.attrs.length ≤ 68719476736) :
    Calls Try.prog 7 #[.agg #[nv, ov], .agg #[.int .i64 t.kind, .string t.name, .slice ta tn tc, .string t.text]] w (AddOut b t w) := by
  obtain ⟨W0, hW0⟩ : ∃ W, ((w.alloc (.cells #[nv, ov] 27)).alloc (.cells #[.int .i64 t.kind, .string t.name, .slice ta tn tc, .string t.text] 30)).alloc (.cells #[.slice none 0 0, .slice none 0 0] 27) = W := ⟨_, rfl⟩
  have q1 : Box2 W0 w.heap.size nv ov := by rw [← hW0]; exact ((Box2.new _ _ _).alloc _).alloc _
  have qt : BoxT W0 (w.heap.size + 1) t.kind t.name (.slice ta tn tc) t.text := by
    rw [← hW0]
    have h := (BoxT.new (w.alloc (.cells #[nv, ov] 27)) t.kind t.name (.slice ta tn tc) t.text).alloc (.cells #[.slice none 0 0, .slice none 0 0] 27)
    rw [size_alloc] at h; exact h
  have q2 : Box2 W0 (w.heap.size + 2) (.slice none 0 0) (.slice none 0 0) := by
    rw [← hW0]
    have h := Box2.new ((w.alloc (.cells #[nv, ov] 27)).alloc (.cells #[.int .i64 t.kind, .string t.name, .slice ta tn tc, .string t.text] 30)) (.slice none 0 0) (.slice none 0 0)
    rw [size_alloc, size_alloc] at h; exact h
  have hB0 : Below w.heap.size w W0 := by rw [← hW0]; exact (((Below.refl _ _).alloc (Nat.le_refl _) _).alloc (by rw [size_alloc]; omega) _).alloc (by rw [size_alloc, size_alloc]; omega) _
  have hbi := (hb.below hB0 (Nat.le_refl _)).mono hB0.size
  have HCP := Lib.hid (copy_impl w.heap.size nv ov b W0 hbi hf q1.cells.1.1 q1.cells.1.2 q1.lt)
  have HNO := Lib.hid (show b.nodes.length ≤ 68719476736 by have := ndW_len b.nodes; have := hf.1; omega)
  have HOO := Lib.hid hf.2
  have HW0 := Lib.hid hW0; have QT := Lib.hid qt; have Q2 := Lib.hid q2; have HB0 := Lib.hid hB0; have HTA := Lib.hid hta
  have HT := Lib.hid ht
  obtain ⟨mk, hmk⟩ : ∃ m, mkOf t.kind t.name ta tn tc t.text = m := ⟨_, rfl⟩
  have HMK := Lib.hid (fun W => hmk ▸ mkOf_any t.kind t.name ta tn tc t.text W)
  have HMA := Lib.hid (fun (W : World) (c : Nat) (nv ov : Value) (hq : Box2 W c nv ov) (hB : w.heap.size ≤ c) (hbd : BdAt w.heap.size w W nv ov b) (hr : ReadsK encA 2 W.heap.size W (.slice ta tn tc) t.attrs) => hmk ▸ mark_add (B := w.heap.size) (w0 := w) (w := W) (c := c) (nv := nv) (ov := ov) (b := b) t ta tn tc hq hB hbd hr hta HNO.out HOO.out)
  obtain ⟨a0, n0, c0', rfl⟩ : ∃ a n c, nv = .slice a n c := by obtain ⟨ns, _, hrn, _⟩ := hb; obtain ⟨a, c, e, _⟩ := hrn.form; exact ⟨_, _, _, e⟩
  obtain ⟨a1, n1, c1', rfl⟩ : ∃ a n c, ov = .slice a n c := by obtain ⟨ns, _, _, hro⟩ := hb; obtain ⟨a, c, e, _⟩ := reads_form hro; exact ⟨_, _, _, e⟩
  obtain ⟨R, hR⟩ : ∃ r, addTok b t = r := ⟨_, rfl⟩
  rw [hR] at HMA
  have HR := Lib.hid hR
  clear hb hf ht hta hW0 q1 qt q2 hB0 hbi hmk hR
  go_enter Try.func7, Try.ntmps7
  go_wp2_with fail
  rw [HW0.out]
  refine HCP.out.mono ?_
  rintro e w1 ⟨nv1, ov1, rfl, hb1⟩
  obtain ⟨na, nn, nc, oa, on, oc, rfl, rfl⟩ := hb1.lens
  have hbw := hb1.below
  obtain ⟨W1, hW1⟩ : ∃ W, w1.alloc (.cells #[.slice na nn nc, .slice oa on oc] 27) = W := ⟨_, rfl⟩
  have hb2 : Below w1.heap.size w1 W1 := by rw [← hW1]; exact (Below.refl _ _).alloc (Nat.le_refl _) _
  have q3 : Box2 W1 w1.heap.size (.slice na nn nc) (.slice oa on oc) := by rw [← hW1]; exact Box2.new _ _ _
  have HBD := Lib.hid ((hb1.lower HB0.out HB0.out.size).later hb2)
  have PT := Lib.hid ((QT.out.later hbw).later hb2)
  have P2 := Lib.hid ((Q2.out.later hbw).later hb2)
  have P3 := Lib.hid q3
  obtain ⟨C, hC⟩ : ∃ C, w1.heap.size = C := ⟨_, rfl⟩
  have HC := Lib.hid (show w.heap.size + 2 < C by have := hbw.size; have := Q2.out.lt; omega)
  rw [hC] at P3
  have HCE := Lib.hid hC; have HW1 := Lib.hid hW1
  obtain ⟨t0, t1, t2, t3⟩ := PT.out.cells
  have bT := PT.out.lt
  clear hb1 hbw hW1 hb2 q3 hC
  go_upto_region 2 with (fail)
  rw [HW1.out, HCE.out]
  go_wp2_with fail
  refine (HMK.out _).mono ?_
  rintro e w2 ⟨rfl, hg2⟩
  have HG2 := Lib.hid hg2.below; clear hg2
  go_wp2_with fail
  refine (HMA.out _ C _ _ (P3.out.later HG2.out) (by have := HC.out; omega) (HBD.out.later HG2.out) ((HT.out.below (HBD.out.below.trans (HG2.out.mono HBD.out.size)) (Nat.le_refl _)).mono (by have := HBD.out.size; have := HG2.out.size; omega))).mono ?_
  rintro e w3 ⟨nv3, ov3, rfl, hq3, hu3, hb3⟩
  obtain ⟨na3, nn3, nc3, oa3, on3, oc3, rfl, rfl⟩ := hb3.lens
  obtain ⟨ns3, hns3, hm3, ho3⟩ := hb3
  have hq2 := hu3 _ _ _ (show w.heap.size + 2 ≠ C by have := HC.out; omega) (P2.out.later HG2.out)
  have HO := Lib.hid (out_box (⟨hm3, ho3⟩ : BdM w.heap.size w w3 _ _ ns3 R.1.opn) hq2 (Nat.le_add_right _ _))
  have HN3 := Lib.hid hns3
  obtain ⟨⟨d0, d1⟩, f0, f1⟩ := hq2.cells
  obtain ⟨⟨d2, d3⟩, _, _⟩ := hq3.cells
  have bC := hq3.lt; have bH := hq2.lt
  clear hq3 hu3 hm3 ho3 hq2 hns3
  go_wp2_with fail
  obtain ⟨⟨r0, r1⟩, _⟩ := HO.out.1.cells
  refine bodyPost_ret (v := .tuple #[.agg #[.slice na3 nn3 nc3, .slice oa3 on3 oc3], .int .i64 R.2]) (by simp [results, Try.results7, go_sem, r0, r1]) rfl ?_
  exact ⟨_, _, by rw [HR.out], by rw [HR.out]; exact HO.out.2.at HN3.out⟩
end Go.Proofs.Ytiginllbfjekeaa
