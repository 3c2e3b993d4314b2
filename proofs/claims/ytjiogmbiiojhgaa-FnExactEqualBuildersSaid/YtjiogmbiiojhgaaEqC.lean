/- Helper contracts: EqualBuilders of the program. -/
import Derived.Test.YtjiogmbiiojhgaaEqB
import Derived.Deep.RegionWith
import Derived.Deep.CutRange
namespace Go.Proofs.Ytjiogmbiiojhgaa
open Go.ChangeShapes Go.WideShapes Go.ChangeAt Go.RowKit

set_option maxRecDepth 100000 in
set_option maxHeartbeats 4000000 in
theorem eqB_impl (nv ov nv' ov' : Value) (a b : Bd) (w : World) (ha : BdIn w.heap.size w nv ov a) (hb : BdIn w.heap.size w nv' ov' b) :
    Calls Try.prog 17 #[.agg #[nv, ov], .agg #[nv', ov']] w fun e w' => e = .returned (.bool (decide (a = b))) ∧ Grw w w' := by
  obtain ⟨ns, hns, hrn, hro⟩ := ha
  obtain ⟨ns', hns', hrn', hro'⟩ := hb
  obtain ⟨na, nc, rfl, hc1, hc2⟩ := hrn.form
  obtain ⟨oa, oc, rfl, _⟩ := reads_form hro
  obtain ⟨na', nc', rfl, hd1, hd2⟩ := hrn'.form
  obtain ⟨oa', oc', rfl, _⟩ := reads_form hro'
  obtain ⟨n, hn⟩ : ∃ n, ns.length = n := ⟨_, rfl⟩
  obtain ⟨n', hn'⟩ : ∃ n, ns'.length = n := ⟨_, rfl⟩
  obtain ⟨on, hon⟩ : ∃ n, a.opn.length = n := ⟨_, rfl⟩
  obtain ⟨on', hon'⟩ : ∃ n, b.opn.length = n := ⟨_, rfl⟩
  rw [hn] at hrn hc1 ⊢; rw [hn'] at hrn' hd1 ⊢; rw [hon] at hro ⊢; rw [hon'] at hro' ⊢
  have hnl : a.nodes.length = n := by rw [← hns, List.length_map, hn]
  have hnl' : b.nodes.length = n' := by rw [← hns', List.length_map, hn']
  obtain ⟨W0, hW0⟩ : ∃ W, (w.alloc (.cells #[.slice na n nc, .slice oa on oc] 27)).alloc (.cells #[.slice na' n' nc', .slice oa' on' oc'] 27) = W := ⟨_, rfl⟩
  have hg0 : Grw w W0 := by rw [← hW0]; exact ((Grw.refl w).alloc _).alloc _
  have q1 : Box2 W0 w.heap.size (.slice na n nc) (.slice oa on oc) := by rw [← hW0]; exact (Box2.new _ _ _).alloc _
  have q2 : Box2 W0 (w.heap.size + 1) (.slice na' n' nc') (.slice oa' on' oc') := by rw [← hW0, ← size_alloc w]; exact Box2.new _ _ _
  obtain ⟨⟨a0, a1⟩, _⟩ := q1.cells
  obtain ⟨⟨b0, b1⟩, _⟩ := q2.cells
  have HEI := Lib.hid (eqI_impl _ _ _ _ a.opn b.opn W0 (hro.below hg0.below (Nat.le_refl _)) (hro'.below hg0.below (Nat.le_refl _)) hg0.below.size hg0.below.size)
  have HG := Lib.hid hg0; have HW0 := Lib.hid hW0; have Q1 := Lib.hid q1; have Q2 := Lib.hid q2
  have HRN := Lib.hid hrn; have HRN' := Lib.hid hrn'; have HNS := Lib.hid hns; have HNS' := Lib.hid hns'; have HNL := Lib.hid hnl; have HNL' := Lib.hid hnl'; have HN := Lib.hid hn; have HN' := Lib.hid hn'
  clear hrn hrn' hro hro' hns hns' hnl hnl' hn hn' hW0 hg0 q1 q2 hon hon'
  by_cases h1 : n = n'
  · subst h1
    have hnn : ((n : Int) != (n : Int)) = false := by rw [bne, beq_self_eq_true]; rfl
    by_cases h2 : a.opn = b.opn
    · have hd : decide (a.opn = b.opn) = true := decide_eq_true h2
      have H2 := Lib.hid h2
      rw [hd] at HEI
      clear h2 hd
      go_enter Try.func17, Try.ntmps17
      go_upto_region 1 with (fail)
      rw [HW0.out]
      go_wp2_with (go_at_call 60; refine HEI.out.mono ?_; rintro e w1 ⟨rfl, hg1⟩; have a0' := (Q1.out.later hg1.below).cells.1.1)
      have HG1 := Lib.hid hg1; clear hg1
      go_loopw [24] (fun i wr => ∃ (k : Nat), k ≤ n ∧ i = .int .i64 k ∧ PreL a.nodes b.nodes k ∧ Grw W0 wr)
        (fun i _ => n - (intOf i).toNat)
      case atStart => exact ⟨0, Nat.zero_le _, rfl, PreL.zero _ _, HG1.out⟩
      case round =>
        obtain ⟨k, hk, rfl, hpre, hs⟩ := hrel
        have q1 := Q1.out.later hs.below
        have q2 := Q2.out.later hs.below
        obtain ⟨⟨a0, a1⟩, _⟩ := q1.cells
        obtain ⟨⟨b0, b1⟩, _⟩ := q2.cells
        have bq1 := q1.lt; have bq2 := q2.lt
        have hgk := HG.out.trans hs
        have HS := Lib.hid hgk; have HP := Lib.hid hpre; have HS0 := Lib.hid hs
        clear hs hpre q1 q2 hgk
        by_cases hlt : (k : Int) < (n : Int)
        · obtain ⟨p, hp⟩ := nd_at (ns := ns) (k := k) (by rw [HN.out]; omega)
          obtain ⟨q, hq⟩ := nd_at (ns := ns') (k := k) (by rw [HN'.out]; omega)
          have hr := HRN.out.below HS.out.below (Nat.le_refl _)
          have hr' := HRN'.out.below HS.out.below (Nat.le_refl _)
          obtain ⟨g, off, rfl, hg, c0, c1, c2, c3⟩ := hr.at hp
          obtain ⟨g', off', rfl, hg', d0, d1, d2, d3⟩ := hr'.at hq
          have hsz := HS.out.below.size
          have hpa := (hr.node hp).mono hsz
          have hqa := (hr'.node hq).mono hsz
          have hpn := map_fst_at HNS.out hp
          have hqn := map_fst_at HNS'.out hq
          have HNA := Lib.hid (nodeAt_in w.heap.size g off n nc k wr a0 (by omega) (by omega))
          have HNB := Lib.hid (nodeAt_in (w.heap.size + 1) g' off' n nc' k wr b0 (by omega) (by omega))
          have HSM := Lib.hid (eqN_impl g (off + k * 4) g' (off' + k * 4) p q wr (by omega) (by omega) c0 c1 c2 c3 d0 d1 d2 d3 hpa hqa)
          obtain ⟨r, hrr⟩ : ∃ r, decide (p.1 = q.1) = r := ⟨_, rfl⟩
          rw [hrr] at HSM
          have HPN := Lib.hid hpn; have HQN := Lib.hid hqn; have HRR := Lib.hid hrr
          clear hp hq hr hr' c0 c1 c2 c3 d0 d1 d2 d3 hpa hqa hpn hqn hrr
          cases r with
          | true =>
            have HQ := Lib.hid (HP.out.step (by rw [HPN.out, HQN.out]; exact congrArg some (of_decide_eq_true HRR.out)))
            go_wp2_with (first | (go_at_call 62; with_reducible refine HNA.out.mono ?_; rintro e w' ⟨rfl, rfl⟩) | (go_at_call 62; with_reducible refine HNB.out.mono ?_; rintro e w' ⟨rfl, rfl⟩) | (go_at_call 61; refine HSM.out.mono ?_; rintro e w5 ⟨rfl, hg5⟩))
            have HG5 := Lib.hid hg5; clear hg5
            go_roundw
            case rel => exact ⟨k + 1, by omega, by go_num, HQ.out, HS0.out.trans HG5.out⟩
            case measure => simp [intOf]; omega
          | false =>
            have HNE := Lib.hid (bd_neq (a := a) (b := b) (Or.inl fun e => of_decide_eq_false HRR.out (by have h := HPN.out; rw [e, HQN.out] at h; exact (Option.some.inj h).symm)))
            go_wp2_with (first | (go_at_call 62; with_reducible refine HNA.out.mono ?_; rintro e w' ⟨rfl, rfl⟩) | (go_at_call 62; with_reducible refine HNB.out.mono ?_; rintro e w' ⟨rfl, rfl⟩) | (go_at_call 61; refine HSM.out.mono ?_; rintro e w5 ⟨rfl, hg5⟩))
            have HG5 := Lib.hid hg5; clear hg5
            go_ret
            exact ⟨ret_d (decide_eq_false HNE.out).symm, HS.out.trans HG5.out⟩
        · have hkn : k = n := by omega
          subst hkn
          have HE := Lib.hid (bd_eq (a := a) (b := b) (HP.out.full HNL.out HNL'.out) H2.out)
          go_wp2_with fail
          go_ret
          exact ⟨ret_d (decide_eq_true HE.out).symm, HS.out⟩
    · have hd : decide (a.opn = b.opn) = false := decide_eq_false h2
      rw [hd] at HEI
      have HNE := Lib.hid (bd_neq (a := a) (b := b) (Or.inr h2))
      clear h2 hd
      go_enter Try.func17, Try.ntmps17
      go_upto_region 1 with (fail)
      rw [HW0.out]
      go_wp2_with (go_at_call 60; refine HEI.out.mono ?_; rintro e w1 ⟨rfl, hg1⟩)
      have HG1 := Lib.hid (HG.out.trans hg1); clear hg1
      go_ret
      exact ⟨ret_d (decide_eq_false HNE.out).symm, HG1.out⟩
  · have hnn : ((n : Int) != (n' : Int)) = true := by rw [bne, beq_eq_false_iff_ne.2 (show (n : Int) ≠ (n' : Int) by omega)]; rfl
    have HNE := Lib.hid (bd_neq (a := a) (b := b) (Or.inl fun e => h1 (by rw [← HNL.out, ← HNL'.out, e])))
    clear h1
    go_enter Try.func17, Try.ntmps17
    go_upto_region 1 with (fail)
    rw [HW0.out]
    go_wp2_with fail
    go_ret
    exact ⟨ret_d (decide_eq_false HNE.out).symm, HG.out⟩
end Go.Proofs.Ytjiogmbiiojhgaa
