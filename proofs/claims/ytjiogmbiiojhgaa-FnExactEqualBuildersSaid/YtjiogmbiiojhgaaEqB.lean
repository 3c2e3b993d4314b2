/- Helper contracts: EqualBuilders of the program and of the model answer alike: whether the builders are equal. -/
import Derived.Test.YtjiogmbiiojhgaaEqn
import Derived.Test.YtjiogmbiiojhgaaAddS
import Derived.Deep.RegionWith
import Derived.Deep.CutRange
namespace Go.Proofs.Ytjiogmbiiojhgaa
open Go.ChangeShapes Go.WideShapes Go.ChangeAt Go.RowKit

theorem bd_neq {a b : Bd} (h : a.nodes ≠ b.nodes ∨ a.opn ≠ b.opn) : a ≠ b := by
  rintro rfl
  rcases h with h | h <;> exact h rfl
theorem bd_eq {a b : Bd} (h1 : a.nodes = b.nodes) (h2 : a.opn = b.opn) : a = b := by
  cases a; cases b; simp only at h1 h2; subst h1; subst h2; rfl
/-- Nodes in memory, whole. -/
theorem ReadN.node {hi n cap k : Nat} {w : World} {a : Option Addr} {ns : List Nv} {p : Nv} (h : ReadN hi w (.slice a n cap) ns) (hk : ns[k]? = some p) : ReadsK encA 2 hi w (sv p.2) p.1.attrs := h.2 p (List.mem_of_getElem? hk)

set_option maxRecDepth 100000 in
set_option maxHeartbeats 4000000 in
theorem same_spec (p q : Nv) (w : World) (hp : ReadsK encA 2 w.heap.size w (sv p.2) p.1.attrs) (hq : ReadsK encA 2 w.heap.size w (sv q.2) q.1.attrs) :
    Calls Try.prog 87 #[ndV p, ndV q] w fun e w' => e = .returned (.bool (decide (p.1 = q.1))) ∧ Grw w w' := by
  obtain ⟨⟨nm, tx, pa, ats⟩, ⟨sa, sn, sc⟩⟩ := p
  obtain ⟨⟨nm', tx', pa', ats'⟩, ⟨sa', sn', sc'⟩⟩ := q
  replace hp : ReadsK encA 2 w.heap.size w (.slice sa sn sc) ats := hp
  replace hq : ReadsK encA 2 w.heap.size w (.slice sa' sn' sc') ats' := hq
  show Calls _ _ #[.agg #[.string nm, .string tx, .int .i64 pa, .slice sa sn sc], .agg #[.string nm', .string tx', .int .i64 pa', .slice sa' sn' sc']] w _
  obtain ⟨_, _, e, hc1, hc2, _, hcells⟩ := id hp
  injection e with e1 e2 e3; subst e1; subst e2; subst e3
  obtain ⟨_, _, e, hc1', hc2', _, hcells'⟩ := id hq
  injection e with e1 e2 e3; subst e1; subst e2; subst e3
  show Calls _ _ _ _ fun e w' => e = .returned (.bool (decide ((⟨nm, tx, pa, ats⟩ : Nd) = ⟨nm', tx', pa', ats'⟩))) ∧ Grw w w'
  obtain ⟨D, hD⟩ : ∃ D, decide ((⟨nm, tx, pa, ats⟩ : Nd) = ⟨nm', tx', pa', ats'⟩) = D := ⟨_, rfl⟩
  rw [hD]
  have HD := Lib.hid hD; clear hD
  obtain ⟨n, hn⟩ : ∃ n, ats.length = n := ⟨_, rfl⟩
  obtain ⟨n', hn'⟩ : ∃ n, ats'.length = n := ⟨_, rfl⟩
  rw [hn, hn']
  obtain ⟨W0, hW0⟩ : ∃ W, (w.alloc (.cells #[.string nm, .string tx, .int .i64 pa, .slice sa n sc] 45)).alloc (.cells #[.string nm', .string tx', .int .i64 pa', .slice sa' n' sc'] 45) = W := ⟨_, rfl⟩
  have hg0 : Grw w W0 := by rw [← hW0]; exact ((Grw.refl w).alloc _).alloc _
  have q1 : Box4 W0 w.heap.size nm tx pa (.slice sa n sc) := by rw [← hW0]; exact (Box4.new _ _ _ _ _).later ((Below.refl _ _).alloc (Nat.le_refl _) _)
  have q2 : Box4 W0 (w.heap.size + 1) nm' tx' pa' (.slice sa' n' sc') := by rw [← hW0, ← size_alloc w]; exact Box4.new _ _ _ _ _
  obtain ⟨⟨a0, a1, a2, a3⟩, _⟩ := q1.cells
  obtain ⟨⟨b0, b1, b2, b3⟩, _⟩ := q2.cells
  have HG := Lib.hid hg0; have HW0 := Lib.hid hW0; have Q1 := Lib.hid q1; have Q2 := Lib.hid q2
  rw [hn] at hc1; rw [hn'] at hc1'
  have HC := Lib.hid hcells; have HC' := Lib.hid hcells'; have HN := Lib.hid hn; have HN' := Lib.hid hn'
  clear hp hq hcells hcells' hn hn' hW0 hg0 q1 q2
  by_cases h1 : nm = nm'
  · have e1 : (nm.toList == nm'.toList) = true := beqL_yes h1
    by_cases h2 : tx = tx'
    · have e2 : (tx.toList == tx'.toList) = true := beqL_yes h2
      by_cases h3 : pa = pa'
      · have e3 : (pa == pa') = true := beq_iff_eq.2 h3
        have e5 : (pa != pa') = false := by rw [bne, e3]; rfl
        have HR := Lib.hid (nd_eq (x := ⟨nm, tx, pa, ats⟩) (y := ⟨nm', tx', pa', ats'⟩) h1 h2 h3)
        clear h1 h2 h3
        by_cases h4 : n = n'
        · subst h4
          have hnn : ((n : Int) == (n : Int)) = true := beq_self_eq_true _
          go_enter Try.func87, Try.ntmps87
          go_upto_region 1 with (fail)
          rw [HW0.out]
          go_wp2_with fail
          go_loopw [5] (fun i wr => ∃ (k : Nat), k ≤ n ∧ i = .int .i64 k ∧ PreL ats ats' k ∧ Grw W0 wr)
            (fun i _ => n - (intOf i).toNat)
          case atStart => exact ⟨0, Nat.zero_le _, rfl, PreL.zero _ _, Grw.refl _⟩
          case round =>
            obtain ⟨k, hk, rfl, hpre, hs⟩ := hrel
            have q1 := Q1.out.later hs.below
            have q2 := Q2.out.later hs.below
            obtain ⟨⟨a0, a1, a2, a3⟩, _⟩ := q1.cells
            obtain ⟨⟨b0, b1, b2, b3⟩, _⟩ := q2.cells
            have hgk := HG.out.trans hs
            have HS := Lib.hid hgk; have HP := Lib.hid hpre; have HS0 := Lib.hid hs
            clear hs hpre q1 q2 hgk
            by_cases hlt : (k : Int) < (n : Int)
            · rcases HC.out with h0 | ⟨g, off, rfl, hg, hcells⟩
              · have := HN.out; omega
              · rcases HC'.out with h0 | ⟨g', off', rfl, hg', hcells'⟩
                · have := HN'.out; omega
                · obtain ⟨x, y, hx⟩ := at_at (xs := ats) (j := k) (by have := HN.out; omega)
                  obtain ⟨x', y', hx'⟩ := at_at (xs := ats') (j := k) (by have := HN'.out; omega)
                  have c1 : wr.cell? ⟨g, off + k * 2, none⟩ = some (.string x) := by rw [HS.out.below.cell (show g < _ by omega)]; exact hcells k _ hx 0 (by omega)
                  have c2 : wr.cell? ⟨g, off + k * 2 + 1, none⟩ = some (.string y) := by rw [HS.out.below.cell (show g < _ by omega)]; exact hcells k _ hx 1 (by omega)
                  have c3 : wr.cell? ⟨g', off' + k * 2, none⟩ = some (.string x') := by rw [HS.out.below.cell (show g' < _ by omega)]; exact hcells' k _ hx' 0 (by omega)
                  have c4 : wr.cell? ⟨g', off' + k * 2 + 1, none⟩ = some (.string y') := by rw [HS.out.below.cell (show g' < _ by omega)]; exact hcells' k _ hx' 1 (by omega)
                  have HX := Lib.hid hx; have HX' := Lib.hid hx'
                  clear hcells hcells' hx hx'
                  by_cases e1 : x = x'
                  · have e3 : (x.toList == x'.toList) = true := beqL_yes e1
                    by_cases e2 : y = y'
                    · have e4 : (y.toList == y'.toList) = true := beqL_yes e2
                      have HQ := Lib.hid (HP.out.step (by rw [HX.out, HX'.out, e1, e2]))
                      clear e1 e2
                      go_wp2
                      go_quiet (fail)
                      go_wp2
                      go_roundw
                      case rel => exact ⟨k + 1, by omega, by go_num, HQ.out, HS0.out.drewN _⟩
                      case measure => simp [intOf]; omega
                    · have e4 : (y.toList == y'.toList) = false := beqL_no e2
                      have HNE := Lib.hid (show ats ≠ ats' from fun e => e2 (by have h := HX.out; rw [e, HX'.out] at h; exact (Prod.mk.inj (Option.some.inj h)).2.symm))
                      clear e1 e2
                      go_wp2
                      go_quiet (fail)
                      go_wp2
                      go_ret
                      exact ⟨ret_b (by rw [← HD.out, HR.out]; exact (decide_eq_false HNE.out).symm), HS.out.drewN _⟩
                  · have e3 : (x.toList == x'.toList) = false := beqL_no e1
                    have HNE := Lib.hid (show ats ≠ ats' from fun e => e1 (by have h := HX.out; rw [e, HX'.out] at h; exact (Prod.mk.inj (Option.some.inj h)).1.symm))
                    clear e1
                    go_wp2
                    go_quiet (fail)
                    go_wp2
                    go_ret
                    exact ⟨ret_b (by rw [← HD.out, HR.out]; exact (decide_eq_false HNE.out).symm), HS.out.drewN _⟩
            · have hkn : k = n := by omega
              subst hkn
              have HE := Lib.hid (HP.out.full HN.out HN'.out)
              go_wp2
              go_ret
              exact ⟨ret_b (by rw [← HD.out, HR.out]; exact (decide_eq_true HE.out).symm), HS.out⟩
        · have e4 : ((n : Int) == (n' : Int)) = false := beq_eq_false_iff_ne.2 (by omega)
          have e6 : ((n : Int) != (n' : Int)) = true := by rw [bne, e4]; rfl
          have HNE := Lib.hid (nd_ne (x := ⟨nm, tx, pa, ats⟩) (y := ⟨nm', tx', pa', ats'⟩) (Or.inr (Or.inr (Or.inr (fun e => h4 (by have e' : ats = ats' := e; rw [← HN.out, ← HN'.out, e']))))))
          clear h4 HR
          go_enter Try.func87, Try.ntmps87
          go_upto_region 1 with (fail)
          rw [HW0.out]
          go_wp2_with fail
          go_ret
          exact ⟨ret_b (by rw [← HD.out]; exact (decide_eq_false HNE.out).symm), HG.out⟩
      · have e3 : (pa == pa') = false := beq_eq_false_iff_ne.2 h3
        have e5 : (pa != pa') = true := by rw [bne, e3]; rfl
        have HNE := Lib.hid (nd_ne (x := ⟨nm, tx, pa, ats⟩) (y := ⟨nm', tx', pa', ats'⟩) (Or.inr (Or.inr (Or.inl h3))))
        clear h1 h2 h3
        go_enter Try.func87, Try.ntmps87
        go_upto_region 1 with (fail)
        rw [HW0.out]
        go_wp2_with fail
        go_ret
        exact ⟨ret_b (by rw [← HD.out]; exact (decide_eq_false HNE.out).symm), HG.out⟩
    · have e2 : (tx.toList == tx'.toList) = false := beqL_no h2
      have HNE := Lib.hid (nd_ne (x := ⟨nm, tx, pa, ats⟩) (y := ⟨nm', tx', pa', ats'⟩) (Or.inr (Or.inl h2)))
      clear h1 h2
      go_enter Try.func87, Try.ntmps87
      go_upto_region 1 with (fail)
      rw [HW0.out]
      go_wp2_with fail
      go_ret
      exact ⟨ret_b (by rw [← HD.out]; exact (decide_eq_false HNE.out).symm), HG.out⟩
  · have e1 : (nm.toList == nm'.toList) = false := beqL_no h1
    have HNE := Lib.hid (nd_ne (x := ⟨nm, tx, pa, ats⟩) (y := ⟨nm', tx', pa', ats'⟩) (Or.inl h1))
    clear h1
    go_enter Try.func87, Try.ntmps87
    go_upto_region 1 with (fail)
    rw [HW0.out]
    go_wp2_with fail
    go_ret
    exact ⟨ret_b (by rw [← HD.out]; exact (decide_eq_false HNE.out).symm), HG.out⟩

set_option maxRecDepth 100000 in
set_option maxHeartbeats 4000000 in
theorem eqB_spec (nv ov nv' ov' : Value) (a b : Bd) (w : World) (ha : BdIn w.heap.size w nv ov a) (hb : BdIn w.heap.size w nv' ov' b) :
    Calls Try.prog 48 #[.agg #[nv, ov], .agg #[nv', ov']] w fun e w' => e = .returned (.bool (decide (a = b))) ∧ Grw w w' := by
  have mixed : Try.prog.follows .mixedOrders = true := by kernel_rfl
  obtain ⟨ns, hns, hrn, hro⟩ := ha
  obtain ⟨ns', hns', hrn', hro'⟩ := hb
  obtain ⟨na, nc, rfl, hc1, hc2⟩ := hrn.form
  obtain ⟨oa, oc, rfl, _⟩ := reads_form hro
  obtain ⟨na', nc', rfl, _⟩ := hrn'.form
  obtain ⟨oa', oc', rfl, _⟩ := reads_form hro'
  obtain ⟨n, hn⟩ : ∃ n, ns.length = n := ⟨_, rfl⟩
  obtain ⟨n', hn'⟩ : ∃ n, ns'.length = n := ⟨_, rfl⟩
  obtain ⟨on, hon⟩ : ∃ n, a.opn.length = n := ⟨_, rfl⟩
  obtain ⟨on', hon'⟩ : ∃ n, b.opn.length = n := ⟨_, rfl⟩
  rw [hn] at hrn hc1 ⊢; rw [hn'] at hrn' ⊢; rw [hon] at hro ⊢; rw [hon'] at hro' ⊢
  have hnl : a.nodes.length = n := by rw [← hns, List.length_map, hn]
  have hnl' : b.nodes.length = n' := by rw [← hns', List.length_map, hn']
  obtain ⟨W0, hW0⟩ : ∃ W, (w.alloc (.cells #[.slice na n nc, .slice oa on oc] 27)).alloc (.cells #[.slice na' n' nc', .slice oa' on' oc'] 27) = W := ⟨_, rfl⟩
  have hg0 : Grw w W0 := by rw [← hW0]; exact ((Grw.refl w).alloc _).alloc _
  have q1 : Box2 W0 w.heap.size (.slice na n nc) (.slice oa on oc) := by rw [← hW0]; exact (Box2.new _ _ _).alloc _
  have q2 : Box2 W0 (w.heap.size + 1) (.slice na' n' nc') (.slice oa' on' oc') := by rw [← hW0, ← size_alloc w]; exact Box2.new _ _ _
  obtain ⟨⟨a0, a1⟩, _⟩ := q1.cells
  obtain ⟨⟨b0, b1⟩, _⟩ := q2.cells
  have HEI := Lib.hid (eqI_spec _ _ _ _ a.opn b.opn W0 (hro.below hg0.below (Nat.le_refl _)) (hro'.below hg0.below (Nat.le_refl _)) hg0.below.size hg0.below.size)
  have HG := Lib.hid hg0; have HW0 := Lib.hid hW0; have Q1 := Lib.hid q1; have Q2 := Lib.hid q2
  have HRN := Lib.hid hrn; have HRN' := Lib.hid hrn'; have HNS := Lib.hid hns; have HNS' := Lib.hid hns'; have HNL := Lib.hid hnl; have HNL' := Lib.hid hnl'; have HN := Lib.hid hn; have HN' := Lib.hid hn'
  clear hrn hrn' hro hro' hns hns' hnl hnl' hn hn' hW0 hg0 q1 q2 hon hon'
  by_cases h1 : n = n'
  · subst h1
    have hnn : ((n : Int) != (n : Int)) = false := by rw [bne, beq_self_eq_true]; rfl
    by_cases h2 : a.opn = b.opn
    · have hd : decide (a.opn = b.opn) = true := decide_eq_true h2
      have H2 := Lib.hid h2
      rw [hd] at HEI
      clear h2 hd
      go_enter Try.func48, Try.ntmps48
      go_upto_region 1 with (fail)
      rw [HW0.out]
      go_wp2_with (go_at_call 86; refine HEI.out.mono ?_; rintro e w1 ⟨rfl, hg1⟩)
      have HG1 := Lib.hid hg1; clear hg1
      go_loopw [5] (fun i wr => ∃ (k : Nat), k ≤ n ∧ i = .int .i64 k ∧ PreL a.nodes b.nodes k ∧ Grw W0 wr)
        (fun i _ => n - (intOf i).toNat)
      case atStart => exact ⟨0, Nat.zero_le _, rfl, PreL.zero _ _, HG1.out⟩
      case round =>
        obtain ⟨k, hk, rfl, hpre, hs⟩ := hrel
        have q1 := Q1.out.later hs.below
        have q2 := Q2.out.later hs.below
        obtain ⟨⟨a0, a1⟩, _⟩ := q1.cells
        obtain ⟨⟨b0, b1⟩, _⟩ := q2.cells
        have bq1 := q1.lt; have bq2 := q2.lt
        have hgk := HG.out.trans hs
        have HS := Lib.hid hgk; have HP := Lib.hid hpre; have HS0 := Lib.hid hs
        clear hs hpre q1 q2 hgk
        by_cases hlt : (k : Int) < (n : Int)
        · obtain ⟨p, hp⟩ := nd_at (ns := ns) (k := k) (by rw [HN.out]; omega)
          obtain ⟨q, hq⟩ := nd_at (ns := ns') (k := k) (by rw [HN'.out]; omega)
          have hr := HRN.out.below HS.out.below (Nat.le_refl _)
          have hr' := HRN'.out.below HS.out.below (Nat.le_refl _)
          obtain ⟨g, off, rfl, hg, c0, c1, c2, c3⟩ := hr.at hp
          obtain ⟨g', off', rfl, hg', d0, d1, d2, d3⟩ := hr'.at hq
          have hsz := HS.out.below.size
          have hpa := (hr.node hp).mono hsz
          have hqa := (hr'.node hq).mono hsz
          have hpn := map_fst_at HNS.out hp
          have hqn := map_fst_at HNS'.out hq
          have HSM := Lib.hid (fun (m : Nat) (os : Array Obj) => same_spec p q (Sort.grow (wr.drewN m) os) ((readsK_grown hpa (Nat.le_refl _) m os).mono (size_grown (Nat.le_refl _) m os)) ((readsK_grown hqa (Nat.le_refl _) m os).mono (size_grown (Nat.le_refl _) m os)))
          obtain ⟨⟨⟨nm, tx, pa, ats⟩, ⟨sa, sn, sc⟩⟩, rfl⟩ : ∃ r : Nv, p = r := ⟨p, rfl⟩
          obtain ⟨⟨⟨nm', tx', pa', ats'⟩, ⟨sa', sn', sc'⟩⟩, rfl⟩ : ∃ r : Nv, q = r := ⟨q, rfl⟩
          have bg : g < wr.heap.size := by omega
          have bg' : g' < wr.heap.size := by omega
          have C0 := cell_grown bg (show wr.cell? ⟨g, off + k * 4, none⟩ = some (.string nm) from c0); have C1 := cell_grown bg (show wr.cell? ⟨g, off + k * 4 + 1, none⟩ = some (.string tx) from c1); have C2 := cell_grown bg (show wr.cell? ⟨g, off + k * 4 + 2, none⟩ = some (.int .i64 pa) from c2); have C3 := cell_grown bg (show wr.cell? ⟨g, off + k * 4 + 3, none⟩ = some (.slice sa sn sc) from c3)
          have D0 := cell_grown bg' (show wr.cell? ⟨g', off' + k * 4, none⟩ = some (.string nm') from d0); have D1 := cell_grown bg' (show wr.cell? ⟨g', off' + k * 4 + 1, none⟩ = some (.string tx') from d1); have D2 := cell_grown bg' (show wr.cell? ⟨g', off' + k * 4 + 2, none⟩ = some (.int .i64 pa') from d2); have D3 := cell_grown bg' (show wr.cell? ⟨g', off' + k * 4 + 3, none⟩ = some (.slice sa' sn' sc') from d3)
          have A0 := cell_grown bq1 a0; have B0 := cell_grown bq2 b0
          have hk0 : (0 : Int) ≤ (k : Int) := by omega
          replace HSM := Lib.hid (show ∀ (m : Nat) (os : Array Obj), Calls Try.prog 87 #[.agg #[.string nm, .string tx, .int .i64 pa, .slice sa sn sc], .agg #[.string nm', .string tx', .int .i64 pa', .slice sa' sn' sc']] (Sort.grow (wr.drewN m) os) fun e w' => e = .returned (.bool (decide ((⟨nm, tx, pa, ats⟩ : Nd) = ⟨nm', tx', pa', ats'⟩))) ∧ Grw (Sort.grow (wr.drewN m) os) w' from HSM.out)
          obtain ⟨r, hrr⟩ : ∃ r, decide ((⟨nm, tx, pa, ats⟩ : Nd) = ⟨nm', tx', pa', ats'⟩) = r := ⟨_, rfl⟩
          rw [hrr] at HSM
          have HPN := Lib.hid hpn; have HQN := Lib.hid hqn; have HRR := Lib.hid hrr
          clear hp hq hr hr' c0 c1 c2 c3 d0 d1 d2 d3 hpa hqa hpn hqn hrr
          cases r with
          | true =>
            have HQ := Lib.hid (HP.out.step (by rw [HPN.out, HQN.out]; exact congrArg some (of_decide_eq_true HRR.out)))
            go_wp2_with fail
            refine wp_region_quiet_grown mixed (by kernel_rfl) ?_
            repeat (go_big_quiet_step (first | (go_at_call 87; refine Calls.grown_of (HSM.out _ _))))
            refine wpQuiet_nil ?_; intro _ hw'; obtain ⟨⟨nq, osq⟩, hw''⟩ := hw'; subst hw''
            go_wp2_with fail
            go_roundw
            case rel => exact ⟨k + 1, by omega, by go_num, HQ.out, HS0.out.trans ⟨nq, osq, rfl⟩⟩
            case measure => simp [intOf]; omega
          | false =>
            have HNE := Lib.hid (bd_neq (a := a) (b := b) (Or.inl fun e => of_decide_eq_false HRR.out (by have h := HPN.out; rw [e, HQN.out] at h; exact (Option.some.inj h).symm)))
            go_wp2_with fail
            refine wp_region_quiet_grown mixed (by kernel_rfl) ?_
            repeat (go_big_quiet_step (first | (go_at_call 87; refine Calls.grown_of (HSM.out _ _))))
            refine wpQuiet_nil ?_; intro _ hw'; obtain ⟨⟨nq, osq⟩, hw''⟩ := hw'; subst hw''
            go_wp2_with fail
            go_ret
            exact ⟨ret_d (decide_eq_false HNE.out).symm, HS.out.trans ⟨nq, osq, rfl⟩⟩
        · have hkn : k = n := by omega
          subst hkn
          have HE := Lib.hid (bd_eq (a := a) (b := b) (HP.out.full HNL.out HNL'.out) H2.out)
          go_wp2_with fail
          go_ret
          exact ⟨ret_d (decide_eq_true HE.out).symm, HS.out⟩
    · have hd : decide (a.opn = b.opn) = false := decide_eq_false h2
      rw [hd] at HEI
      have HNE := Lib.hid (bd_neq (a := a) (b := b) (Or.inr h2))
      clear h2 hd
      go_enter Try.func48, Try.ntmps48
      go_upto_region 1 with (fail)
      rw [HW0.out]
      go_wp2_with (go_at_call 86; refine HEI.out.mono ?_; rintro e w1 ⟨rfl, hg1⟩)
      have HG1 := Lib.hid (HG.out.trans hg1); clear hg1
      go_ret
      exact ⟨ret_d (decide_eq_false HNE.out).symm, HG1.out⟩
  · have hnn : ((n : Int) != (n' : Int)) = true := by rw [bne, beq_eq_false_iff_ne.2 (show (n : Int) ≠ (n' : Int) by omega)]; rfl
    have HNE := Lib.hid (bd_neq (a := a) (b := b) (Or.inl fun e => h1 (by rw [← HNL.out, ← HNL'.out, e])))
    clear h1
    go_enter Try.func48, Try.ntmps48
    go_upto_region 1 with (fail)
    rw [HW0.out]
    go_wp2_with fail
    go_ret
    exact ⟨ret_d (decide_eq_false HNE.out).symm, HG.out⟩
end Go.Proofs.Ytjiogmbiiojhgaa
