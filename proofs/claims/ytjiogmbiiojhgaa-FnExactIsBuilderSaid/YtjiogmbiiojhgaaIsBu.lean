/- Helper contracts: IsBuilder of the model. -/
import Derived.Test.YtjiogmbiiojhgaaIsBt
namespace Go.Proofs.Ytjiogmbiiojhgaa
open Go.ChangeShapes Go.WideShapes Go.ChangeAt Go.RowKit

theorem lin_grw (n lo hi : Int) (w : World) : Calls Try.prog 67 #[.int .i64 n, .int .i64 lo, .int .i64 hi] w fun e w' => e = .returned (.bool (inB n lo hi)) ∧ Grw w w' :=
  (lin_any n lo hi w).mono fun e w' h => ⟨h.1, by rw [h.2]; exact Grw.refl _⟩
theorem void_grw (s : ByteArray) (w : World) : Calls Try.prog 36 #[.string s] w fun e w' => e = .returned (.bool (isVoid s)) ∧ Grw w w' :=
  (void_spec s w).mono fun e w' h => ⟨h.1, by rw [h.2]; exact Grw.refl _⟩
theorem okOpen_in {b : Bd} {k : Nat} {z y : Int} (hz : b.opn.getD k 0 = z) (hy : b.opn.getD (k - 1) 0 = y) : okOpen b k = (canOpen b.nodes z && decide (1 ≤ z) && decide (parentOf b.nodes z = y)) := by
  unfold okOpen; rw [hz, hy]

set_option maxRecDepth 100000 in
set_option maxHeartbeats 8000000 in
theorem isB_spec (nv ov : Value) (b : Bd) (w : World) (hb : BdIn w.heap.size w nv ov b) (hok : NmOk b) :
    Calls Try.prog 19 #[.agg #[nv, ov]] w fun e w' => e = .returned (.bool (isBd b)) ∧ Grw w w' := by
  have mixed : Try.prog.follows .mixedOrders = true := by kernel_rfl
  have HBI := Lib.hid hb; have HOK := Lib.hid hok
  obtain ⟨ns, hns, hrn, hro⟩ := id hb
  obtain ⟨na, nc, rfl, hc1, hc2⟩ := hrn.form
  obtain ⟨oa, oc, rfl, hd1, hd2⟩ := reads_form hro
  obtain ⟨n, hn⟩ : ∃ n, ns.length = n := ⟨_, rfl⟩
  obtain ⟨on, hon⟩ : ∃ n, b.opn.length = n := ⟨_, rfl⟩
  rw [hn] at hrn hc1 HBI ⊢; rw [hon] at hro hd1 HBI ⊢
  have hnl : b.nodes.length = n := by rw [← hns, List.length_map, hn]
  have HRN := Lib.hid hrn; have HRO := Lib.hid hro; have HNS := Lib.hid hns; have HN := Lib.hid hn; have HNL := Lib.hid hnl; have HON := Lib.hid hon
  obtain ⟨D, hD⟩ : ∃ D, isBd b = D := ⟨_, rfl⟩
  rw [hD]
  have HIS := Lib.hid (show D = (decide (1 ≤ n ∧ n ≤ 40) && (okRoot b.nodes && (allFrom (okNode b.nodes) n && (decide (1 ≤ on ∧ on ≤ 8) && (decide (b.opn.getD 0 0 = 0) && allFrom (okOpen b) on))))) by rw [← hD, isBd_eq, hnl]; unfold openAll; rw [hon])
  obtain ⟨W0, hW0⟩ : ∃ W, w.alloc (.cells #[.slice na n nc, .slice oa on oc] 27) = W := ⟨_, rfl⟩
  have hg0 : Grw w W0 := by rw [← hW0]; exact (Grw.refl w).alloc _
  have q1 : Box2 W0 w.heap.size (.slice na n nc) (.slice oa on oc) := by rw [← hW0]; exact Box2.new _ _ _
  obtain ⟨⟨a0, a1⟩, _⟩ := q1.cells
  have bH : w.heap.size < W0.heap.size := q1.lt
  have Q1 := Lib.hid q1; have HG0 := Lib.hid hg0; have HW0 := Lib.hid hW0
  clear hb hok hns hrn hro hn hon hnl hD hW0 hg0 q1
  by_cases h1 : 1 ≤ n ∧ n ≤ 40
  rotate_left
  · have hin : inB (n : Int) 1 40 = false := inB_no (by omega)
    have HDF := Lib.hid (show D = false by rw [HIS.out, decide_eq_false h1, Bool.false_and])
    clear h1
    go_enter Try.func19, Try.ntmps19
    go_upto_region 1 with (fail)
    rw [HW0.out]
    go_wp2_with (go_at_call 67; refine (lin_any _ _ _ _).mono ?_; rintro e w' ⟨rfl, rfl⟩)
    go_ret
    exact ⟨ret_b HDF.out.symm, HG0.out⟩
  obtain ⟨h1a, h1b⟩ := h1
  have hin : inB (n : Int) 1 40 = true := inB_yes (by omega) (by omega)
  by_cases h2 : 1 ≤ on ∧ on ≤ 8
  rotate_left
  · have hin2 : inB (on : Int) 1 8 = false := inB_no (by omega)
    have HDF := Lib.hid (show D = false by rw [HIS.out, decide_eq_false h2, Bool.false_and, Bool.and_false, Bool.and_false, Bool.and_false])
    clear h2
    go_enter Try.func19, Try.ntmps19
    go_upto_region 1 with (fail)
    rw [HW0.out]
    go_wp2_with (go_at_call 67; refine (lin_any _ _ _ _).mono ?_; rintro e w' ⟨rfl, rfl⟩)
    go_ret
    exact ⟨ret_b HDF.out.symm, HG0.out⟩
  obtain ⟨h2a, h2b⟩ := h2
  have hin2 : inB (on : Int) 1 8 = true := inB_yes (by omega) (by omega)
  obtain ⟨go, oo, rfl, hgo, k0⟩ := reads_at (HRO.out.below HG0.out.below (Nat.le_refl _)) (k := 0) (by rw [HON.out]; omega)
  rw [Nat.add_zero] at k0
  have bgo : go < W0.heap.size := by omega
  by_cases h3 : b.opn.getD 0 0 = 0
  rotate_left
  · have HDF := Lib.hid (show D = false by rw [HIS.out, decide_eq_false h3, Bool.false_and, Bool.and_false, Bool.and_false, Bool.and_false, Bool.and_false])
    have e2 : (b.opn.getD 0 0 != 0) = true := by rw [bne, beq_eq_false_iff_ne.2 h3]; rfl
    obtain ⟨y, hy⟩ : ∃ y, b.opn.getD 0 0 = y := ⟨_, rfl⟩
    rw [hy] at k0 e2
    clear h3 hy
    go_enter Try.func19, Try.ntmps19
    go_upto_region 1 with (fail)
    rw [HW0.out]
    go_wp2_with (go_at_call 67; refine (lin_any _ _ _ _).mono ?_; rintro e w' ⟨rfl, rfl⟩)
    go_ret
    exact ⟨ret_b HDF.out.symm, HG0.out⟩
  have H3 := Lib.hid h3
  rw [h3] at k0
  obtain ⟨p, hp⟩ := nd_at (ns := ns) (k := 0) (by rw [HN.out]; omega)
  have hr0 := HRN.out.below HG0.out.below (Nat.le_refl _)
  obtain ⟨g, off, rfl, hg, n0, n1, n2, n3⟩ := hr0.at hp
  have hat : p.1.attrs.length = p.2.2.1 := attrs_n (a := p.2.1) (c := p.2.2.2) (hr0.2 p (List.mem_of_getElem? hp))
  have hpn := map_fst_at HNS.out hp
  obtain ⟨⟨⟨nm, tx, pa, ats⟩, ⟨sa, sn, sc⟩⟩, rfl⟩ : ∃ q : Nv, p = q := ⟨p, rfl⟩
  rw [Nat.zero_mul, Nat.add_zero] at n0 n1 n2 n3
  replace n0 : _ = some (Value.string nm) := n0
  replace n1 : _ = some (Value.string tx) := n1
  replace n2 : _ = some (Value.int .i64 pa) := n2
  replace n3 : _ = some (Value.slice sa sn sc) := n3
  replace hat : ats.length = sn := hat
  have bg : g < W0.heap.size := by omega
  have HRT := Lib.hid (show okRoot b.nodes = ((nm.toList == [112, 97, 103, 101]) && (tx.toList == ([] : List UInt8)) && decide (pa = -1) && decide (sn = 0)) by
    rw [okRoot_at hpn]; unfold rootB; rw [nil_size, emp_size]; dsimp only; rw [hat])
  have HIS2 := Lib.hid (show D = (okRoot b.nodes && (allFrom (okNode b.nodes) n && allFrom (okOpen b) on)) by
    rw [HIS.out, decide_eq_true ⟨h1a, h1b⟩, decide_eq_true ⟨h2a, h2b⟩, decide_eq_true H3.out]; simp only [Bool.true_and])
  obtain ⟨W1, hW1⟩ : ∃ W, W0.alloc (.cells #[.string nm, .string tx, .int .i64 pa, .slice sa sn sc] 45) = W := ⟨_, rfl⟩
  have hg1 : Grw W0 W1 := by rw [← hW1]; exact (Grw.refl W0).alloc _
  have q4 : Box4 W1 W0.heap.size nm tx pa (.slice sa sn sc) := by rw [← hW1]; exact Box4.new _ _ _ _ _
  obtain ⟨⟨x0, x1, x2, x3⟩, _⟩ := q4.cells
  have HG1 := Lib.hid (HG0.out.trans hg1); have HW1 := Lib.hid hW1; have Q11 := Lib.hid (Q1.out.later hg1.below)
  clear hp hr0 hat hpn hW1 hg1 q4 h3
  have hrt : ∀ v, okRoot b.nodes = v → v = ((nm.toList == [112, 97, 103, 101]) && (tx.toList == ([] : List UInt8)) && decide (pa = -1) && decide (sn = 0)) := fun v h => by rw [← h]; exact HRT.out
  by_cases h4 : (nm.toList == [112, 97, 103, 101]) = true ∧ (tx.toList == ([] : List UInt8)) = true ∧ pa = -1 ∧ sn = 0
  rotate_left
  · have HDF := Lib.hid (show D = false by
      rw [HIS2.out, HRT.out]
      cases e1 : (nm.toList == [112, 97, 103, 101]) with
      | false => rfl
      | true =>
        cases e2 : (tx.toList == ([] : List UInt8)) with
        | false => rfl
        | true =>
          by_cases e3 : pa = -1
          · by_cases e4 : sn = 0
            · exact absurd ⟨e1, e2, e3, e4⟩ h4
            · rw [decide_eq_false e4]; simp
          · rw [decide_eq_false e3]; simp)
    clear hrt
    cases e1 : (nm.toList == [112, 97, 103, 101]) with
    | false =>
      clear h4
      go_enter Try.func19, Try.ntmps19
      go_upto_region 1 with (fail)
      rw [HW0.out]
      go_upto_region 4 with ((go_at_call 67; refine (lin_any _ _ _ _).mono ?_; rintro e w' ⟨rfl, rfl⟩))
      rw [HW1.out]
      go_wp2_with fail
      go_ret
      exact ⟨ret_b HDF.out.symm, HG1.out⟩
    | true =>
      by_cases e3 : pa = -1
      rotate_left
      · have e3' : (pa != -1) = true := by rw [bne, beq_eq_false_iff_ne.2 e3]; rfl
        clear h4 e3
        go_enter Try.func19, Try.ntmps19
        go_upto_region 1 with (fail)
        rw [HW0.out]
        go_upto_region 4 with ((go_at_call 67; refine (lin_any _ _ _ _).mono ?_; rintro e w' ⟨rfl, rfl⟩))
        rw [HW1.out]
        go_wp2_with fail
        go_ret
        exact ⟨ret_b HDF.out.symm, HG1.out⟩
      have e3' : (pa != -1) = false := by rw [bne, beq_iff_eq.2 e3]; rfl
      cases e2 : (tx.toList == ([] : List UInt8)) with
      | false =>
        clear h4 e3
        go_enter Try.func19, Try.ntmps19
        go_upto_region 1 with (fail)
        rw [HW0.out]
        go_upto_region 4 with ((go_at_call 67; refine (lin_any _ _ _ _).mono ?_; rintro e w' ⟨rfl, rfl⟩))
        rw [HW1.out]
        go_wp2_with fail
        go_ret
        exact ⟨ret_b HDF.out.symm, HG1.out⟩
      | true =>
        have e4' : ((sn : Int) != 0) = true := by
          rw [bne, beq_eq_false_iff_ne.2 (show (sn : Int) ≠ 0 from fun e => h4 ⟨e1, e2, e3, by omega⟩)]; rfl
        clear h4 e3
        go_enter Try.func19, Try.ntmps19
        go_upto_region 1 with (fail)
        rw [HW0.out]
        go_upto_region 4 with ((go_at_call 67; refine (lin_any _ _ _ _).mono ?_; rintro e w' ⟨rfl, rfl⟩))
        rw [HW1.out]
        go_wp2_with fail
        go_ret
        exact ⟨ret_b HDF.out.symm, HG1.out⟩
  obtain ⟨e1, e2, e3, e4⟩ := h4
  subst e3; subst e4
  have HIS3 := Lib.hid (show D = (allFrom (okNode b.nodes) n && allFrom (okOpen b) on) by rw [HIS2.out, HRT.out, e1, e2]; rfl)
  clear hrt
  go_enter Try.func19, Try.ntmps19
  go_upto_region 1 with (fail)
  rw [HW0.out]
  go_upto_region 4 with ((go_at_call 67; refine (lin_any _ _ _ _).mono ?_; rintro e w' ⟨rfl, rfl⟩))
  rw [HW1.out]
  go_wp2_with fail
  go_loopw [4] (fun i wr => ∃ (k : Nat), 1 ≤ k ∧ k ≤ n ∧ i = .int .i64 k ∧ (∀ i, 1 ≤ i → i < k → okNode b.nodes i = true) ∧ Grw W1 wr)
    (fun i _ => n - (intOf i).toNat)
  case atStart => exact ⟨1, Nat.le_refl _, h1a, rfl, fun i h1 h2 => by omega, Grw.refl _⟩
  case round =>
    obtain ⟨k, hk1, hk, rfl, hpre, hs⟩ := hrel
    have q1 := Q11.out.later hs.below
    obtain ⟨⟨d0, d1⟩, _⟩ := q1.cells
    have HP := Lib.hid hpre; have HSW := Lib.hid (HG1.out.trans hs); have HS1 := Lib.hid hs
    clear hpre hs
    by_cases hlt : (k : Int) < (n : Int)
    · have HNO := Lib.hid (node_spec (.slice (some ⟨g, off, none⟩) n nc) (.slice (some ⟨go, oo, none⟩) on oc) b k wr (HBI.out.up HSW.out.below) HOK.out hk1 (by rw [HNL.out]; omega))
      obtain ⟨v, hv⟩ : ∃ v, okNode b.nodes k = v := ⟨_, rfl⟩
      rw [hv] at HNO
      have HV := Lib.hid hv; clear hv
      cases v with
      | true =>
        have HPN := Lib.hid (show ∀ i, 1 ≤ i → i < k + 1 → okNode b.nodes i = true from fun i h1 h2 => by
          by_cases e : i = k
          · rw [e]; exact HV.out
          · exact HP.out i h1 (by omega))
        go_wp2_with (go_at_call 68; refine HNO.out.mono ?_; rintro e w5 ⟨rfl, hg5⟩)
        have HG5 := Lib.hid (HS1.out.trans hg5); clear hg5
        go_roundw
        case rel => exact ⟨k + 1, by omega, by omega, by go_num, HPN.out, HG5.out⟩
        case measure => simp [intOf]; omega
      | false =>
        have HDF := Lib.hid (show D = false by
          rw [HIS3.out]
          cases e : allFrom (okNode b.nodes) n
          · rfl
          · have := (allFrom_iff _ n).1 e k hk1 (by omega)
            rw [HV.out] at this; cases this)
        go_wp2_with (go_at_call 68; refine HNO.out.mono ?_; rintro e w5 ⟨rfl, hg5⟩)
        have HG5 := Lib.hid (HSW.out.trans hg5); clear hg5
        go_ret
        exact ⟨ret_b HDF.out.symm, HG5.out⟩
    · have HIS4 := Lib.hid (show D = allFrom (okOpen b) on by
        rw [HIS3.out, (allFrom_iff _ n).2 fun i h1 h2 => HP.out i h1 (by omega)]; rfl)
      have QM := Lib.hid q1
      clear q1
      go_wp2_with fail
      clear d0 d1
      rename World => wm
      go_loopw [5] (fun i wr => ∃ (k : Nat), 1 ≤ k ∧ k ≤ on ∧ i = .int .i64 k ∧ (∀ i, 1 ≤ i → i < k → okOpen b i = true) ∧ Grw wm wr)
        (fun i _ => on - (intOf i).toNat)
      case atStart => exact ⟨1, Nat.le_refl _, h2a, rfl, fun i h1 h2 => by omega, Grw.refl _⟩
      case round =>
        obtain ⟨k, hk1, hk, rfl, hpre, hs⟩ := hrel
        have q1 := QM.out.later hs.below
        obtain ⟨⟨d0, d1⟩, _⟩ := q1.cells
        have hcr : w.heap.size < wr.heap.size := q1.lt
        have HP := Lib.hid hpre; have HS := Lib.hid (HSW.out.trans hs); have HSm := Lib.hid hs
        have hsz := HS.out.below.size
        clear hpre hs q1
        by_cases hlt2 : (k : Int) < (on : Int)
        · have hro := HRO.out.below HS.out.below (Nat.le_refl _)
          obtain ⟨go', oo', e', _, kk⟩ := reads_at hro (k := k) (by rw [HON.out]; omega)
          cases e'
          obtain ⟨go', oo', e', _, km⟩ := reads_at hro (k := k - 1) (by rw [HON.out]; omega)
          cases e'
          obtain ⟨m, rfl⟩ : ∃ m, k = m + 1 := ⟨k - 1, by omega⟩
          rw [Nat.add_sub_cancel] at km
          obtain ⟨z, hz⟩ : ∃ z, b.opn.getD (m + 1) 0 = z := ⟨_, rfl⟩
          obtain ⟨y, hy⟩ : ∃ y, b.opn.getD m 0 = y := ⟨_, rfl⟩
          have hstep := okOpen_in (b := b) (k := m + 1) (z := z) (y := y) hz (by rw [Nat.add_sub_cancel]; exact hy)
          rw [hz] at kk; rw [hy] at km
          have HST := Lib.hid hstep
          have HBAD := Lib.hid (fun (h : okOpen b (m + 1) = false) => show D = false by
            rw [HIS4.out]
            cases e : allFrom (okOpen b) on
            · rfl
            · have := (allFrom_iff _ on).1 e (m + 1) (by omega) (by omega)
              rw [h] at this; cases this)
          have hgw : go < wr.heap.size := by omega
          have D0 := cell_grown hcr d0; have D1 := cell_grown hcr d1; have KM := cell_grown hgw km
          clear hstep hro hz hy km
          by_cases hzin : 1 ≤ z ∧ z < (n : Int)
          · obtain ⟨hz0, hz1⟩ := hzin
            obtain ⟨j, rfl⟩ : ∃ j : Nat, z = j := ⟨z.toNat, by omega⟩
            have hinz : inB (j : Int) 1 ((n : Int) - 1) = true := inB_yes (by omega) (by omega)
            obtain ⟨q, hq⟩ := nd_at (ns := ns) (k := j) (by rw [HN.out]; omega)
            obtain ⟨gn, off', e', hgn, m0, _, m2, _⟩ := (HRN.out.below HS.out.below (Nat.le_refl _)).at hq
            cases e'
            have hqn := map_fst_at HNS.out hq
            obtain ⟨⟨⟨pn, ptx, ppa, pats⟩, sl⟩, rfl⟩ : ∃ r : Nv, q = r := ⟨q, rfl⟩
            replace m0 : _ = some (Value.string pn) := m0
            replace m2 : _ = some (Value.int .i64 ppa) := m2
            have hgnw : g < wr.heap.size := by omega
            have M0 := cell_grown hgnw m0; have M2 := cell_grown hgnw m2
            have hj0 : (0 : Int) ≤ (j : Int) := by omega
            have hst := HST.out
            rw [canOpen_at hqn, parent_at hqn, decide_eq_true hz0] at hst
            dsimp only at hst
            have HST2 := Lib.hid hst
            have HV := Lib.hid (fun (m' : Nat) (os : Array Obj) => void_grw pn (Sort.grow (wr.drewN m') os))
            obtain ⟨vv, hvv⟩ : ∃ v, isVoid pn = v := ⟨_, rfl⟩
            rw [hvv] at HV HST2
            clear hst hq hqn m0 m2 hvv
            by_cases hp0 : pn.size = 0
            · have e0 : (pn.toList == []) = true := by rw [emp_size, decide_eq_true hp0]
              have HDF := Lib.hid (HBAD.out (by rw [HST2.out, decide_eq_false (fun h => h hp0)]; rfl))
              clear hp0
              go_wp2_with fail
              refine wp_region_quiet_grown mixed (by kernel_rfl) ?_
              repeat (go_big_quiet_step (first | (go_at_call 67; refine Calls.grown_of (lin_grw _ _ _ _)) | (go_at_call 36; refine Calls.grown_of (HV.out _ _))))
              refine wpQuiet_nil ?_; intro _ hw'; obtain ⟨⟨nq, osq⟩, hw''⟩ := hw'; subst hw''
              go_wp2_with fail
              go_ret
              exact ⟨ret_b HDF.out.symm, HS.out.trans ⟨nq, osq, rfl⟩⟩
            · have e0 : (pn.toList == []) = false := by rw [emp_size, decide_eq_false hp0]
              rw [decide_eq_true hp0, Bool.true_and, Bool.and_true] at HST2
              clear hp0
              cases vv with
              | true =>
                have HDF := Lib.hid (HBAD.out (by rw [HST2.out]; rfl))
                go_wp2_with fail
                refine wp_region_quiet_grown mixed (by kernel_rfl) ?_
                repeat (go_big_quiet_step (first | (go_at_call 67; refine Calls.grown_of (lin_grw _ _ _ _)) | (go_at_call 36; refine Calls.grown_of (HV.out _ _))))
                refine wpQuiet_nil ?_; intro _ hw'; obtain ⟨⟨nq, osq⟩, hw''⟩ := hw'; subst hw''
                go_wp2_with fail
                go_ret
                exact ⟨ret_b HDF.out.symm, HS.out.trans ⟨nq, osq, rfl⟩⟩
              | false =>
                by_cases hpy : ppa = y
                · have e5 : (ppa != y) = false := by rw [bne, beq_iff_eq.2 hpy]; rfl
                  have HPN := Lib.hid (show ∀ i, 1 ≤ i → i < m + 1 + 1 → okOpen b i = true from fun i h1 h2 => by
                    by_cases e : i = m + 1
                    · rw [e, HST2.out, decide_eq_true hpy]; rfl
                    · exact HP.out i h1 (by omega))
                  clear hpy
                  go_wp2_with fail
                  refine wp_region_quiet_grown mixed (by kernel_rfl) ?_
                  repeat (go_big_quiet_step (first | (go_at_call 67; refine Calls.grown_of (lin_grw _ _ _ _)) | (go_at_call 36; refine Calls.grown_of (HV.out _ _))))
                  refine wpQuiet_nil ?_; intro _ hw'; obtain ⟨⟨nq, osq⟩, hw''⟩ := hw'; subst hw''
                  go_wp2_with fail
                  go_roundw
                  case rel => exact ⟨m + 1 + 1, by omega, by omega, by go_num, HPN.out, HSm.out.trans ⟨nq, osq, rfl⟩⟩
                  case measure => simp [intOf]; omega
                · have e5 : (ppa != y) = true := by rw [bne, beq_eq_false_iff_ne.2 hpy]; rfl
                  have HDF := Lib.hid (HBAD.out (by rw [HST2.out, decide_eq_false hpy]; rfl))
                  clear hpy
                  go_wp2_with fail
                  refine wp_region_quiet_grown mixed (by kernel_rfl) ?_
                  repeat (go_big_quiet_step (first | (go_at_call 67; refine Calls.grown_of (lin_grw _ _ _ _)) | (go_at_call 36; refine Calls.grown_of (HV.out _ _))))
                  refine wpQuiet_nil ?_; intro _ hw'; obtain ⟨⟨nq, osq⟩, hw''⟩ := hw'; subst hw''
                  go_wp2_with fail
                  go_ret
                  exact ⟨ret_b HDF.out.symm, HS.out.trans ⟨nq, osq, rfl⟩⟩
          · have hinz : inB z 1 ((n : Int) - 1) = false := inB_no (by omega)
            have HV := Lib.hid (fun (m' : Nat) (os : Array Obj) => void_grw ⟨#[]⟩ (Sort.grow (wr.drewN m') os))
            have HDF := Lib.hid (HBAD.out (by
              rw [HST.out]
              by_cases h : 1 ≤ z
              · rw [canOpen_out (Or.inr (by rw [HNL.out]; omega))]; rfl
              · rw [decide_eq_false h, Bool.and_false, Bool.false_and]))
            clear hzin
            go_wp2_with fail
            refine wp_region_quiet_grown mixed (by kernel_rfl) ?_
            repeat (go_big_quiet_step (first | (go_at_call 67; refine Calls.grown_of (lin_grw _ _ _ _)) | (go_at_call 36; refine Calls.grown_of (HV.out _ _))))
            refine wpQuiet_nil ?_; intro _ hw'; obtain ⟨⟨nq, osq⟩, hw''⟩ := hw'; subst hw''
            go_wp2_with fail
            go_ret
            exact ⟨ret_b HDF.out.symm, HS.out.trans ⟨nq, osq, rfl⟩⟩
        · have HDT := Lib.hid (show D = true by
            rw [HIS4.out]
            exact (allFrom_iff _ on).2 fun i h1 h2 => HP.out i h1 (by omega))
          go_wp2_with fail
          go_ret
          exact ⟨ret_b HDT.out.symm, HS.out⟩
end Go.Proofs.Ytjiogmbiiojhgaa
