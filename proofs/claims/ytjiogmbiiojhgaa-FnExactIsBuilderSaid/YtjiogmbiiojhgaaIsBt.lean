/- Helper contracts: l6Node and IsBuilder of the model. -/
import Derived.Test.YtjiogmbiiojhgaaIsBs
namespace Go.Proofs.Ytjiogmbiiojhgaa
open Go.ChangeShapes Go.WideShapes Go.ChangeAt Go.RowKit

set_option maxRecDepth 100000 in
set_option maxHeartbeats 4000000 in
theorem node_spec (nv ov : Value) (b : Bd) (k : Nat) (w : World) (hb : BdIn w.heap.size w nv ov b) (hok : NmOk b) (hk1 : 1 ≤ k) (hk2 : k < b.nodes.length) :
    Calls Try.prog 68 #[.agg #[nv, ov], .int .i64 k] w fun e w' => e = .returned (.bool (okNode b.nodes k)) ∧ Grw w w' := by
  obtain ⟨ns, hns, hrn, hro⟩ := hb
  obtain ⟨na, nc, rfl, hc1, hc2⟩ := hrn.form
  obtain ⟨oa, oc, rfl, _⟩ := reads_form hro
  obtain ⟨n, hn⟩ : ∃ n, ns.length = n := ⟨_, rfl⟩
  obtain ⟨on, hon⟩ : ∃ n, b.opn.length = n := ⟨_, rfl⟩
  rw [hn] at hrn hc1 ⊢; rw [hon] at hro ⊢
  have hnl : b.nodes.length = n := by rw [← hns, List.length_map, hn]
  rw [hnl] at hk2
  obtain ⟨p, hp⟩ := nd_at (ns := ns) (k := k) (by rw [hn]; exact hk2)
  obtain ⟨g, off, rfl, hg, n0, n1, n2, n3⟩ := hrn.at hp
  have hat : p.1.attrs.length = p.2.2.1 := attrs_n (a := p.2.1) (c := p.2.2.2) (hrn.2 p (List.mem_of_getElem? hp))
  have hpn := map_fst_at hns hp
  have hnm := hok p.1 (List.mem_of_getElem? hpn)
  obtain ⟨⟨⟨nm, tx, pa, ats⟩, ⟨sa, sn, sc⟩⟩, rfl⟩ : ∃ q : Nv, p = q := ⟨p, rfl⟩
  replace n0 : _ = some (Value.string nm) := n0
  replace n1 : _ = some (Value.string tx) := n1
  replace n2 : _ = some (Value.int .i64 pa) := n2
  replace n3 : _ = some (Value.slice sa sn sc) := n3
  replace hat : ats.length = sn := hat
  have h0 := okNode_at hpn
  dsimp only at h0
  obtain ⟨W0, hW0⟩ : ∃ W, w.alloc (.cells #[.slice (some ⟨g, off, none⟩) n nc, .slice oa on oc] 27) = W := ⟨_, rfl⟩
  have hg0 : Grw w W0 := by rw [← hW0]; exact (Grw.refl w).alloc _
  have q1 : Box2 W0 w.heap.size (.slice (some ⟨g, off, none⟩) n nc) (.slice oa on oc) := by rw [← hW0]; exact Box2.new _ _ _
  obtain ⟨W1, hW1⟩ : ∃ W, W0.alloc (.cells #[.string nm, .string tx, .int .i64 pa, .slice sa sn sc] 45) = W := ⟨_, rfl⟩
  have hg1 : Grw W0 W1 := by rw [← hW1]; exact (Grw.refl W0).alloc _
  have q1' := q1.later hg1.below
  have q4 : Box4 W1 W0.heap.size nm tx pa (.slice sa sn sc) := by rw [← hW1]; exact Box4.new _ _ _ _ _
  obtain ⟨⟨a0, a1⟩, _⟩ := q1.cells
  obtain ⟨⟨b0, b1⟩, _⟩ := q1'.cells
  obtain ⟨⟨x0, x1, x2, x3⟩, _⟩ := q4.cells
  replace n0 := (hg0.below.cell (p := ⟨g, off + k * 4, none⟩) hg).trans n0
  replace n1 := (hg0.below.cell (p := ⟨g, off + k * 4 + 1, none⟩) hg).trans n1
  replace n2 := (hg0.below.cell (p := ⟨g, off + k * 4 + 2, none⟩) hg).trans n2
  replace n3 := (hg0.below.cell (p := ⟨g, off + k * 4 + 3, none⟩) hg).trans n3
  have hg01 := hg0.trans hg1
  have HR1 := Lib.hid (hrn.below hg01.below (Nat.le_refl _))
  have HG := Lib.hid hg01; have HW0 := Lib.hid hW0; have HW1 := Lib.hid hW1; have HNS := Lib.hid hns; have HN := Lib.hid hn; have HNL := Lib.hid hnl
  have HNM := Lib.hid (fun W => nm_spec nm hnm W)
  have bg : g < W0.heap.size := Nat.lt_of_lt_of_le hg hg0.below.size
  have bH : w.heap.size < W0.heap.size := q1.lt
  obtain ⟨D, hD⟩ : ∃ D, okNode b.nodes k = D := ⟨_, rfl⟩
  rw [hD] at h0 ⊢
  have HD := Lib.hid h0
  have hgn := goodN_eq nm tx pa ats sn hat
  have HGN := Lib.hid (show goodN ⟨nm, tx, pa, ats⟩ = if nm.size = 0 then decide (tx.size ≠ 0) && decide (sn = 0) else isNm nm && decide (tx.size = 0) by unfold goodN; rw [nil_size]; dsimp only; rw [hat])
  clear hrn hro hns hn hon hnl hW0 hW1 hg0 hg1 hg01 hok q1 q1' q4 hD h0 hp hpn hgn hat hnm
  by_cases hin2 : 0 ≤ pa ∧ pa < (k : Int)
  · obtain ⟨hz0, hz1⟩ := hin2
    obtain ⟨j, rfl⟩ : ∃ j : Nat, pa = j := ⟨pa.toNat, by omega⟩
    have hin : inB (j : Int) 0 ((k : Int) - 1) = true := inB_yes (by omega) (by omega)
    obtain ⟨q, hq⟩ := nd_at (ns := ns) (k := j) (by rw [HN.out]; omega)
    obtain ⟨g', off', e', hg', m0, _⟩ := HR1.out.at hq
    cases e'
    have hqn := map_fst_at HNS.out hq
    obtain ⟨⟨⟨pn, ptx, ppa, pats⟩, sl⟩, rfl⟩ : ∃ r : Nv, q = r := ⟨q, rfl⟩
    replace m0 : _ = some (Value.string pn) := m0
    have hD := HD.out
    rw [decide_eq_true (show ((j : Nat) : Int) < (k : Int) by omega), Bool.true_and, canOpen_at hqn] at hD
    dsimp only at hD
    have HDD := Lib.hid hD
    clear hD hq hqn
    by_cases hp0 : pn.size = 0
    · have e0 : (pn.toList == []) = true := by rw [emp_size, decide_eq_true hp0]
      have HDF := Lib.hid (show D = false by rw [HDD.out, decide_eq_false (fun h => h hp0)]; rfl)
      clear hp0
      go_enter Try.func68, Try.ntmps68
      go_upto_region 1 with (fail)
      rw [HW0.out]
      go_upto_region 2 with (fail)
      rw [HW1.out]
      go_wp2_with (go_at_call 67; refine (lin_any _ _ _ _).mono ?_; rintro e w' ⟨rfl, rfl⟩)
      go_ret
      exact ⟨ret_b HDF.out.symm, HG.out⟩
    · have e0 : (pn.toList == []) = false := by rw [emp_size, decide_eq_false hp0]
      rw [decide_eq_true hp0, Bool.true_and] at HDD
      clear hp0
      obtain ⟨vv, hvv⟩ : ∃ v, isVoid pn = v := ⟨_, rfl⟩
      have HV := Lib.hid (fun W => void_spec pn W)
      rw [hvv] at HV HDD
      clear hvv
      cases vv with
      | true =>
        have HDF := Lib.hid (show D = false by rw [HDD.out]; rfl)
        go_enter Try.func68, Try.ntmps68
        go_upto_region 1 with (fail)
        rw [HW0.out]
        go_upto_region 2 with (fail)
        rw [HW1.out]
        go_wp2_with (first | (go_at_call 67; refine (lin_any _ _ _ _).mono ?_; rintro e w' ⟨rfl, rfl⟩) | (go_at_call 36; refine (HV.out _).mono ?_; rintro e w' ⟨rfl, rfl⟩))
        go_ret
        exact ⟨ret_b HDF.out.symm, HG.out⟩
      | false =>
        have HDG := Lib.hid (show D = (if nm.size = 0 then decide (tx.size ≠ 0) && decide (sn = 0) else isNm nm && decide (tx.size = 0)) by rw [HDD.out, HGN.out]; rfl)
        by_cases h3 : nm.size = 0
        · have e3 : (nm.toList == []) = true := by rw [emp_size, decide_eq_true h3]
          rw [if_pos h3] at HDG
          clear h3
          by_cases h4 : tx.size = 0
          · have e4 : (tx.toList == []) = true := by rw [emp_size, decide_eq_true h4]
            have HDF := Lib.hid (show D = false by rw [HDG.out, decide_eq_false (fun h => h h4)]; rfl)
            clear h4
            go_enter Try.func68, Try.ntmps68
            go_upto_region 1 with (fail)
            rw [HW0.out]
            go_upto_region 2 with (fail)
            rw [HW1.out]
            go_wp2_with (first | (go_at_call 67; refine (lin_any _ _ _ _).mono ?_; rintro e w' ⟨rfl, rfl⟩) | (go_at_call 36; refine (HV.out _).mono ?_; rintro e w' ⟨rfl, rfl⟩))
            go_ret
            exact ⟨ret_b HDF.out.symm, HG.out⟩
          · have e4 : (tx.toList == []) = false := by rw [emp_size, decide_eq_false h4]
            rw [decide_eq_true h4, Bool.true_and] at HDG
            clear h4
            by_cases h5 : sn = 0
            · have HDF := Lib.hid (show D = true by rw [HDG.out, decide_eq_true h5])
              subst h5
              go_enter Try.func68, Try.ntmps68
              go_upto_region 1 with (fail)
              rw [HW0.out]
              go_upto_region 2 with (fail)
              rw [HW1.out]
              go_wp2_with (first | (go_at_call 67; refine (lin_any _ _ _ _).mono ?_; rintro e w' ⟨rfl, rfl⟩) | (go_at_call 36; refine (HV.out _).mono ?_; rintro e w' ⟨rfl, rfl⟩))
              go_ret
              exact ⟨ret_b HDF.out.symm, HG.out⟩
            · have e5 : ((sn : Int) == 0) = false := beq_eq_false_iff_ne.2 (by omega)
              have HDF := Lib.hid (show D = false by rw [HDG.out, decide_eq_false h5])
              clear h5
              go_enter Try.func68, Try.ntmps68
              go_upto_region 1 with (fail)
              rw [HW0.out]
              go_upto_region 2 with (fail)
              rw [HW1.out]
              go_wp2_with (first | (go_at_call 67; refine (lin_any _ _ _ _).mono ?_; rintro e w' ⟨rfl, rfl⟩) | (go_at_call 36; refine (HV.out _).mono ?_; rintro e w' ⟨rfl, rfl⟩))
              go_ret
              exact ⟨ret_b HDF.out.symm, HG.out⟩
        · have e3 : (nm.toList == []) = false := by rw [emp_size, decide_eq_false h3]
          rw [if_neg h3] at HDG
          clear h3
          obtain ⟨iv, hiv⟩ : ∃ v, isNm nm = v := ⟨_, rfl⟩
          rw [hiv] at HNM HDG
          clear hiv
          cases iv with
          | false =>
            have HDF := Lib.hid (show D = false by rw [HDG.out]; rfl)
            go_enter Try.func68, Try.ntmps68
            go_upto_region 1 with (fail)
            rw [HW0.out]
            go_upto_region 2 with (fail)
            rw [HW1.out]
            go_wp2_with (first | (go_at_call 67; refine (lin_any _ _ _ _).mono ?_; rintro e w' ⟨rfl, rfl⟩) | (go_at_call 36; refine (HV.out _).mono ?_; rintro e w' ⟨rfl, rfl⟩) | (go_at_call 20; refine (HNM.out _).mono ?_; rintro e w' ⟨rfl, rfl⟩))
            go_ret
            exact ⟨ret_b HDF.out.symm, HG.out⟩
          | true =>
            rw [Bool.true_and, ← emp_size] at HDG
            obtain ⟨tv, htv⟩ : ∃ v, (tx.toList == ([] : List UInt8)) = v := ⟨_, rfl⟩
            have HDF := Lib.hid (show D = tv by rw [HDG.out, htv])
            go_enter Try.func68, Try.ntmps68
            go_upto_region 1 with (fail)
            rw [HW0.out]
            go_upto_region 2 with (fail)
            rw [HW1.out]
            go_wp2_with (first | (go_at_call 67; refine (lin_any _ _ _ _).mono ?_; rintro e w' ⟨rfl, rfl⟩) | (go_at_call 36; refine (HV.out _).mono ?_; rintro e w' ⟨rfl, rfl⟩) | (go_at_call 20; refine (HNM.out _).mono ?_; rintro e w' ⟨rfl, rfl⟩))
            go_ret
            exact ⟨ret_b HDF.out.symm, HG.out⟩
  · have hin : inB pa 0 ((k : Int) - 1) = false := inB_no (by omega)
    have HDF := Lib.hid (show D = false by
      rw [HD.out]
      by_cases h : pa < (k : Int)
      · rw [canOpen_out (Or.inl (by omega)), Bool.and_false, Bool.false_and]
      · rw [decide_eq_false h, Bool.false_and, Bool.false_and])
    clear hin2
    go_enter Try.func68, Try.ntmps68
    go_upto_region 1 with (fail)
    rw [HW0.out]
    go_upto_region 2 with (fail)
    rw [HW1.out]
    go_wp2_with (go_at_call 67; refine (lin_any _ _ _ _).mono ?_; rintro e w' ⟨rfl, rfl⟩)
    go_ret
    exact ⟨ret_b HDF.out.symm, HG.out⟩
end Go.Proofs.Ytjiogmbiiojhgaa
