/- Helper contracts: IsBuilder of the program, l6Node of the model. -/
import Derived.Test.YtjiogmbiiojhgaaIsBo
namespace Go.Proofs.Ytjiogmbiiojhgaa
open Go.ChangeShapes Go.WideShapes Go.ChangeAt Go.RowKit

theorem isBd_eq (b : Bd) : isBd b = (decide (1 ≤ b.nodes.length ∧ b.nodes.length ≤ 40) && (okRoot b.nodes && (allFrom (okNode b.nodes) b.nodes.length && openAll b))) := by
  unfold isBd openAll; simp only [Bool.and_assoc]
theorem okRoot_at {ns : List Nd} {x : Nd} (h : ns[0]? = some x) : okRoot ns = rootB x := by
  unfold okRoot rootB; rw [h]
/-- Names within a string's reach. -/
def NmOk (b : Bd) : Prop := ∀ x ∈ b.nodes, x.name.size ≤ 9223372036854775807

set_option maxRecDepth 100000 in
set_option maxHeartbeats 4000000 in
theorem isB_impl (nv ov : Value) (b : Bd) (w : World) (hb : BdIn w.heap.size w nv ov b) (hok : NmOk b) :
    Calls Try.prog 18 #[.agg #[nv, ov]] w fun e w' => e = .returned (.bool (isBd b)) ∧ Grw w w' := by
  obtain ⟨ns, hns, hrn, hro⟩ := hb
  obtain ⟨na, nc, rfl, hc1, hc2⟩ := hrn.form
  obtain ⟨oa, oc, rfl, _⟩ := reads_form hro
  obtain ⟨n, hn⟩ : ∃ n, ns.length = n := ⟨_, rfl⟩
  obtain ⟨on, hon⟩ : ∃ n, b.opn.length = n := ⟨_, rfl⟩
  rw [hn] at hrn hc1 ⊢; rw [hon] at hro ⊢
  have hnl : b.nodes.length = n := by rw [← hns, List.length_map, hn]
  obtain ⟨W0, hW0⟩ : ∃ W, w.alloc (.cells #[.slice na n nc, .slice oa on oc] 27) = W := ⟨_, rfl⟩
  have hg0 : Grw w W0 := by rw [← hW0]; exact (Grw.refl w).alloc _
  have q1 : Box2 W0 w.heap.size (.slice na n nc) (.slice oa on oc) := by rw [← hW0]; exact Box2.new _ _ _
  obtain ⟨⟨a0, a1⟩, _⟩ := q1.cells
  have hr0 := (hrn.below hg0.below (Nat.le_refl _)).mono hg0.below.size
  have ho0 := (hro.below hg0.below (Nat.le_refl _)).mono hg0.below.size
  have HNO := Lib.hid (nodes_impl w.heap.size (.slice na n nc) ns _ W0 hr0 a0 (fun p hp => hok p.1 (by rw [← hns]; exact List.mem_map_of_mem hp)))
  rw [hns, hn] at HNO
  have HOP := Lib.hid (fun (h : okRoot b.nodes = true) => open_impl2 w.heap.size (.slice na n nc) (.slice oa on oc) ns b W0 hns hr0 ho0 a0 a1 q1.lt h)
  have HIS := Lib.hid (isBd_eq b)
  rw [hnl] at HIS
  have HG := Lib.hid hg0; have HW0 := Lib.hid hW0; have HR0 := Lib.hid hr0; have HN := Lib.hid hn; have HNS := Lib.hid hns
  obtain ⟨D, hD⟩ : ∃ D, isBd b = D := ⟨_, rfl⟩
  rw [hD] at HIS ⊢
  clear hrn hro hns hn hon hnl hW0 hg0 hr0 ho0 hok q1 hD
  by_cases h1 : 1 ≤ n ∧ n ≤ 40
  · obtain ⟨h1a, h1b⟩ := h1
    have hin : inB (n : Int) 1 40 = true := inB_yes (by omega) (by omega)
    rw [decide_eq_true ⟨h1a, h1b⟩, Bool.true_and] at HIS
    obtain ⟨p, hp⟩ := nd_at (ns := ns) (k := 0) (by rw [HN.out]; omega)
    obtain ⟨g, off, rfl, hg, n0, n1, n2, n3⟩ := HR0.out.at hp
    have hat : p.1.attrs.length = p.2.2.1 := attrs_n (a := p.2.1) (c := p.2.2.2) (HR0.out.2 p (List.mem_of_getElem? hp))
    have hpn := map_fst_at HNS.out hp
    obtain ⟨⟨⟨nm, tx, pa, ats⟩, ⟨sa, sn, sc⟩⟩, rfl⟩ : ∃ q : Nv, p = q := ⟨p, rfl⟩
    rw [Nat.zero_mul, Nat.add_zero] at n0 n1 n2 n3
    have HRI := Lib.hid (root_impl g off nm tx pa ats sa sn sc W0 n0 n1 n2 n3 hat)
    rw [okRoot_at hpn] at HIS HOP
    obtain ⟨rv, hrv⟩ : ∃ v, rootB ⟨nm, tx, pa, ats⟩ = v := ⟨_, rfl⟩
    rw [hrv] at HRI HIS HOP
    obtain ⟨nvv, hnv⟩ : ∃ v, allFrom (okNode b.nodes) n = v := ⟨_, rfl⟩
    rw [hnv] at HNO HIS
    obtain ⟨ovv, hovv⟩ : ∃ v, openAll b = v := ⟨_, rfl⟩
    rw [hovv] at HOP HIS
    clear n0 n1 n2 n3 hat hpn hrv hp hnv hovv
    cases rv with
    | false =>
      have HDF := Lib.hid (show D = false by rw [HIS.out]; rfl)
      go_enter Try.func18, Try.ntmps18
      go_upto_region 1 with (fail)
      rw [HW0.out]
      go_wp2_with (first | (go_at_call 63; refine (rin_any _ _ _ _).mono ?_; rintro e w' ⟨rfl, rfl⟩) | (go_at_call 64; refine HRI.out.mono ?_; rintro e w' ⟨rfl, rfl⟩))
      go_ret
      exact ⟨ret_b HDF.out.symm, HG.out⟩
    | true =>
      rw [Bool.true_and] at HIS
      cases nvv with
      | false =>
        have HDF := Lib.hid (show D = false by rw [HIS.out]; rfl)
        go_enter Try.func18, Try.ntmps18
        go_upto_region 1 with (fail)
        rw [HW0.out]
        go_wp2_with (first | (go_at_call 63; refine (rin_any _ _ _ _).mono ?_; rintro e w' ⟨rfl, rfl⟩) | (go_at_call 64; refine HRI.out.mono ?_; rintro e w' ⟨rfl, rfl⟩) | (go_at_call 65; refine HNO.out.mono ?_; rintro e w' ⟨rfl, rfl⟩))
        go_ret
        exact ⟨ret_b HDF.out.symm, HG.out⟩
      | true =>
        have HDF := Lib.hid (show D = ovv by rw [HIS.out]; rfl)
        have HOQ := Lib.hid (HOP.out rfl)
        clear HOP HIS
        go_enter Try.func18, Try.ntmps18
        go_upto_region 1 with (fail)
        rw [HW0.out]
        go_wp2_with (first | (go_at_call 63; refine (rin_any _ _ _ _).mono ?_; rintro e w' ⟨rfl, rfl⟩) | (go_at_call 64; refine HRI.out.mono ?_; rintro e w' ⟨rfl, rfl⟩) | (go_at_call 65; refine HNO.out.mono ?_; rintro e w' ⟨rfl, rfl⟩) | (go_at_call 66; refine HOQ.out.mono ?_; rintro e w5 ⟨rfl, hg5⟩))
        have HG5 := Lib.hid (HG.out.trans hg5); clear hg5
        go_ret
        exact ⟨ret_b HDF.out.symm, HG5.out⟩
  · have hin : inB (n : Int) 1 40 = false := inB_no (by omega)
    have HDF := Lib.hid (show D = false by rw [HIS.out, decide_eq_false h1, Bool.false_and])
    clear h1
    go_enter Try.func18, Try.ntmps18
    go_upto_region 1 with (fail)
    rw [HW0.out]
    go_wp2_with (go_at_call 63; refine (rin_any _ _ _ _).mono ?_; rintro e w' ⟨rfl, rfl⟩)
    go_ret
    exact ⟨ret_b HDF.out.symm, HG.out⟩
end Go.Proofs.Ytjiogmbiiojhgaa
