/- Helper contracts: hasValidOpen and IsBuilder of the program. -/
import Derived.Test.YtjiogmbiiojhgaaIsBd
import Derived.Shelf.SlSortCmp.QuietGrown
namespace Go.Proofs.Ytjiogmbiiojhgaa
open Go.ChangeShapes Go.WideShapes Go.ChangeAt Go.RowKit

def openAll (b : Bd) : Bool := decide (1 ≤ b.opn.length ∧ b.opn.length ≤ 8) && (decide (b.opn.getD 0 0 = 0) && allFrom (okOpen b) b.opn.length)
theorem root_parent {ns : List Nd} (h : okRoot ns = true) : parentOf ns 0 = -1 := by
  unfold okRoot at h
  unfold parentOf
  cases e : ns[0]? with
  | none => rw [e] at h; exact absurd h (by simp)
  | some x =>
    rw [e] at h
    simp only [Bool.and_eq_true, decide_eq_true_eq] at h
    show (ns[(0 : Int).toNat]?.map Nd.parent).getD 0 = -1
    rw [show (0 : Int).toNat = 0 from rfl, e]
    exact h.1.2
theorem parent_at {ns : List Nd} {j : Nat} {x : Nd} (h : ns[j]? = some x) : parentOf ns (j : Int) = x.parent := by
  unfold parentOf; rw [Int.toNat_natCast, h]; rfl
/-- Given that all ahead are open as they should be, the node's own test says so of it too. -/
theorem okOpen_step {b : Bd} {k : Nat} (hroot : okRoot b.nodes = true) (h0 : b.opn.getD 0 0 = 0) (hpre : ∀ i, 1 ≤ i → i < k → okOpen b i = true) (hk : 1 ≤ k) :
    okOpen b k = (canOpen b.nodes (b.opn.getD k 0) && decide (parentOf b.nodes (b.opn.getD k 0) = b.opn.getD (k - 1) 0)) := by
  unfold okOpen
  by_cases h : parentOf b.nodes (b.opn.getD k 0) = b.opn.getD (k - 1) 0
  · cases hc : canOpen b.nodes (b.opn.getD k 0) with
    | false => rfl
    | true =>
      have h1 := (canOpen_lt hc).1
      have h2 : 0 ≤ b.opn.getD (k - 1) 0 := by
        by_cases e : k = 1
        · rw [e, h0]; decide
        · have := hpre (k - 1) (by omega) (by omega)
          unfold okOpen at this
          simp only [Bool.and_eq_true, decide_eq_true_eq] at this
          omega
      have h3 : 1 ≤ b.opn.getD k 0 := by
        rcases (show b.opn.getD k 0 = 0 ∨ 1 ≤ b.opn.getD k 0 by omega) with e | e
        · rw [e, root_parent hroot] at h; omega
        · exact e
      rw [decide_eq_true h3, Bool.and_true]
  · rw [decide_eq_false h, Bool.and_false, Bool.and_false]

set_option maxRecDepth 100000 in
set_option maxHeartbeats 4000000 in
theorem open_impl2 (c : Nat) (nv ov : Value) (ns : List Nv) (b : Bd) (w : World) (hns : ns.map Prod.fst = b.nodes) (hr : ReadN w.heap.size w nv ns) (ho : Reads .i64 w.heap.size w ov b.opn) (c0 : w.cell? ⟨c, 0, none⟩ = some nv) (c1 : w.cell? ⟨c, 1, none⟩ = some ov) (hc : c < w.heap.size) (hroot : okRoot b.nodes = true) :
    Calls Try.prog 66 #[.pointer (some ⟨c, 0, none⟩)] w fun e w' => e = .returned (.bool (openAll b)) ∧ Grw w w' := by
  have mixed : Try.prog.follows .mixedOrders = true := by kernel_rfl
  obtain ⟨na, nc, rfl, hc1, hc2⟩ := hr.form
  obtain ⟨oa, oc, rfl, hd1, hd2⟩ := reads_form ho
  obtain ⟨n, hn⟩ : ∃ n, ns.length = n := ⟨_, rfl⟩
  obtain ⟨on, hon⟩ : ∃ n, b.opn.length = n := ⟨_, rfl⟩
  rw [hn] at hr c0 hc1; rw [hon] at ho c1 hd1
  obtain ⟨D, hD⟩ : ∃ D, openAll b = D := ⟨_, rfl⟩
  rw [hD]
  have hD2 : D = (decide (1 ≤ on ∧ on ≤ 8) && (decide (b.opn.getD 0 0 = 0) && allFrom (okOpen b) on)) := by rw [← hD, ← hon]; rfl
  have HD := Lib.hid hD2; have HR := Lib.hid hr; have HO := Lib.hid ho; have HN := Lib.hid hn; have HON := Lib.hid hon; have HNS := Lib.hid hns; have HRT := Lib.hid hroot
  have hnl : b.nodes.length = n := by rw [← hns, List.length_map, hn]
  have HNL := Lib.hid hnl
  clear hr ho hn hon hns hroot hD hD2 hnl
  by_cases h1 : 1 ≤ on ∧ on ≤ 8
  · obtain ⟨h1a, h1b⟩ := h1
    have hin : inB (on : Int) 1 8 = true := inB_yes (by omega) (by omega)
    obtain ⟨go, oo, rfl, hgo, k0⟩ := reads_at HO.out (k := 0) (by rw [HON.out]; omega)
    rw [Nat.add_zero] at k0
    by_cases h2 : b.opn.getD 0 0 = 0
    · rw [h2] at k0
      have H2 := Lib.hid h2; clear h2
      have HD2 := Lib.hid (show D = allFrom (okOpen b) on by rw [HD.out, decide_eq_true ⟨h1a, h1b⟩, decide_eq_true H2.out]; rfl)
      go_enter Try.func66, Try.ntmps66
      go_wp2_with (go_at_call 63; refine (rin_any _ _ _ _).mono ?_; rintro e w' ⟨rfl, rfl⟩)
      go_loopw [3] (fun i wr => ∃ (k : Nat), 1 ≤ k ∧ k ≤ on ∧ i = .int .i64 k ∧ (∀ i, 1 ≤ i → i < k → okOpen b i = true) ∧ Grw w wr)
        (fun i _ => on - (intOf i).toNat)
      case atStart => exact ⟨1, Nat.le_refl _, h1a, rfl, fun i h1 h2 => by omega, Grw.refl _⟩
      case round =>
        obtain ⟨k, hk1, hk, rfl, hpre, hs⟩ := hrel
        have HP := Lib.hid hpre; have HS := Lib.hid hs
        have d0 : wr.cell? ⟨c, 0, none⟩ = some (.slice na n nc) := (hs.below.cell hc).trans c0
        have d1 : wr.cell? ⟨c, 1, none⟩ = some (.slice (some ⟨go, oo, none⟩) on oc) := (hs.below.cell hc).trans c1
        have hcr : c < wr.heap.size := Nat.lt_of_lt_of_le hc hs.below.size
        have hsz := hs.below.size
        clear hpre hs
        by_cases hlt : (k : Int) < (on : Int)
        · have hro := HO.out.below HS.out.below (Nat.le_refl _)
          obtain ⟨go', oo', e', _, kk⟩ := reads_at hro (k := k) (by rw [HON.out]; omega)
          cases e'
          obtain ⟨go', oo', e', _, km⟩ := reads_at hro (k := k - 1) (by rw [HON.out]; omega)
          cases e'
          obtain ⟨m, rfl⟩ : ∃ m, k = m + 1 := ⟨k - 1, by omega⟩
          rw [Nat.add_sub_cancel] at km
          obtain ⟨z, hz⟩ : ∃ z, b.opn.getD (m + 1) 0 = z := ⟨_, rfl⟩
          obtain ⟨y, hy⟩ : ∃ y, b.opn.getD m 0 = y := ⟨_, rfl⟩
          have hstep := okOpen_step HRT.out H2.out HP.out (k := m + 1) (by omega)
          rw [hz, Nat.add_sub_cancel, hy] at hstep
          rw [hz] at kk; rw [hy] at km
          have HST := Lib.hid hstep
          have HBAD := Lib.hid (fun (h : okOpen b (m + 1) = false) => show D = false by
            rw [HD2.out]
            cases e : allFrom (okOpen b) on
            · rfl
            · have := (allFrom_iff _ on).1 e (m + 1) (by omega) (by omega)
              rw [h] at this; cases this)
          have hgw : go < wr.heap.size := by omega
          clear hstep hro hz hy
          by_cases hin2 : 0 ≤ z ∧ z < (n : Int)
          · obtain ⟨hz0, hz1⟩ := hin2
            obtain ⟨j, rfl⟩ : ∃ j : Nat, z = j := ⟨z.toNat, by omega⟩
            obtain ⟨q, hq⟩ := nd_at (ns := ns) (k := j) (by rw [HN.out]; omega)
            obtain ⟨gn, off, rfl, hgn, m0, _, m2, _⟩ := (HR.out.below HS.out.below (Nat.le_refl _)).at hq
            have hqn := map_fst_at HNS.out hq
            obtain ⟨⟨⟨nm, tx, pa, ats⟩, sl⟩, rfl⟩ : ∃ r : Nv, q = r := ⟨q, rfl⟩
            replace m0 : _ = some (Value.string nm) := m0
            replace m2 : _ = some (Value.int .i64 pa) := m2
            have hgnw : gn < wr.heap.size := by omega
            have HNA := Lib.hid (nodeAt_in c gn off n nc j wr d0 (by omega) (by omega))
            have M0 := cell_grown hgnw m0; have M2 := cell_grown hgnw m2; have KM := cell_grown hgw km; have D1 := cell_grown hcr d1
            obtain ⟨cv, hcv⟩ : ∃ v, (decide (nm.size ≠ 0) && !isVoid nm) = v := ⟨_, rfl⟩
            have HCO := Lib.hid (fun (m' : Nat) (os : Array Obj) => (can_some gn (off + j * 4) nm (Sort.grow (wr.drewN m') os) (M0 m' os)).mono (R' := fun e w' => e = .returned (.bool cv) ∧ Grw (Sort.grow (wr.drewN m') os) w') fun e w' h => ⟨by rw [h.1, hcv], by rw [h.2]; exact Grw.refl _⟩)
            rw [canOpen_at hqn, parent_at hqn] at HST
            dsimp only at HST
            rw [hcv] at HST
            clear hcv hq hqn m0 m2 km
            cases cv with
            | false =>
              have HDF := Lib.hid (HBAD.out (by rw [HST.out]; rfl))
              go_wp2_with (go_at_call 62; refine HNA.out.mono ?_; rintro e w' ⟨rfl, rfl⟩)
              refine wp_region_quiet_grown mixed (by kernel_rfl) ?_
              repeat (go_big_quiet_step (first | (go_at_call 101; refine Calls.grown_of (HCO.out _ _))))
              refine wpQuiet_nil ?_; intro _ hw'; obtain ⟨⟨nq, osq⟩, hw''⟩ := hw'; subst hw''
              go_wp2_with fail
              go_ret
              exact ⟨ret_b HDF.out.symm, HS.out.trans ⟨nq, osq, rfl⟩⟩
            | true =>
              by_cases hpy : pa = y
              · have e5 : (pa != y) = false := by rw [bne, beq_iff_eq.2 hpy]; rfl
                have HPN := Lib.hid (show ∀ i, 1 ≤ i → i < m + 1 + 1 → okOpen b i = true from fun i h1 h2 => by
                  by_cases e : i = m + 1
                  · rw [e, HST.out, decide_eq_true hpy]; rfl
                  · exact HP.out i h1 (by omega))
                clear hpy
                go_wp2_with (go_at_call 62; refine HNA.out.mono ?_; rintro e w' ⟨rfl, rfl⟩)
                refine wp_region_quiet_grown mixed (by kernel_rfl) ?_
                repeat (go_big_quiet_step (first | (go_at_call 101; refine Calls.grown_of (HCO.out _ _))))
                refine wpQuiet_nil ?_; intro _ hw'; obtain ⟨⟨nq, osq⟩, hw''⟩ := hw'; subst hw''
                go_wp2_with fail
                go_roundw
                case rel => exact ⟨m + 1 + 1, by omega, by omega, by go_num, HPN.out, HS.out.trans ⟨nq, osq, rfl⟩⟩
                case measure => simp [intOf]; omega
              · have e5 : (pa != y) = true := by rw [bne, beq_eq_false_iff_ne.2 hpy]; rfl
                have HDF := Lib.hid (HBAD.out (by rw [HST.out, decide_eq_false hpy]; rfl))
                clear hpy
                go_wp2_with (go_at_call 62; refine HNA.out.mono ?_; rintro e w' ⟨rfl, rfl⟩)
                refine wp_region_quiet_grown mixed (by kernel_rfl) ?_
                repeat (go_big_quiet_step (first | (go_at_call 101; refine Calls.grown_of (HCO.out _ _))))
                refine wpQuiet_nil ?_; intro _ hw'; obtain ⟨⟨nq, osq⟩, hw''⟩ := hw'; subst hw''
                go_wp2_with fail
                go_ret
                exact ⟨ret_b HDF.out.symm, HS.out.trans ⟨nq, osq, rfl⟩⟩
          · have hz' : z < 0 ∨ (n : Int) ≤ z := by omega
            have HNA := Lib.hid (nodeAt_out c n nc na z wr d0 hz' (by omega))
            have HCO := Lib.hid (fun (m' : Nat) (os : Array Obj) => (can_none (Sort.grow (wr.drewN m') os)).mono (R' := fun e w' => e = .returned (.bool false) ∧ Grw (Sort.grow (wr.drewN m') os) w') fun e w' h => ⟨h.1, by rw [h.2]; exact Grw.refl _⟩)
            have HDF := Lib.hid (HBAD.out (by rw [HST.out, canOpen_out (by rw [HNL.out]; exact hz')]; rfl))
            clear hz' hin2 km
            go_wp2_with (go_at_call 62; refine HNA.out.mono ?_; rintro e w' ⟨rfl, rfl⟩)
            refine wp_region_quiet_grown mixed (by kernel_rfl) ?_
            repeat (go_big_quiet_step (first | (go_at_call 101; refine Calls.grown_of (HCO.out _ _))))
            refine wpQuiet_nil ?_; intro _ hw'; obtain ⟨⟨nq, osq⟩, hw''⟩ := hw'; subst hw''
            go_wp2_with fail
            go_ret
            exact ⟨ret_b HDF.out.symm, HS.out.trans ⟨nq, osq, rfl⟩⟩
        · have HDT := Lib.hid (show D = true by
            rw [HD2.out]
            exact (allFrom_iff _ on).2 fun i h1 h2 => HP.out i h1 (by omega))
          go_wp2_with fail
          go_ret
          exact ⟨ret_b HDT.out.symm, HS.out⟩
    · have e2 : (b.opn.getD 0 0 != 0) = true := by rw [bne, beq_eq_false_iff_ne.2 h2]; rfl
      have HDF := Lib.hid (show D = false by rw [HD.out, decide_eq_false h2, Bool.false_and, Bool.and_false])
      obtain ⟨y, hy⟩ : ∃ y, b.opn.getD 0 0 = y := ⟨_, rfl⟩
      rw [hy] at k0 e2
      clear h2 hy
      go_enter Try.func66, Try.ntmps66
      go_wp2_with (go_at_call 63; refine (rin_any _ _ _ _).mono ?_; rintro e w' ⟨rfl, rfl⟩)
      go_ret
      exact ⟨ret_b HDF.out.symm, Grw.refl _⟩
  · have hin : inB (on : Int) 1 8 = false := inB_no (by omega)
    have HDF := Lib.hid (show D = false by rw [HD.out, decide_eq_false h1, Bool.false_and])
    clear h1
    go_enter Try.func66, Try.ntmps66
    go_wp2_with (go_at_call 63; refine (rin_any _ _ _ _).mono ?_; rintro e w' ⟨rfl, rfl⟩)
    go_ret
    exact ⟨ret_b HDF.out.symm, Grw.refl _⟩
end Go.Proofs.Ytjiogmbiiojhgaa
