/- The walk of the law FnTrees: it returns true, and writes nothing that was there. -/
import Derived.Test.YtiginllbfjekeaaDrwAll
import Derived.Test.YtiginllbfjekeaaIsbAll
import Derived.Test.YtiginllbfjekeaaBdAll
import Derived.Deep.RegionHeld3
import Derived.Deep.RegionWith
import Derived.Deep.CutRange
namespace Go.Proofs.Ytiginllbfjekeaa
open Go.ChangeShapes Go.WideShapes Go.ChangeAt Go.RowKit

theorem ndW_four : ∀ ns : List Nd, (∀ x ∈ ns, x.attrs.length ≤ 4) → ndW ns ≤ 11 * ns.length
  | [], _ => Nat.le_refl _
  | x :: ns, h => by
    have h1 := h x List.mem_cons_self
    have h2 := ndW_four ns fun u hu => h u (List.mem_cons_of_mem _ hu)
    rw [ndW, List.length_cons]; omega
theorem BdFit.fits {b : Bd} (h : BdFit b) : ndW b.nodes ≤ 1000 ∧ b.opn.length ≤ 9 := by
  have h1 := ndW_four b.nodes h.att
  have h2 := h.nodes
  exact ⟨by omega, h.opn⟩
/-- What AddToken answers, with the places of all that it made. -/
def AddFm (b : Bd) (t : Tok) (X : World) (e : Ending) (w' : World) : Prop :=
  ∃ (na : Option Addr) (nn nc : Nat) (oa : Option Addr) (on oc : Nat) (ns : List Nv), e = .returned (.tuple #[.agg #[.slice na nn nc, .slice oa on oc], .int .i64 (addTok b t).2]) ∧ nn = (addTok b t).1.nodes.length ∧ ns.map Prod.fst = (addTok b t).1.nodes ∧ BdM X.heap.size X w' (.slice na nn nc) (.slice oa on oc) ns (addTok b t).1.opn
theorem addFm {b : Bd} {t : Tok} {X w' : World} {e : Ending} (h : AddOut b t X e w') : AddFm b t X e w' := by
  obtain ⟨nv, ov, he, hb⟩ := h
  obtain ⟨na, nn, nc, oa, on, oc, rfl, rfl⟩ := hb.lens
  obtain ⟨ns, hns, hm, ho⟩ := hb
  refine ⟨na, nn, nc, oa, on, oc, ns, he, ?_, hns, ⟨hm, ho⟩⟩
  obtain ⟨a, c, e⟩ := mineN_form hm
  injection e with _ e _
  rw [← hns, List.length_map, e]
theorem eq_yes {nv ov nv' ov' : Value} {b : Bd} {w : World} (ha : BdIn w.heap.size w nv ov b) (hb : BdIn w.heap.size w nv' ov' b) :
    Calls Try.prog 9 #[.agg #[nv, ov], .agg #[nv', ov']] w fun e w' => e = .returned (.bool true) ∧ Grw w w' :=
  (eqB_impl nv ov nv' ov' b b w ha hb).mono fun _ _ h => ⟨by rw [h.1, decide_eq_true rfl], h.2⟩
theorem nm_grw (s : ByteArray) (hs : s.size ≤ 6000) (w : World) : Calls Try.prog 12 #[.string s] w fun e w' => e = .returned (.bool (isNm s)) ∧ w = w' := nm_spec s (by omega) w
theorem readT_none (w : World) (a : Option Addr) (hi : Nat) : ReadT hi w (.slice a 0 0) [] := ⟨⟨a, 0, rfl, Nat.le_refl _, by omega, fun _ => rfl, Or.inl rfl⟩, fun p hp => by cases hp⟩
theorem ReadT.up {w w' : World} {v : Value} {ts : List Tv} (h : ReadT w.heap.size w v ts) (hb : Below w.heap.size w w') : ReadT w'.heap.size w' v ts := (h.below hb (Nat.le_refl _)).mono hb.size
theorem addToks_none (b : Bd) : addToks b [] = b := rfl
theorem adds_len {b : Bd} {ts : List Tok} {X w' : World} {na : Option Addr} {nn nc : Nat} {ov : Value} {ns : List Nv} {zs : List Int} (h : BdM X.heap.size X w' (.slice na nn nc) ov ns zs) (hns : ns.map Prod.fst = (addToks b ts).nodes) : nn ≤ b.nodes.length + ts.length := by
  obtain ⟨a, c, e⟩ := mineN_form h.n
  injection e with _ e _
  have h1 := addToks_num ts b
  rw [← hns, List.length_map] at h1
  omega

set_option maxRecDepth 100000 in
set_option maxHeartbeats 8000000 in
theorem walkTreesW (HA : AnyS) (HT : ToksS) (a_c : Option Addr) (len_c cap_c : Nat) (w : World) (r_c : CodeOk w.heap.size w (.slice a_c len_c cap_c) len_c) (hb_c : ¬ (1048576 : Int) < (len_c : Int)) :
    Calls Try.prog 3 #[.slice a_c len_c cap_c] w fun e w' => e = .returned (.bool true) ∧ Below w.heap.size w w' := by
  have mixed : Try.prog.follows .mixedOrders = true := by kernel_rfl
  have HCO := Lib.hid r_c; have HAN := Lib.hid HA; have HTK := Lib.hid HT; clear r_c HA HT
  go_enter Try.func3, Try.ntmps3
  go_wp2_with fail
  refine (big_no a_c len_c cap_c _ (by omega)).mono ?_
  rintro e w1 ⟨rfl, rfl⟩
  go_wp2_with fail
  refine (drawAdd_any HAN.out HTK.out _ len_c _ HCO.out).mono ?_
  rintro e w2 ⟨na, nn, nc, oa, on, oc, ns, zs, kd, nm, ats, tx, ta, tn, tc, rfl, hfit, hm, hat, hat4, hnm, hb2⟩
  have hnl : nn = ns.length := by obtain ⟨a, c', e⟩ := mineN_form hm.n; cases e; rfl
  obtain ⟨b, hbd⟩ : ∃ b, Bd.mk (ns.map Prod.fst) zs = b := ⟨_, rfl⟩
  have HBN := Lib.hid (show nn = b.nodes.length by rw [← hbd, hnl]; show _ = (ns.map Prod.fst).length; rw [List.length_map])
  have HNN := Lib.hid (show nn ≤ 41 by have h := hfit.nodes; rw [show (Bd.mk (ns.map Prod.fst) zs).nodes = ns.map Prod.fst from rfl, List.length_map] at h; omega)
  have HFT := Lib.hid (hbd ▸ hfit.fits)
  have HNO := Lib.hid (show NmOk b from fun x hx => by have := (hbd ▸ hfit.nam) x hx; omega)
  have HNA := Lib.hid (show ∀ x ∈ b.nodes, x.name.size ≤ 6000 from hbd ▸ hfit.nam)
  have HAT4 := Lib.hid hat4; have HNM := Lib.hid hnm
  have hbi : BdIn w2.heap.size w2 (.slice na nn nc) (.slice oa on oc) b := by rw [← hbd]; exact hm.reads rfl
  have hbx : Below w2.heap.size w2 ((w2.alloc (.cells #[.slice na nn nc, .slice oa on oc] 27)).alloc (.cells #[.int .i64 kd, .string nm, .slice ta tn tc, .string tx] 30)) := ((Below.refl _ w2).alloc (Nat.le_refl _) _).alloc (by rw [size_alloc]; omega) _
  have HB := Lib.hid (hb2.trans (hbx.mono hb2.size))
  have HBI := Lib.hid (hbi.up hbx)
  have HAR := Lib.hid ((hat.below hbx (Nat.le_refl _)).mono hbx.size)
  have HX := Lib.hid ((Box2.new w2 (.slice na nn nc) (.slice oa on oc)).alloc (.cells #[.int .i64 kd, .string nm, .slice ta tn tc, .string tx] 30))
  have HTB := Lib.hid (by have h := BoxT.new (w2.alloc (.cells #[.slice na nn nc, .slice oa on oc] 27)) kd nm (.slice ta tn tc) tx; rw [size_alloc] at h; exact h)
  clear hfit hm hat hat4 hnm hb2 hnl hbd hbi hbx
  obtain ⟨A, hA⟩ : ∃ c, w2.heap.size = c := ⟨_, rfl⟩
  go_wp2_with fail
  obtain ⟨W2, hW2⟩ : ∃ W, (w2.alloc (.cells #[.slice na nn nc, .slice oa on oc] 27)).alloc (.cells #[.int .i64 kd, .string nm, .slice ta tn tc, .string tx] 30) = W := ⟨_, rfl⟩
  try simp only [hA]
  rw [hA] at HX HTB
  rw [hW2] at HX HTB HB HBI HAR
  try rw [hW2]
  clear hA hW2
  obtain ⟨R, hR⟩ : ∃ r, addTok b ⟨kd, nm, ats, tx⟩ = r := ⟨_, rfl⟩
  have HR := Lib.hid hR
  have HNUM := Lib.hid (show R.2 = (b.nodes.length : Int) ∧ R.1.nodes.length = b.nodes.length + 1 ∨ R.2 = -1 ∧ R.1.nodes.length = b.nodes.length by rw [← hR]; exact addTok_num b _)
  clear hR
  refine ((add_impl (.slice na nn nc) (.slice oa on oc) b ⟨kd, nm, ats, tx⟩ ta tn tc W2 HBI.out ⟨by have := HFT.out.1; omega, by have := HFT.out.2; omega⟩ HAR.out (by show ats.length ≤ _; have := HAT4.out; omega)).mono fun _ _ h => addFm h).mono ?_
  rintro e w3 ⟨xa, xn, xc, ya, yn, yc, xs, rfl, hxn, hxs, hxm⟩
  rw [HR.out] at hxn hxs hxm ⊢
  have hb3 := hxm.n.row.below
  have hbx : Below w3.heap.size w3 (w3.alloc (.cells #[.slice xa xn xc, .slice ya yn yc] 27)) := (Below.refl _ w3).alloc (Nat.le_refl _) _
  have HXN := Lib.hid hxn
  have HXI := Lib.hid ((hxm.reads (b := R.1) hxs).up hbx)
  have HXX := Lib.hid (Box2.new w3 (.slice xa xn xc) (.slice ya yn yc))
  replace HB := Lib.hid ((HB.out.trans (hb3.mono HB.out.size)).trans (hbx.mono (Nat.le_trans HB.out.size hb3.size)))
  replace HBI := Lib.hid ((HBI.out.up hb3).up hbx)
  replace HAR := Lib.hid ((((HAR.out.below hb3 (Nat.le_refl _)).mono hb3.size).below hbx (Nat.le_refl _)).mono hbx.size)
  replace HX := Lib.hid ((HX.out.later hb3).later hbx)
  replace HTB := Lib.hid ((HTB.out.later hb3).later hbx)
  clear hxn hxs hxm hb3 hbx
  obtain ⟨C, hC⟩ : ∃ c, w3.heap.size = c := ⟨_, rfl⟩
  obtain ⟨⟨c0, c1⟩, -, -⟩ := HX.out.cells
  obtain ⟨t0, t1, t2, t3⟩ := HTB.out.cells
  go_wp2_with fail
  obtain ⟨W3, hW3⟩ : ∃ W, w3.alloc (.cells #[.slice xa xn xc, .slice ya yn yc] 27) = W := ⟨_, rfl⟩
  try simp only [hC]
  rw [hC] at HXX
  rw [hW3] at HX HTB HB HBI HAR HXI HXX
  try rw [hW3]
  clear hC hW3 c0 c1 t0 t1 t2 t3
  refine ((add_spec (.slice na nn nc) (.slice oa on oc) b ⟨kd, nm, ats, tx⟩ ta tn tc W3 HBI.out ⟨by have := HFT.out.1; omega, by have := HFT.out.2; omega⟩ HAR.out (by show ats.length ≤ _; have := HAT4.out; omega)).mono fun _ _ h => addFm h).mono ?_
  rintro e w4 ⟨ua, un, uc, va, vn, vc, us, rfl, hun, hus, hum⟩
  rw [HR.out] at hun hus hum ⊢
  have hb4 := hum.n.row.below
  have hbx : Below w4.heap.size w4 (w4.alloc (.cells #[.slice ua un uc, .slice va vn vc] 27)) := (Below.refl _ w4).alloc (Nat.le_refl _) _
  have HUI := Lib.hid ((hum.reads (b := R.1) hus).up hbx)
  have HUX := Lib.hid (Box2.new w4 (.slice ua un uc) (.slice va vn vc))
  replace HB := Lib.hid ((HB.out.trans (hb4.mono HB.out.size)).trans (hbx.mono (Nat.le_trans HB.out.size hb4.size)))
  replace HBI := Lib.hid ((HBI.out.up hb4).up hbx)
  replace HXI := Lib.hid ((HXI.out.up hb4).up hbx)
  replace HX := Lib.hid ((HX.out.later hb4).later hbx)
  replace HXX := Lib.hid ((HXX.out.later hb4).later hbx)
  replace HTB := Lib.hid ((HTB.out.later hb4).later hbx)
  clear hun hus hum hb4 hbx HAR
  obtain ⟨D, hD⟩ : ∃ c, w4.heap.size = c := ⟨_, rfl⟩
  obtain ⟨W4, hW4⟩ : ∃ W, w4.alloc (.cells #[.slice ua un uc, .slice va vn vc] 27) = W := ⟨_, rfl⟩
  rw [hD] at HUX
  rw [hW4] at HX HTB HB HBI HXI HXX HUI HUX
  obtain ⟨r1, r2⟩ := R
  have HW4 := Lib.hid hW4; have HDD := Lib.hid hD
  clear hD hW4
  go_upto_region 6 with (fail)
  try simp only [HDD.out]
  try rw [HW4.out]
  clear HW4 HDD
  replace HNUM := Lib.hid (show r2 = (b.nodes.length : Int) ∧ r1.nodes.length = b.nodes.length + 1 ∨ r2 = -1 ∧ r1.nodes.length = b.nodes.length from HNUM.out)
  replace HXN := Lib.hid (show xn = r1.nodes.length from HXN.out)
  have HTOT := Lib.hid (show isBd b = true → (kd ≠ 1 ∨ isNm nm = true) → isBd r1 = true from fun h1 h2 => by have h := isBd_add h1 ⟨kd, nm, ats, tx⟩ h2; rw [HR.out] at h; exact h)
  have HNR := Lib.hid (show NmOk r1 from fun x hx => by have h := nmOk_add (b := b) (t := ⟨kd, nm, ats, tx⟩) HNA.out HNM.out; rw [HR.out] at h; have := h x hx; omega)
  have HEQ := Lib.hid (fun (m : Nat) (os : Array Obj) => eq_yes (w := Sort.grow (W4.drewN m) os) (HXI.out.up (show Below W4.heap.size W4 _ from Grw.below ⟨m, os, rfl⟩)) (HUI.out.up (show Below W4.heap.size W4 _ from Grw.below ⟨m, os, rfl⟩)))
  have HII := Lib.hid (fun (m : Nat) (os : Array Obj) => isB_impl (.slice na nn nc) (.slice oa on oc) b (Sort.grow (W4.drewN m) os) (HBI.out.up (show Below W4.heap.size W4 _ from Grw.below ⟨m, os, rfl⟩)) HNO.out)
  have HIS := Lib.hid (fun (m : Nat) (os : Array Obj) => isB_spec (.slice na nn nc) (.slice oa on oc) b (Sort.grow (W4.drewN m) os) (HBI.out.up (show Below W4.heap.size W4 _ from Grw.below ⟨m, os, rfl⟩)) HNO.out)
  obtain ⟨ib, hib⟩ : ∃ x, isBd b = x := ⟨_, rfl⟩
  rw [hib] at HII HIS
  have HIB := Lib.hid hib
  clear hib HR
  go_cut [79] from 32 to 79 (fun c wx => c = .bool false ∧ Grw W4 wx)
  case first =>
    obtain ⟨⟨c0, c1⟩, -, -⟩ := HX.out.cells
    obtain ⟨⟨x0, x1⟩, -, -⟩ := HXX.out.cells
    obtain ⟨⟨u0, u1⟩, -, -⟩ := HUX.out.cells
    have hnn := HNN.out
    replace c0 := cell_grown (show (⟨A, 0, none⟩ : Addr).block < W4.heap.size from HX.out.lt) c0
    replace c1 := cell_grown (show (⟨A, 1, none⟩ : Addr).block < W4.heap.size from HX.out.lt) c1
    replace x0 := cell_grown (show (⟨C, 0, none⟩ : Addr).block < W4.heap.size from HXX.out.lt) x0
    replace x1 := cell_grown (show (⟨C, 1, none⟩ : Addr).block < W4.heap.size from HXX.out.lt) x1
    replace u0 := cell_grown (show (⟨D, 0, none⟩ : Addr).block < W4.heap.size from HUX.out.lt) u0
    replace u1 := cell_grown (show (⟨D, 1, none⟩ : Addr).block < W4.heap.size from HUX.out.lt) u1
    rcases HNUM.out with ⟨h1, h2⟩ | ⟨h1, h2⟩
    · obtain rfl : r2 = (nn : Int) := by rw [h1, HBN.out]
      have hx : xn = nn + 1 := by rw [HXN.out, h2, HBN.out]
      subst hx
      clear h1 h2
      have hi1 : decide ((nn : Int) < 0) = false := decide_eq_false (by omega)
      have hi2 : (0 : Int) ≤ (nn : Int) := by omega
      refine wp_region_quiet_grown mixed (by kernel_rfl) ?_
      iterate 48 (go_big_quiet_step (first | (go_at_call 9; refine Calls.grown_of (HEQ.out _ _)) | (go_at_call 10; refine Calls.grown_of (HII.out _ _)) | (go_at_call 11; refine Calls.grown_of (HIS.out _ _))))
      refine wpQuiet_nil ?_; intro _ hw'; obtain ⟨⟨nq, osq⟩, hw''⟩ := hw'; subst hw''
      go_wp2_with fail
      go_meet
      exact ⟨by first | rfl | (simp; done) | (congr 1; simp; omega), nq, osq, rfl⟩
    · obtain rfl : r2 = -1 := h1
      obtain rfl : xn = nn := by rw [HXN.out, h2, HBN.out]
      clear h2
      refine wp_region_quiet_grown mixed (by kernel_rfl) ?_
      iterate 48 (go_big_quiet_step (first | (go_at_call 9; refine Calls.grown_of (HEQ.out _ _)) | (go_at_call 10; refine Calls.grown_of (HII.out _ _)) | (go_at_call 11; refine Calls.grown_of (HIS.out _ _))))
      refine wpQuiet_nil ?_; intro _ hw'; obtain ⟨⟨nq, osq⟩, hw''⟩ := hw'; subst hw''
      go_wp2_with fail
      go_meet
      exact ⟨by first | rfl | (simp; done) | (congr 1; simp; omega), nq, osq, rfl⟩
  obtain ⟨rfl, hg⟩ := hcut
  rename World => w_5
  have hb5 := hg.below
  replace HB := Lib.hid (HB.out.trans (hb5.mono HB.out.size))
  replace HBI := Lib.hid (HBI.out.up hb5)
  replace HXI := Lib.hid (HXI.out.up hb5)
  replace HX := Lib.hid (HX.out.later hb5)
  replace HXX := Lib.hid (HXX.out.later hb5)
  replace HTB := Lib.hid (HTB.out.later hb5)
  clear hg hb5 HUI HUX HEQ HII HIS HNUM HXN HNA
  go_upto_region 8 with (fail)
  go_cut [9] from 80 to 88 (fun v wx => (∃ q : Bool, v = .bool q ∧ (q = true → kd ≠ 1 ∨ isNm nm = true)) ∧ wx = w_5)
  case first =>
    obtain ⟨t0, t1, t2, t3⟩ := HTB.out.cells
    by_cases hk : kd = 1
    · subst hk
      go_wp2_with fail
      refine (nm_grw nm HNM.out _).mono ?_
      rintro e w6 ⟨rfl, rfl⟩
      go_wp2_with fail
      go_meet
      exact ⟨⟨_, rfl, fun h => Or.inr h⟩, rfl⟩
    · have q1 : (kd != 1) = true := by rw [bne, beq_eq_false_iff_ne.2 hk]; rfl
      have HK := Lib.hid hk; clear hk
      go_wp2_with fail
      go_meet
      exact ⟨⟨_, rfl, fun _ => Or.inl HK.out⟩, rfl⟩
  obtain ⟨⟨q9, rfl, hq9⟩, hwx⟩ := hcut
  have hwx' := hwx.symm; subst hwx'; clear hwx
  have HQ9 := Lib.hid hq9; clear hq9
  go_upto_region 9 with (fail)
  go_cut [97] from 88 to 97 (fun c wx => c = .bool false ∧ Below w_5.heap.size w_5 wx)
  case first =>
    obtain ⟨⟨c0, c1⟩, -, -⟩ := HX.out.cells
    obtain ⟨⟨x0, x1⟩, -, -⟩ := HXX.out.cells
    go_wp2_with fail
    refine (isB_spec (.slice na nn nc) (.slice oa on oc) b _ HBI.out HNO.out).mono ?_
    rintro e w6 ⟨rfl, hg6⟩
    rw [HIB.out]
    cases ib with
    | true =>
      cases q9 with
      | true =>
        obtain ⟨⟨m0, m1⟩, -, -⟩ := (HXX.out.later hg6.below).cells
        go_wp2_with fail
        refine (isB_impl (.slice xa xn xc) (.slice ya yn yc) r1 _ (HXI.out.up hg6.below) HNR.out).mono ?_
        rintro e w7 ⟨rfl, hg7⟩
        rw [HTOT.out HIB.out (HQ9.out (by first | rfl | trivial))]
        go_wp2_with fail
        go_meet
        exact ⟨rfl, (hg6.trans hg7).below⟩
      | false =>
        go_wp2_with fail
        go_meet
        exact ⟨rfl, hg6.below⟩
    | false =>
      go_wp2_with fail
      go_meet
      exact ⟨rfl, hg6.below⟩
  obtain ⟨rfl, hb5⟩ := hcut
  rename World => w_6
  replace HB := Lib.hid (HB.out.trans (hb5.mono HB.out.size))
  clear hb5 HBI HXI HX HXX HTB HNO HNM HAT4 HFT HBN HNN HTOT HNR HIB HQ9
  go_wp2_with fail
  refine (drawAdds_any HAN.out HTK.out _ len_c _ (codeOk_later HCO.out HB.out)).mono ?_
  rintro e w7 ⟨ca, cn, cc, da, dn, dc, cs, ds, la, ln, lc, tvs, rfl, hfit, hm, hrt, htk, hln, hln2, hb7⟩
  have hnl : cn = cs.length := by obtain ⟨a, c', e⟩ := mineN_form hm.n; cases e; rfl
  obtain ⟨cb, hbd⟩ : ∃ b, Bd.mk (cs.map Prod.fst) ds = b := ⟨_, rfl⟩
  have HCN := Lib.hid (show cn = cb.nodes.length by rw [← hbd, hnl]; show _ = (cs.map Prod.fst).length; rw [List.length_map])
  have HCL := Lib.hid (show cn ≤ 41 by have h := hfit.nodes; rw [show (Bd.mk (cs.map Prod.fst) ds).nodes = cs.map Prod.fst from rfl, List.length_map] at h; omega)
  have HFT := Lib.hid (hbd ▸ hfit.fits)
  have HTKW := Lib.hid htk; have HLN := Lib.hid hln; have HLN2 := Lib.hid hln2
  have hbi : BdIn w7.heap.size w7 (.slice ca cn cc) (.slice da dn dc) cb := by rw [← hbd]; exact hm.reads rfl
  have hbx : Below w7.heap.size w7 (w7.alloc (.cells #[.slice ca cn cc, .slice da dn dc] 27)) := (Below.refl _ w7).alloc (Nat.le_refl _) _
  replace HB := Lib.hid ((HB.out.trans (hb7.mono HB.out.size)).trans (hbx.mono (Nat.le_trans HB.out.size hb7.size)))
  have HCI := Lib.hid (hbi.up hbx)
  have HTV := Lib.hid (hrt.up hbx)
  have HC12 := Lib.hid (Box2.new w7 (.slice ca cn cc) (.slice da dn dc))
  clear hfit hm hrt htk hln hln2 hb7 hnl hbd hbi hbx
  obtain ⟨A7, hA⟩ : ∃ c, w7.heap.size = c := ⟨_, rfl⟩
  go_wp2_with fail
  obtain ⟨W7, hW7⟩ : ∃ W, w7.alloc (.cells #[.slice ca cn cc, .slice da dn dc] 27) = W := ⟨_, rfl⟩
  try simp only [hA]
  rw [hA] at HC12
  rw [hW7] at HC12 HB HCI HTV
  try rw [hW7]
  clear hA hW7
  refine (addsI_any (b := cb) (ts := tvs.map Prod.fst) HCI.out ⟨tvs, rfl, HTV.out⟩ (by have := HFT.out.1; have := HTKW.out; omega) (by have := HFT.out.2; omega)).mono ?_
  rintro e w8 ⟨za, zn, zc, ya', yn', yc', zs', rfl, hzs, hzm⟩
  have hb8 := hzm.n.row.below
  have hbx : Below w8.heap.size w8 (w8.alloc (.cells #[.slice za zn zc, .slice ya' yn' yc'] 27)) := (Below.refl _ w8).alloc (Nat.le_refl _) _
  have HZN := Lib.hid (show zn ≤ cn + ln by have h := adds_len hzm hzs; rw [List.length_map] at h; have := HLN.out; have := HCN.out; omega)
  have HZI := Lib.hid ((hzm.reads (b := addToks cb (tvs.map Prod.fst)) hzs).up hbx)
  have HZ12 := Lib.hid (Box2.new w8 (.slice za zn zc) (.slice ya' yn' yc'))
  replace HB := Lib.hid ((HB.out.trans (hb8.mono HB.out.size)).trans (hbx.mono (Nat.le_trans HB.out.size hb8.size)))
  replace HCI := Lib.hid ((HCI.out.up hb8).up hbx)
  replace HTV := Lib.hid ((HTV.out.up hb8).up hbx)
  replace HC12 := Lib.hid ((HC12.out.later hb8).later hbx)
  clear hzs hzm hb8 hbx
  obtain ⟨Z, hZ⟩ : ∃ c, w8.heap.size = c := ⟨_, rfl⟩
  obtain ⟨W8, hW8⟩ : ∃ W, w8.alloc (.cells #[.slice za zn zc, .slice ya' yn' yc'] 27) = W := ⟨_, rfl⟩
  rw [hZ] at HZ12
  rw [hW8] at HZ12 HC12 HB HCI HTV HZI
  have HW8 := Lib.hid hW8; have HZZ := Lib.hid hZ
  clear hZ hW8
  go_upto_region 13 with (fail)
  try simp only [HZZ.out]
  try rw [HW8.out]
  clear HW8 HZZ
  have HF1 := Lib.hid (show ndW cb.nodes + tkW (tvs.map Prod.fst) ≤ 68719476736 by have := HFT.out.1; have := HTKW.out; omega)
  have HF2 := Lib.hid (show ndW cb.nodes + tkW [] ≤ 68719476736 by have := HFT.out.1; show ndW cb.nodes + 0 ≤ _; omega)
  have HFO := Lib.hid (show cb.opn.length ≤ 68719476736 by have := HFT.out.2; omega)
  have hcn := HCL.out; have hln := HLN2.out; have hzn := HZN.out
  have hle : decide ((zn : Int) ≤ (cn : Int) + (ln : Int)) = true := decide_eq_true (by omega)
  have hlw : IntKind.i64.wrap ((cn : Int) + (ln : Int)) = (cn : Int) + (ln : Int) := by rw [IntKind.wrap_i64]; omega
  have hle2 : (zn : Int) ≤ (cn : Int) + (ln : Int) := by omega
  obtain ⟨⟨c0, c1⟩, c2, c3⟩ := HC12.out.cells
  obtain ⟨⟨z0, z1⟩, z2, z3⟩ := HZ12.out.cells
  have cl := HC12.out.lt; have zl := HZ12.out.lt
  clear c0 c1 c2 c3 z0 z1 z2 z3 cl zl
  have KEEP := Lib.hid (fun (w' : World) (h : Below W8.heap.size W8 w') => show Below W8.heap.size W8 w' ∧ w'.cell? ⟨A7, 0, none⟩ = some (.slice ca cn cc) ∧ w'.cell? ⟨A7, 1, none⟩ = some (.slice da dn dc) ∧ w'.cell? ⟨Z, 0, none⟩ = some (.slice za zn zc) ∧ w'.cell? ⟨Z, 1, none⟩ = some (.slice ya' yn' yc') from ⟨h, (HC12.out.later h).cells.1.1, (HC12.out.later h).cells.1.2, (HZ12.out.later h).cells.1.1, (HZ12.out.later h).cells.1.2⟩)
  go_region_held3 (fun w' => Below W8.heap.size W8 w' ∧ w'.cell? ⟨A7, 0, none⟩ = some (.slice ca cn cc) ∧ w'.cell? ⟨A7, 1, none⟩ = some (.slice da dn dc) ∧ w'.cell? ⟨Z, 0, none⟩ = some (.slice za zn zc) ∧ w'.cell? ⟨Z, 1, none⟩ = some (.slice ya' yn' yc')) (exact KEEP.out _ (by repeat' (first | (with_reducible exact Below.refl _ _) | (with_reducible exact hBD) | (with_reducible exact hBC) | (with_reducible exact hBB) | (with_reducible exact hBA) | (with_reducible refine bl_dr ?_) | (with_reducible refine bl_al ?_ _)))) (first
    | (go_at_call 15; refine (addsS_any (b := cb) (ts := tvs.map Prod.fst) (HCI.out.up (by repeat' (first | (with_reducible exact Below.refl _ _) | (with_reducible exact hBD) | (with_reducible exact hBC) | (with_reducible exact hBB) | (with_reducible exact hBA) | (with_reducible refine bl_dr ?_) | (with_reducible refine bl_al ?_ _)))) ⟨tvs, rfl, HTV.out.up (by repeat' (first | (with_reducible exact Below.refl _ _) | (with_reducible exact hBD) | (with_reducible exact hBC) | (with_reducible exact hBB) | (with_reducible exact hBA) | (with_reducible refine bl_dr ?_) | (with_reducible refine bl_al ?_ _)))⟩ HF1.out HFO.out).mono ?_; rintro e wA ⟨na1, nn1, nc1, oa1, on1, oc1, ns1, rfl, hns1, hm1⟩; have hrA := hm1.reads (b := addToks cb (tvs.map Prod.fst)) hns1; have hBA : Below W8.heap.size W8 wA := bl_tr (by repeat' (first | (with_reducible exact Below.refl _ _) | (with_reducible exact hBD) | (with_reducible exact hBC) | (with_reducible exact hBB) | (with_reducible exact hBA) | (with_reducible refine bl_dr ?_) | (with_reducible refine bl_al ?_ _))) hm1.n.row.below)
    | (go_at_call 14; refine (addsI_any (b := cb) (ts := []) (HCI.out.up (by repeat' (first | (with_reducible exact Below.refl _ _) | (with_reducible exact hBD) | (with_reducible exact hBC) | (with_reducible exact hBB) | (with_reducible exact hBA) | (with_reducible refine bl_dr ?_) | (with_reducible refine bl_al ?_ _)))) ⟨[], rfl, readT_none _ _ _⟩ HF2.out HFO.out).mono ?_; rintro e wC ⟨na2, nn2, nc2, oa2, on2, oc2, ns2, rfl, hns2, hm2⟩; rw [addToks_none] at hns2 hm2; have hrB := hm2.reads (b := cb) hns2; have hBC : Below W8.heap.size W8 wC := bl_tr (by repeat' (first | (with_reducible exact Below.refl _ _) | (with_reducible exact hBD) | (with_reducible exact hBC) | (with_reducible exact hBB) | (with_reducible exact hBA) | (with_reducible refine bl_dr ?_) | (with_reducible refine bl_al ?_ _))) hm2.n.row.below)
    | (go_at_call 9; refine (eq_yes (hrB.up (by repeat' (first | (with_reducible exact Below.refl _ _) | (with_reducible refine bl_dr ?_) | (with_reducible refine bl_al ?_ _)))) (HCI.out.up (by repeat' (first | (with_reducible exact Below.refl _ _) | (with_reducible exact hBD) | (with_reducible exact hBC) | (with_reducible exact hBB) | (with_reducible exact hBA) | (with_reducible refine bl_dr ?_) | (with_reducible refine bl_al ?_ _))))).mono ?_; rintro e wD ⟨rfl, hgD⟩; have hBD : Below W8.heap.size W8 wD := bl_tr (by repeat' (first | (with_reducible exact Below.refl _ _) | (with_reducible exact hBD) | (with_reducible exact hBC) | (with_reducible exact hBB) | (with_reducible exact hBA) | (with_reducible refine bl_dr ?_) | (with_reducible refine bl_al ?_ _))) hgD.below)
    | (go_at_call 9; refine (eq_yes (HZI.out.up (by repeat' (first | (with_reducible exact Below.refl _ _) | (with_reducible exact hBD) | (with_reducible exact hBC) | (with_reducible exact hBB) | (with_reducible exact hBA) | (with_reducible refine bl_dr ?_) | (with_reducible refine bl_al ?_ _)))) (hrA.up (by repeat' (first | (with_reducible exact Below.refl _ _) | (with_reducible refine bl_dr ?_) | (with_reducible refine bl_al ?_ _))))).mono ?_; rintro e wB ⟨rfl, hgB⟩; have hBB : Below W8.heap.size W8 wB := bl_tr (by repeat' (first | (with_reducible exact Below.refl _ _) | (with_reducible exact hBD) | (with_reducible exact hBC) | (with_reducible exact hBB) | (with_reducible exact hBA) | (with_reducible refine bl_dr ?_) | (with_reducible refine bl_al ?_ _))) hgB.below))
  all_goals (
    have hBZ := hBD
    (go_wp2_with fail)
    go_ret
    exact ⟨rfl, HB.out.trans (hBZ.mono HB.out.size)⟩)
theorem trees_all (HA : AnyS) (HT : ToksS) (a : Option Addr) (len cap : Nat) (zs : List Int) (w : World) (h : IsRow .u8 w a len cap zs) :
    Calls Try.prog 3 #[.slice a len cap] w fun e w' => e = .returned (.bool true) ∧ Below w.heap.size w w' := by
  by_cases hb : (1048576 : Int) < (len : Int)
  · go_enter Try.func3, Try.ntmps3
    go_wp2_with fail
    refine (big_yes a len cap _ hb).mono ?_
    rintro e w1 ⟨rfl, rfl⟩
    go_wp2
    go_ret
    exact ⟨rfl, Below.refl _ _⟩
  · exact walkTreesW HA HT a len cap w (code_of_row h (by omega)) hb
end Go.Proofs.Ytiginllbfjekeaa
