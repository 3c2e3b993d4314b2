/- The walk of the law FnSheets: it returns true, and writes nothing that was there. -/
import Derived.Test.YtgcdfkpidcdicaaGreatDoorJnA
import Derived.Test.YtgcdfkpidcdicaaGreatDoorDrwA
import Derived.Deep.RegionHeld3
import Derived.Deep.CutRange
namespace Go.Proofs.YtgcdfkpidcdicaaGreatDoor
open Go.ChangeShapes Go.WideShapes Go.ChangeAt Go.RowKit

theorem heap_bl7 {X w' : World} {g : Nat} {o : Obj} (k : Below X.heap.size X w') (h : X.heap[g]? = some o) : w'.heap[g]? = some o := below_heap k (heap_lt h) h
theorem hp_al7 {w : World} {g : Nat} {o : Obj} (h : w.heap[g]? = some o) (o' : Obj) : (w.alloc o').heap[g]? = some o := below_heap ((Below.refl _ w).alloc (Nat.le_refl _) o') (heap_lt h) h
theorem ReadsK.up7 {α : Type} {enc : α → List Value} {k : Nat} {w w' : World} {v : Value} {xs : List α} (h : ReadsK enc k w.heap.size w v xs) (hb : Below w.heap.size w w') : ReadsK enc k w'.heap.size w' v xs := (h.below hb (Nat.le_refl _)).mono hb.size

set_option maxRecDepth 100000 in
set_option maxHeartbeats 8000000 in
theorem walkShsW (HA : AnyS) (a_c : Option Addr) (len_c cap_c : Nat) (w : World) (hL : Laid w) (r_c : CodeOk w.heap.size w (.slice a_c len_c cap_c) len_c) (hb_c : ¬ (1048576 : Int) < (len_c : Int)) :
    Calls Tryz.prog 3 #[.slice a_c len_c cap_c] w fun e w' => e = .returned (.bool true) ∧ Below w.heap.size w w' := by
  have HCO := Lib.hid r_c; have HAN := Lib.hid HA; have HL := Lib.hid hL; clear r_c HA hL
  go_enter Tryz.func3, Tryz.ntmps3
  go_wp2_with fail
  refine (big_no a_c len_c cap_c _ (by omega)).mono ?_
  rintro e w1 ⟨rfl, rfl⟩
  go_wp2_with fail
  refine (drawParseSheet_any _ len_c _ HCO.out).mono ?_
  rintro e w2 ⟨s, rfl, hs, hb2⟩
  have hz : s.size ≤ 2000 := hs
  have HZ := Lib.hid hz; have HB2 := Lib.hid hb2; clear hs hz hb2
  go_wp2_with fail
  refine (psheet_impl s (by have := HZ.out; omega) _ (laid_on HL.out HB2.out)).mono ?_
  rintro e w3 ⟨xa, xn, xc, rfl, hxm⟩
  have hbx : Below w3.heap.size w3 (w3.alloc (.cells #[.slice xa xn xc] 27)) := (Below.refl _ w3).alloc (Nat.le_refl _) _
  have HB := Lib.hid ((HB2.out.trans (hxm.below.mono HB2.out.size)).trans (hbx.mono (Nat.le_trans HB2.out.size hxm.below.size)))
  have HXR := Lib.hid ((hxm.own.reads encU_len).up7 hbx)
  have HXN := Lib.hid (show xn ≤ 8 by
    obtain ⟨_, _, e, _⟩ := hxm.own.reads encU_len
    injection e with _ e _
    rw [e]; exact prsS_len s)
  have HA0 := Lib.hid (heap_alloc_new w3 (.cells #[.slice xa xn xc] 27))
  clear hxm hbx
  obtain ⟨A, hA⟩ : ∃ c, w3.heap.size = c := ⟨_, rfl⟩
  obtain ⟨W3, hW3⟩ : ∃ W, w3.alloc (.cells #[.slice xa xn xc] 27) = W := ⟨_, rfl⟩
  rw [hW3, hA] at HA0
  rw [hW3] at HB HXR
  have HW3 := Lib.hid hW3; have HAA := Lib.hid hA
  clear hA hW3
  go_upto_region 5 with (fail)
  try simp only [HAA.out]
  try rw [HW3.out]
  clear HW3 HAA
  have HL3 := Lib.hid (laid_on HL.out HB.out)
  replace HA0 := Lib.hid (show W3.heap[A]? = some (.cells #[.slice xa xn xc] 27 (0, 0)) from HA0.out)
  go_cut [40] from 18 to 40 (fun c wx => c = .bool false ∧ Below W3.heap.size W3 wx)
  case first =>
    have KEEP := Lib.hid (fun (w' : World) (h : Below W3.heap.size W3 w') => show Below W3.heap.size W3 w' ∧ w'.cell? ⟨A, 0, none⟩ = some (.slice xa xn xc) from ⟨h, box_cell (heap_bl7 h HA0.out) (j := 0) rfl⟩)
    have hx8 := HXN.out
    have hd8 : decide ((8 : Int) < (xn : Int)) = false := decide_eq_false (by omega)
    go_region_held3 (fun w' => Below W3.heap.size W3 w' ∧ w'.cell? ⟨A, 0, none⟩ = some (.slice xa xn xc)) (exact KEEP.out _ (by repeat' (first | (with_reducible exact Below.refl _ _) | (with_reducible exact hBQ) | (with_reducible exact hBG) | (with_reducible exact hBF) | (with_reducible exact hBE) | (with_reducible exact hBP) | (with_reducible refine bl_dr ?_) | (with_reducible refine bl_al ?_ _)))) (first
      | (go_at_call 12; refine (psheet_spec s (by have := HZ.out; omega) _).mono ?_; rintro e wP ⟨pa, pn, pc, rfl, hp⟩; have hbP := hp.below; have hBP : Below W3.heap.size W3 wP := bl_tr (by repeat' (first | (with_reducible exact Below.refl _ _) | (with_reducible exact hBQ) | (with_reducible exact hBG) | (with_reducible exact hBF) | (with_reducible exact hBE) | (with_reducible exact hBP) | (with_reducible refine bl_dr ?_) | (with_reducible refine bl_al ?_ _))) hbP; have hpr := hp.own.reads encU_len)
      | (go_at_call 13; refine (fs_val (HXR.out.up7 (by repeat' (first | (with_reducible exact Below.refl _ _) | (with_reducible exact hBQ) | (with_reducible exact hBG) | (with_reducible exact hBF) | (with_reducible exact hBE) | (with_reducible exact hBP) | (with_reducible refine bl_dr ?_) | (with_reducible refine bl_al ?_ _)))) prsS_val (prsS_len s) (laid_on HL3.out (by repeat' (first | (with_reducible exact Below.refl _ _) | (with_reducible exact hBQ) | (with_reducible exact hBG) | (with_reducible exact hBF) | (with_reducible exact hBE) | (with_reducible exact hBP) | (with_reducible refine bl_dr ?_) | (with_reducible refine bl_al ?_ _)))).tab).mono ?_; rintro e wF ⟨rfl, hbF⟩; have hBF : Below W3.heap.size W3 wF := bl_tr (by repeat' (first | (with_reducible exact Below.refl _ _) | (with_reducible exact hBQ) | (with_reducible exact hBG) | (with_reducible exact hBF) | (with_reducible exact hBE) | (with_reducible exact hBP) | (with_reducible refine bl_dr ?_) | (with_reducible refine bl_al ?_ _))) hbF)
      | (go_at_call 10; refine (psheet_impl (fmtSh (prsS s)) (fmt_short prsS_val (prsS_len s)) _ (laid_on HL3.out (by repeat' (first | (with_reducible exact Below.refl _ _) | (with_reducible exact hBQ) | (with_reducible exact hBG) | (with_reducible exact hBF) | (with_reducible exact hBE) | (with_reducible exact hBP) | (with_reducible refine bl_dr ?_) | (with_reducible refine bl_al ?_ _))))).mono ?_; rintro e wG ⟨ga, gn, gc, rfl, hq⟩; have hbG := hq.below; have hBG : Below W3.heap.size W3 wG := bl_tr (by repeat' (first | (with_reducible exact Below.refl _ _) | (with_reducible exact hBQ) | (with_reducible exact hBG) | (with_reducible exact hBF) | (with_reducible exact hBE) | (with_reducible exact hBP) | (with_reducible refine bl_dr ?_) | (with_reducible refine bl_al ?_ _))) hbG; have hqr := hq.own.reads encU_len; rw [prs_back] at hqr)
      | (go_at_call 11; refine (eqH_yes (readH_one (by repeat' (first | (with_reducible refine hp_dr ?_) | ((with_reducible refine hp_nw ?_); (first | (with_reducible rfl) | (simp only [size_alloc]; done))) | (with_reducible refine hp_al7 ?_ _) | (with_reducible refine heap_bl7 hbP ?_) | (with_reducible refine heap_bl7 hbE ?_) | (with_reducible refine heap_bl7 hbF ?_) | (with_reducible refine heap_bl7 hbG ?_))) (hqr.up7 (by repeat' (first | (with_reducible exact Below.refl _ _) | (with_reducible refine bl_dr ?_) | (with_reducible refine bl_al ?_ _))))) (readH_one (by repeat' (first | (with_reducible refine hp_dr ?_) | ((with_reducible refine hp_nw ?_); (first | (with_reducible rfl) | (simp only [size_alloc]; done))) | (with_reducible refine hp_al7 ?_ _) | (with_reducible refine heap_bl7 hbP ?_) | (with_reducible refine heap_bl7 hbE ?_) | (with_reducible refine heap_bl7 hbF ?_) | (with_reducible refine heap_bl7 hbG ?_))) (HXR.out.up7 (by repeat' (first | (with_reducible exact Below.refl _ _) | (with_reducible exact hBQ) | (with_reducible exact hBG) | (with_reducible exact hBF) | (with_reducible exact hBE) | (with_reducible exact hBP) | (with_reducible refine bl_dr ?_) | (with_reducible refine bl_al ?_ _))))) rfl).mono ?_; rintro e wQ ⟨rfl, hgQ⟩; have hbQ := hgQ.below; have hBQ : Below W3.heap.size W3 wQ := bl_tr (by repeat' (first | (with_reducible exact Below.refl _ _) | (with_reducible exact hBQ) | (with_reducible exact hBG) | (with_reducible exact hBF) | (with_reducible exact hBE) | (with_reducible exact hBP) | (with_reducible refine bl_dr ?_) | (with_reducible refine bl_al ?_ _))) hbQ)
      | (go_at_call 11; refine (eqH_yes (readH_one (by repeat' (first | (with_reducible refine hp_dr ?_) | ((with_reducible refine hp_nw ?_); (first | (with_reducible rfl) | (simp only [size_alloc]; done))) | (with_reducible refine hp_al7 ?_ _) | (with_reducible refine heap_bl7 hbP ?_) | (with_reducible refine heap_bl7 hbE ?_) | (with_reducible refine heap_bl7 hbF ?_) | (with_reducible refine heap_bl7 hbG ?_))) (HXR.out.up7 (by repeat' (first | (with_reducible exact Below.refl _ _) | (with_reducible exact hBQ) | (with_reducible exact hBG) | (with_reducible exact hBF) | (with_reducible exact hBE) | (with_reducible exact hBP) | (with_reducible refine bl_dr ?_) | (with_reducible refine bl_al ?_ _))))) (readH_one (by repeat' (first | (with_reducible refine hp_dr ?_) | ((with_reducible refine hp_nw ?_); (first | (with_reducible rfl) | (simp only [size_alloc]; done))) | (with_reducible refine hp_al7 ?_ _) | (with_reducible refine heap_bl7 hbP ?_) | (with_reducible refine heap_bl7 hbE ?_) | (with_reducible refine heap_bl7 hbF ?_) | (with_reducible refine heap_bl7 hbG ?_))) (hpr.up7 (by repeat' (first | (with_reducible exact Below.refl _ _) | (with_reducible refine bl_dr ?_) | (with_reducible refine bl_al ?_ _))))) rfl).mono ?_; rintro e wE ⟨rfl, hgE⟩; have hbE := hgE.below; have hBE : Below W3.heap.size W3 wE := bl_tr (by repeat' (first | (with_reducible exact Below.refl _ _) | (with_reducible exact hBQ) | (with_reducible exact hBG) | (with_reducible exact hBF) | (with_reducible exact hBE) | (with_reducible exact hBP) | (with_reducible refine bl_dr ?_) | (with_reducible refine bl_al ?_ _))) hbE))
    all_goals (
      have hBZ := hBQ
      (go_wp2_with fail)
      go_meet
      exact ⟨rfl, hBZ⟩)
  obtain ⟨rfl, hb4⟩ := hcut
  rename World => w_4
  replace HB := Lib.hid (HB.out.trans (hb4.mono HB.out.size))
  clear hb4 HXR HXN HA0 HL3 HZ HB2
  go_wp2_with fail
  refine (drawColorOf_any _ len_c _ (codeOk_later HCO.out HB.out)).mono ?_
  rintro e w5 ⟨la, ln, lc, ss, nm, rfl, hss, hnm, hm, hb5⟩
  have HLS := Lib.hid (shsIs_ok hss); have HNM := Lib.hid (show nm.size ≤ 100 from hnm.1)
  have HLR := Lib.hid (hm.reads (Nat.le_refl _))
  replace HB := Lib.hid (HB.out.trans (hb5.mono HB.out.size))
  clear hss hnm hm hb5
  go_wp2_with fail
  refine (join_impl _ ss _ HLR.out HLS.out).mono ?_
  rintro e w6 ⟨ja, jn, jc, N, rfl, hJN, hjm⟩
  have hb6 := hjm.below
  have hbx : Below w6.heap.size w6 (w6.alloc (.cells #[.slice ja jn jc] 27)) := (Below.refl _ w6).alloc (Nat.le_refl _) _
  have HJN := Lib.hid hJN
  have HJR := Lib.hid ((hjm.own.reads encU_len).up7 hbx)
  have HJ0 := Lib.hid (heap_alloc_new w6 (.cells #[.slice ja jn jc] 27))
  have HJL := Lib.hid (show jn = (withCol (flatR ss) N).length by
    obtain ⟨_, _, e, _⟩ := hjm.own.reads encU_len
    injection e with _ e _)
  replace HLR := Lib.hid ((HLR.out.up hb6).up hbx)
  replace HB := Lib.hid ((HB.out.trans (hb6.mono HB.out.size)).trans (hbx.mono (Nat.le_trans HB.out.size hb6.size)))
  have HJB9 := Lib.hid (show jn ≤ 1099511627776 by
    have h1 := HJL.out; have h2 := withCol_len (flatR ss) N; have h3 := hJN.len; have h4 := HLS.out.tot
    omega)
  clear hJN hjm hb6 hbx
  obtain ⟨J, hJ⟩ : ∃ c, w6.heap.size = c := ⟨_, rfl⟩
  obtain ⟨W6, hW6⟩ : ∃ W, w6.alloc (.cells #[.slice ja jn jc] 27) = W := ⟨_, rfl⟩
  rw [hW6, hJ] at HJ0
  rw [hW6] at HB HJR HLR
  have HW6 := Lib.hid hW6; have HJJ := Lib.hid hJ
  clear hJ hW6
  go_upto_region 9 with (fail)
  try simp only [HJJ.out]
  try rw [HW6.out]
  clear HW6 HJJ
  replace HJ0 := Lib.hid (show W6.heap[J]? = some (.cells #[.slice ja jn jc] 27 (0, 0)) from HJ0.out)
  have j0 : W6.cell? ⟨J, 0, none⟩ = some (.slice ja jn jc) := box_cell HJ0.out (j := 0) rfl
  go_wp2_with fail
  go_loopw [8] (fun i wr => ∃ k : Nat, 1 ≤ k ∧ i = .int .i64 k ∧ Grw W6 wr) (fun i _ => jn - (intOf i).toNat)
  case atStart => exact ⟨1, Nat.le_refl _, rfl, Grw.refl _⟩
  case round =>
    obtain ⟨k, hk, rfl, hg⟩ := hrel
    have HG := Lib.hid hg
    replace j0 : wr.cell? ⟨J, 0, none⟩ = some (.slice ja jn jc) := box_cell (heap_bl7 hg.below HJ0.out) (j := 0) rfl
    have HJB := Lib.hid (show J < wr.heap.size from heap_lt (heap_bl7 hg.below HJ0.out))
    clear hg
    by_cases hlt : (k : Int) < (jn : Int)
    · have hkj : k < (withCol (flatR ss) N).length := by have := HJL.out; omega
      obtain ⟨⟨n1, c1⟩, hr1⟩ : ∃ r : Ru, (withCol (flatR ss) N)[k - 1]? = some r := ⟨_, List.getElem?_eq_getElem (by omega)⟩
      obtain ⟨⟨n2, c2⟩, hr2⟩ : ∃ r : Ru, (withCol (flatR ss) N)[k]? = some r := ⟨_, List.getElem?_eq_getElem hkj⟩
      have hle := less_yes (withCol_asc HJN.out (j := k - 1) hr1 (by rw [show k - 1 + 1 = k by omega]; exact hr2))
      obtain ⟨g, off, rfl, hgj, d0, _⟩ := HJR.out.rule hr1
      obtain ⟨g', off', e', hgj', d1, _⟩ := HJR.out.rule hr2
      cases e'
      have em : ((k : Int) - 1) = ((k - 1 : Nat) : Int) := by omega
      have hi0 : (0 : Int) ≤ (k : Int) - 1 := by omega
      have hi1 : (k : Int) - 1 < (jn : Int) := by omega
      have hi2 : k - 1 < jn := by omega
      have hk9 : (jn : Int) ≤ 1099511627776 := by have h1 := HJB9.out; omega
      replace d0 := (HG.out.below.cell (show (⟨g, off + (k - 1) * 2, none⟩ : Addr).block < _ from hgj)).trans d0
      replace d1 := (HG.out.below.cell (show (⟨g, off + k * 2, none⟩ : Addr).block < _ from hgj)).trans d1
      clear hr1 hr2 hkj hgj hgj'
      go_wp2
      go_quiet (fail)
      go_wp2
      go_roundw
      case rel => exact ⟨k + 1, by omega, by go_num, HG.out.drewN _⟩
      case measure => simp [intOf]; omega
    · have hlf : decide ((k : Int) < (jn : Int)) = false := decide_eq_false hlt
      have HBG := Lib.hid (HB.out.trans (HG.out.below.mono HB.out.size))
      replace HJR := Lib.hid (HJR.out.up7 HG.out.below)
      replace HLR := Lib.hid (HLR.out.up HG.out.below)
      have HJH := Lib.hid (heap_bl7 HG.out.below HJ0.out)
      clear HJ0 hk
      go_wp2_with fail
      refine (drawColorAt_any HAN.out _ len_c _ (codeOk_later HCO.out HBG.out)).mono ?_
      rintro e w8 ⟨ma, mn, mc, us, na, nn, nc, oa, on, oc, ns, zs, z, rfl, hz1, hz2, hus, hmm, hfit, hbd, hb8⟩
      obtain ⟨W8, hW8⟩ : ∃ W, w8.alloc (.cells #[.slice na nn nc, .slice oa on oc] 40) = W := ⟨_, rfl⟩
      have hbx : Below w8.heap.size w8 W8 := by rw [← hW8]; exact (Below.refl _ w8).alloc (Nat.le_refl _) _
      have hbw : Below wr.heap.size wr W8 := hb8.trans (hbx.mono hb8.size)
      have HB8 := Lib.hid (HBG.out.trans (hbw.mono HBG.out.size))
      have HUS := Lib.hid (shsIs_ok hus)
      have HMR := Lib.hid ((hmm.reads (Nat.le_refl _)).up hbx)
      obtain ⟨ND, hND⟩ : ∃ N, ns.map Prod.fst = N := ⟨_, rfl⟩
      have HBI := Lib.hid (show BdIn W8.heap.size W8 (.slice na nn nc) (.slice oa on oc) ⟨ND, zs⟩ from (BdM.reads (b := ⟨ND, zs⟩) hbd hND).up hbx)
      rw [hND] at hfit
      have HNA := Lib.hid (show ∀ x ∈ (⟨ND, zs⟩ : Bd).nodes, x.name.size ≤ 9223372036854775807 from fun x hx => Nat.le_trans (hfit.nam x hx) (by decide))
      replace HJR := Lib.hid (HJR.out.up7 hbw); replace HLR := Lib.hid (HLR.out.up hbw)
      have HJ8 := Lib.hid (heap_bl7 hbw HJH.out)
      have HK8 := Lib.hid (show W8.heap[w8.heap.size]? = some (.cells #[.slice na nn nc, .slice oa on oc] 40 (0, 0)) by rw [← hW8]; exact heap_alloc_new w8 _)
      obtain ⟨KB, hKB⟩ : ∃ c, w8.heap.size = c := ⟨_, rfl⟩
      rw [hKB] at HK8
      obtain ⟨C1, hC1⟩ : ∃ c, colOf (flatR ss) nm = c := ⟨_, rfl⟩
      obtain ⟨C2, hC2⟩ : ∃ c, colAt (flatR us) ND 40 z = c := ⟨_, rfl⟩
      have HC1 := Lib.hid (fun (X : World) (hb : Below W8.heap.size W8 X) => show Calls Tryz.prog 17 #[.slice la ln lc, .string nm] X fun e w' => e = .returned (.int .i64 C1) ∧ Below X.heap.size X w' from by
        rw [← hC1]; exact colorOf_impl _ ss nm (by have := HNM.out; omega) X (HLR.out.up hb) (Nat.le_trans HLS.out.len (by decide)) HLS.out.each HLS.out.ok (Nat.le_trans HLS.out.tot (by decide)))
      have HC2 := Lib.hid (fun (X : World) (g : Nat) (hb : Below W8.heap.size W8 X) (hg : X.heap[g]? = some (.cells #[.slice ja jn jc] 27 (0, 0))) => show Calls Tryz.prog 17 #[.slice (some ⟨g, 0, none⟩) 1 1, .string nm] X fun e w' => e = .returned (.int .i64 C1) ∧ Below X.heap.size X w' from by
        have hj := joined_ok HJN.out HLS.out (ja, jn, jc)
        have h := colorOf_impl _ [((withCol (flatR ss) N, (ja, jn, jc)) : Shv)] nm (by have := HNM.out; omega) X (readH_one hg (HJR.out.up7 hb)) (Nat.le_trans hj.len (by decide)) hj.each hj.ok (Nat.le_trans hj.tot (by decide))
        rw [flatR_one, colOf_with HJN.out, hC1] at h
        exact h)
      have HC3 := Lib.hid (fun (X : World) (hb : Below W8.heap.size W8 X) => show Calls Tryz.prog 18 #[.slice ma mn mc, .agg #[.slice na nn nc, .slice oa on oc], .int .i64 z] X fun e w' => e = .returned (.int .i64 C2) ∧ Below X.heap.size X w' from by
        rw [← hC2]; exact colorAt_impl _ _ _ us ⟨ND, zs⟩ z X (HMR.out.up hb) HUS.out (HBI.out.up hb) HNA.out)
      have HC4 := Lib.hid (fun (X : World) (hb : Below W8.heap.size W8 X) => show Calls Tryz.prog 19 #[.slice ma mn mc, .agg #[.slice na nn nc, .slice oa on oc], .int .i64 z] X fun e w' => e = .returned (.int .i64 C2) ∧ Below X.heap.size X w' from by
        rw [← hC2]; exact colorAt_spec _ _ _ us ⟨ND, zs⟩ z X (HMR.out.up hb) HUS.out (HBI.out.up hb))
      have HC5 := Lib.hid (fun (X : World) (hb : Below W8.heap.size W8 X) => show Calls Tryz.prog 15 #[.slice ma mn mc] X fun e w' => ∃ (ka : Option Addr) (kn kc : Nat) (M : List ByteArray), e = .returned (.agg #[.slice ka kn kc]) ∧ JN (flatR us) M ∧ ReadsK encU 2 w'.heap.size w' (.slice ka kn kc) (withCol (flatR us) M) ∧ Below X.heap.size X w' from
        (join_impl _ us X (HMR.out.up hb) HUS.out).mono fun e w' ⟨ka, kn, kc, M, he, hJ, hm⟩ => ⟨ka, kn, kc, M, he, hJ, hm.own.reads encU_len, hm.below⟩)
      have HC6 := Lib.hid (fun (X : World) (g : Nat) (ka : Option Addr) (kn kc : Nat) (M : List ByteArray) (hJ : JN (flatR us) M) (hb : Below W8.heap.size W8 X) (hr : ReadsK encU 2 X.heap.size X (.slice ka kn kc) (withCol (flatR us) M)) (hg : X.heap[g]? = some (.cells #[.slice ka kn kc] 27 (0, 0))) => show Calls Tryz.prog 18 #[.slice (some ⟨g, 0, none⟩) 1 1, .agg #[.slice na nn nc, .slice oa on oc], .int .i64 z] X fun e w' => e = .returned (.int .i64 C2) ∧ Below X.heap.size X w' from by
        have h := colorAt_impl _ _ _ [((withCol (flatR us) M, (ka, kn, kc)) : Shv)] ⟨ND, zs⟩ z X (readH_one hg hr) (joined_ok hJ HUS.out _) (HBI.out.up hb) HNA.out
        rw [flatR_one, colAt_congr (fun nm => colOf_with hJ nm), hC2] at h
        exact h)
      have KEEP := Lib.hid (fun (w' : World) (h : Below W8.heap.size W8 w') => show Below W8.heap.size W8 w' ∧ w'.cell? ⟨J, 0, none⟩ = some (.slice ja jn jc) ∧ w'.cell? ⟨KB, 0, none⟩ = some (.slice na nn nc) ∧ w'.cell? ⟨KB, 1, none⟩ = some (.slice oa on oc) from ⟨h, box_cell (heap_bl7 h HJ8.out) (j := 0) rfl, box_cell (heap_bl7 h HK8.out) (j := 0) rfl, box_cell (heap_bl7 h HK8.out) (j := 1) rfl⟩)
      have hq1 : (C1 == C1) = true := beq_self_eq_true _
      have hq2 : (C2 == C2) = true := beq_self_eq_true _
      have HW8 := Lib.hid hW8; have HKB := Lib.hid hKB
      clear hC1 hC2 hND hfit hbd hmm hus hb8 hbx hbw hW8 hKB hz1 hz2 HLR HMR HBI HNA HJR HJH HG HBG HLS HUS HJN HNM j0
      go_upto_region 15 with (fail)
      try simp only [HKB.out]
      try rw [HW8.out]
      clear HW8 HKB
      go_cut [2] from 75 to 106 (fun c wx => c = .bool true ∧ Below W8.heap.size W8 wx)
      case first =>
        go_region_held3 (fun w' => Below W8.heap.size W8 w' ∧ w'.cell? ⟨J, 0, none⟩ = some (.slice ja jn jc) ∧ w'.cell? ⟨KB, 0, none⟩ = some (.slice na nn nc) ∧ w'.cell? ⟨KB, 1, none⟩ = some (.slice oa on oc)) (exact KEEP.out _ (by repeat' (first | (with_reducible exact Below.refl _ _) | (with_reducible exact hPG) | (with_reducible exact hPJ) | (with_reducible exact hPE) | (with_reducible exact hPD) | (with_reducible exact hPB) | (with_reducible exact hPA) | (with_reducible refine bl_dw ?_) | (with_reducible refine bl_aw ?_ _)))) (first
          | (go_at_call 17; with_reducible refine (HC1.out _ (by repeat' (first | (with_reducible exact Below.refl _ _) | (with_reducible exact hPG) | (with_reducible exact hPJ) | (with_reducible exact hPE) | (with_reducible exact hPD) | (with_reducible exact hPB) | (with_reducible exact hPA) | (with_reducible refine bl_dw ?_) | (with_reducible refine bl_aw ?_ _)))).mono ?_; rintro e wA ⟨rfl, hbA⟩; have hPA := bl_tr (show Below W8.heap.size W8 _ from (by repeat' (first | (with_reducible exact Below.refl _ _) | (with_reducible exact hPG) | (with_reducible exact hPJ) | (with_reducible exact hPE) | (with_reducible exact hPD) | (with_reducible exact hPB) | (with_reducible exact hPA) | (with_reducible refine bl_dw ?_) | (with_reducible refine bl_aw ?_ _)))) hbA)
          | (go_at_call 17; refine (HC2.out _ _ (by repeat' (first | (with_reducible exact Below.refl _ _) | (with_reducible exact hPG) | (with_reducible exact hPJ) | (with_reducible exact hPE) | (with_reducible exact hPD) | (with_reducible exact hPB) | (with_reducible exact hPA) | (with_reducible refine bl_dw ?_) | (with_reducible refine bl_aw ?_ _))) (by repeat' (first | (with_reducible refine hp_dr ?_) | ((with_reducible refine hp_nw ?_); (first | (with_reducible rfl) | (simp only [size_alloc]; done))) | (with_reducible refine hp_al7 ?_ _) | (with_reducible refine heap_bl7 hbA ?_) | (with_reducible refine heap_bl7 hbB ?_) | (with_reducible refine heap_bl7 hbC ?_) | (with_reducible refine heap_bl7 hbD ?_) | (with_reducible refine heap_bl7 hbJ ?_)))).mono ?_; rintro e wB ⟨rfl, hbB⟩; have hPB := bl_tr (show Below W8.heap.size W8 _ from (by repeat' (first | (with_reducible exact Below.refl _ _) | (with_reducible exact hPG) | (with_reducible exact hPJ) | (with_reducible exact hPE) | (with_reducible exact hPD) | (with_reducible exact hPB) | (with_reducible exact hPA) | (with_reducible refine bl_dw ?_) | (with_reducible refine bl_aw ?_ _)))) hbB)
          | (go_at_call 19; with_reducible refine (HC4.out _ (by repeat' (first | (with_reducible exact Below.refl _ _) | (with_reducible exact hPG) | (with_reducible exact hPJ) | (with_reducible exact hPE) | (with_reducible exact hPD) | (with_reducible exact hPB) | (with_reducible exact hPA) | (with_reducible refine bl_dw ?_) | (with_reducible refine bl_aw ?_ _)))).mono ?_; rintro e wD ⟨rfl, hbD⟩; have hPD := bl_tr (show Below W8.heap.size W8 _ from (by repeat' (first | (with_reducible exact Below.refl _ _) | (with_reducible exact hPG) | (with_reducible exact hPJ) | (with_reducible exact hPE) | (with_reducible exact hPD) | (with_reducible exact hPB) | (with_reducible exact hPA) | (with_reducible refine bl_dw ?_) | (with_reducible refine bl_aw ?_ _)))) hbD)
          | (go_at_call 15; with_reducible refine (HC5.out _ (by repeat' (first | (with_reducible exact Below.refl _ _) | (with_reducible exact hPG) | (with_reducible exact hPJ) | (with_reducible exact hPE) | (with_reducible exact hPD) | (with_reducible exact hPB) | (with_reducible exact hPA) | (with_reducible refine bl_dw ?_) | (with_reducible refine bl_aw ?_ _)))).mono ?_; rintro e wJ ⟨ka, kn, kc, M, rfl, hJM, hrM, hbJ⟩; have hPJ := bl_tr (show Below W8.heap.size W8 _ from (by repeat' (first | (with_reducible exact Below.refl _ _) | (with_reducible exact hPG) | (with_reducible exact hPJ) | (with_reducible exact hPE) | (with_reducible exact hPD) | (with_reducible exact hPB) | (with_reducible exact hPA) | (with_reducible refine bl_dw ?_) | (with_reducible refine bl_aw ?_ _)))) hbJ)
          | (go_at_call 18; with_reducible refine (HC3.out _ (by repeat' (first | (with_reducible exact Below.refl _ _) | (with_reducible exact hPG) | (with_reducible exact hPJ) | (with_reducible exact hPE) | (with_reducible exact hPD) | (with_reducible exact hPB) | (with_reducible exact hPA) | (with_reducible refine bl_dw ?_) | (with_reducible refine bl_aw ?_ _)))).mono ?_; rintro e wC ⟨rfl, hbC⟩; (first | (have hPE := bl_tr (show Below W8.heap.size W8 _ from (by repeat' (first | (with_reducible exact Below.refl _ _) | (with_reducible exact hPG) | (with_reducible exact hPJ) | (with_reducible exact hPE) | (with_reducible exact hPD) | (with_reducible exact hPB) | (with_reducible exact hPA) | (with_reducible refine bl_dw ?_) | (with_reducible refine bl_aw ?_ _)))) hbC)))
          | (go_at_call 18; refine (HC6.out _ _ ka kn kc M hJM (by repeat' (first | (with_reducible exact Below.refl _ _) | (with_reducible exact hPG) | (with_reducible exact hPJ) | (with_reducible exact hPE) | (with_reducible exact hPD) | (with_reducible exact hPB) | (with_reducible exact hPA) | (with_reducible refine bl_dw ?_) | (with_reducible refine bl_aw ?_ _))) (hrM.up7 (by repeat' (first | (with_reducible exact Below.refl _ _) | (with_reducible exact hbC) | (with_reducible refine bl_dw ?_) | (with_reducible refine bl_aw ?_ _)))) (by repeat' (first | (with_reducible refine hp_dr ?_) | ((with_reducible refine hp_nw ?_); (first | (with_reducible rfl) | (simp only [size_alloc]; done))) | (with_reducible refine hp_al7 ?_ _) | (with_reducible refine heap_bl7 hbA ?_) | (with_reducible refine heap_bl7 hbB ?_) | (with_reducible refine heap_bl7 hbC ?_) | (with_reducible refine heap_bl7 hbD ?_) | (with_reducible refine heap_bl7 hbJ ?_)))).mono ?_; rintro e wG ⟨rfl, hbG⟩; have hPG := bl_tr (show Below W8.heap.size W8 _ from (by repeat' (first | (with_reducible exact Below.refl _ _) | (with_reducible exact hPG) | (with_reducible exact hPJ) | (with_reducible exact hPE) | (with_reducible exact hPD) | (with_reducible exact hPB) | (with_reducible exact hPA) | (with_reducible refine bl_dw ?_) | (with_reducible refine bl_aw ?_ _)))) hbG))
        all_goals
          go_wp2_with fail
          go_meet
          exact ⟨rfl, (by repeat' (first | (with_reducible exact Below.refl _ _) | (with_reducible exact hPG) | (with_reducible exact hPJ) | (with_reducible exact hPE) | (with_reducible exact hPD) | (with_reducible exact hPB) | (with_reducible exact hPA) | (with_reducible refine bl_dw ?_) | (with_reducible refine bl_aw ?_ _)))⟩
      obtain ⟨rfl, hB9⟩ := hcut
      rename World => w_9
      have HB9 := Lib.hid (HB8.out.trans (hB9.mono HB8.out.size))
      clear hB9
      go_wp2_with fail
      go_ret
      exact ⟨rfl, HB9.out⟩
end Go.Proofs.YtgcdfkpidcdicaaGreatDoor
