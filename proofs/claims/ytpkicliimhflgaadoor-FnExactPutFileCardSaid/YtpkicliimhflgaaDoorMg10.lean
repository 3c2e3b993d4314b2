/- Helper contract: IsServer of the model. Asked: the server lies in memory as named, its strings are no longer than 2^20. Helper contract: PutFile of the model. Asked: the servers lie in memory as named, few and short; the strings put are no longer than 2^20. Helper contracts: IsAddr, FormatAddr of the program and of the model answer alike. Asked: the strings are shorter than 2^62 bytes. Helper contracts: CompareAddrs of the program and of the model answer alike, and what its order is. No conditions beyond the types. Helper contracts: strings.Cut at the separator "/": the first slash parts the string. Asked: the string is shorter than 2^62 bytes. Helper contracts: ParseAddr of the program and of the model answer alike. Asked: the strings are shorter than 2^62 bytes. Helper contracts over the functions with which the laws copy, measure and compare one address. No conditions beyond the types. What an address that came in is: two strings (out of RowA, to stand beside Es). Helper facts, no claim of its own. What a response that came in is. Helper fact, no claim of its own. PutFile of model and program over copies that a law makes of its servers. Helper facts, no claim of its own. -/
import Derived.Test.YtpkicliimhflgaaDoorMg8
import Derived.Test.YtpkicliimhflgaaDoorMg9
import Derived.Shelf.SlSortCmp.QuietGrown
import Derived.Deep.CutRange
import Derived.Test.YtpkicliimhflgaaDoorMg3
import Derived.Below
import Derived.Test.YtpkicliimhflgaaDoorMg1
import Derived.Lib.Bytealg
import Derived.Lib.Walk
import Derived.Laws.StructEq
import Derived.Sort.Grow
import Derived.Sort.Statements
import Derived.Lib.Slices
import Derived.Lib.SmallJoins
import Derived.Deep.Slices
import Derived.ShutString
import Derived.ChangeOld
import Derived.Carry
import Derived.Test.YtpkicliimhflgaaDoorMg5
namespace Go.Proofs.YtpkicliimhflgaaDoor

open Go.ChangeShapes Go.WideShapes Go.ChangeAt Go.RowKit

set_option maxRecDepth 100000 in
set_option maxHeartbeats 4000000 in
theorem isSv_spec (ho : ByteArray) (a : Option Addr) (n c : Nat) (fs : List Fl) (w : World) (hv : ReadsK encF 7 w.heap.size w (.slice a n c) fs) (hh : ho.size ≤ 1048576) (hf : ∀ f ∈ fs, FlFew f) (hz : fs.length ≤ 1099511627776) :
    Calls Tryd.prog 7 #[.agg #[.string ho, .slice a n c]] w fun e w' => e = .returned (.bool (isSv ho fs)) ∧ Below w.heap.size w w' := by
  have HF := Lib.hid hf; clear hf
  obtain ⟨W0, hW0⟩ : ∃ W, w.alloc (.cells #[.string ho, .slice a n c] 29) = W := ⟨_, rfl⟩
  have hb0 : Below w.heap.size w W0 := by rw [← hW0]; exact (Below.refl _ _).alloc (Nat.le_refl _) _
  have q0 : W0.cell? ⟨w.heap.size, 0, none⟩ = some (.string ho) := by rw [← hW0]; simp
  have q1 : W0.cell? ⟨w.heap.size, 1, none⟩ = some (.slice a n c) := by rw [← hW0]; simp
  have HQ0 := Lib.hid q0; have HQ1 := Lib.hid q1; have HLT := Lib.hid (World.block_lt_of_cell? _ _ q1); clear q0 q1
  have HB0 := Lib.hid hb0; have HW0 := Lib.hid hW0; clear hW0 hb0
  have HNH := Lib.hid (fun X => nm_spec ho (by omega) X)
  have hn : n = fs.length := by obtain ⟨_, _, e, _⟩ := hv; injection e
  obtain ⟨hc1, hc2⟩ : n ≤ c ∧ c ≤ 9223372036854775807 := by obtain ⟨_, _, e, h1, h2, _⟩ := hv; injection e with e1 e2 e3; subst e3; exact ⟨by omega, h2⟩
  have hz2 : n ≤ 1099511627776 := by omega
  have HN := Lib.hid hn.symm; have HV := Lib.hid hv; clear hv hn hz hh
  have HR := Lib.hid (show isSv ho fs = (isNm ho && (decide (n ≤ 10) && flsOk fs)) by unfold isSv; rw [HN.out])
  go_enter Tryd.func7, Tryd.ntmps7
  go_wp2_with fail
  rw [HW0.out]
  go_loopw [3] (fun i wr => ∃ (k : Nat), k ≤ n ∧ i = .int .i64 k ∧ (∀ i f, i < k → fs[i]? = some f → flGood fs f i = true) ∧ Below W0.heap.size W0 wr)
    (fun i _ => n - (intOf i).toNat)
  case atStart => exact ⟨0, Nat.zero_le _, rfl, fun i f h => absurd h (Nat.not_lt_zero _), Below.refl _ _⟩
  case round =>
    obtain ⟨k, hk, rfl, hp, hs⟩ := hrel
    have HBW := Lib.hid hs; have HP := Lib.hid hp; have HB := Lib.hid (HB0.out.trans (hs.mono HB0.out.size))
    clear hs hp
    have d1 : wr.cell? ⟨w.heap.size, 1, none⟩ = some (.slice a n c) := (HBW.out.cell HLT.out).trans HQ1.out
    by_cases hlt : (k : Int) < (n : Int)
    · obtain ⟨p_a, f_s, f_k, f_b, f_a, f_h, f_o, hp⟩ := fl_at (xs := fs) (j := k) (by rw [HN.out]; omega)
      obtain ⟨g, off, rfl, hg, c0, c1, c2, c3, c4, c5, c6⟩ := HV.out.file hp
      have HC0 := Lib.hid (show w.cell? ⟨g, off + k * 7, none⟩ = some (.string p_a) from c0)
      have HC1 := Lib.hid (show w.cell? ⟨g, off + k * 7 + 1, none⟩ = some (.int .i64 f_s) from c1)
      have HC2 := Lib.hid (show w.cell? ⟨g, off + k * 7 + 2, none⟩ = some (.int .i64 f_k) from c2)
      have HC3 := Lib.hid (show w.cell? ⟨g, off + k * 7 + 3, none⟩ = some (.string f_b) from c3)
      have HC4 := Lib.hid (show w.cell? ⟨g, off + k * 7 + 4, none⟩ = some (.int .i64 f_a) from c4)
      have HC5 := Lib.hid (show w.cell? ⟨g, off + k * 7 + 5, none⟩ = some (.bool f_h) from c5)
      have HC6 := Lib.hid (show w.cell? ⟨g, off + k * 7 + 6, none⟩ = some (.string f_o) from c6)
      clear c0 c1 c2 c3 c4 c5 c6
      have c0 : wr.cell? ⟨g, off + k * 7, none⟩ = some (.string p_a) := by rw [HB.out.cell (show g < _ by omega)]; exact HC0.out
      have c1 : wr.cell? ⟨g, off + k * 7 + 1, none⟩ = some (.int .i64 f_s) := by rw [HB.out.cell (show g < _ by omega)]; exact HC1.out
      have c2 : wr.cell? ⟨g, off + k * 7 + 2, none⟩ = some (.int .i64 f_k) := by rw [HB.out.cell (show g < _ by omega)]; exact HC2.out
      have c3 : wr.cell? ⟨g, off + k * 7 + 3, none⟩ = some (.string f_b) := by rw [HB.out.cell (show g < _ by omega)]; exact HC3.out
      have c4 : wr.cell? ⟨g, off + k * 7 + 4, none⟩ = some (.int .i64 f_a) := by rw [HB.out.cell (show g < _ by omega)]; exact HC4.out
      have c5 : wr.cell? ⟨g, off + k * 7 + 5, none⟩ = some (.bool f_h) := by rw [HB.out.cell (show g < _ by omega)]; exact HC5.out
      have c6 : wr.cell? ⟨g, off + k * 7 + 6, none⟩ = some (.string f_o) := by rw [HB.out.cell (show g < _ by omega)]; exact HC6.out
      obtain ⟨z0, z3, z6⟩ := HF.out _ (List.mem_of_getElem? hp)
      replace z0 : p_a.size ≤ 1048576 := z0; replace z6 : f_o.size ≤ 1048576 := z6; clear z3
      have HPF := Lib.hid hp; clear hp
      have HNM := Lib.hid (fun X => nm_spec p_a (by omega) X)
      have HRS := Lib.hid (fun X => isRs_spec f_s f_k f_b f_a f_h f_o z6 X)
      have HGD := Lib.hid (show flGood fs ⟨p_a, ⟨f_s, f_k, f_b, f_a, f_h, f_o⟩⟩ k = (isNm p_a && (isRs f_s f_k f_b f_a f_o && decide (k ≤ fdF fs p_a))) from rfl)
      clear z0 z6
      go_wp2_with fail
      refine (HNM.out _).mono ?_
      rintro e w1 ⟨rfl, rfl⟩
      cases e1 : isNm p_a with
      | false =>
        have HE1 := Lib.hid e1; clear e1
        go_wp2_with fail
        go_ret
        exact ⟨ret_b (by rw [HR.out, flsOk_no HPF.out (by rw [HGD.out]; simp [HE1.out]), Bool.and_false, Bool.and_false]), HB.out⟩
      | true =>
        have HE1 := Lib.hid e1; clear e1
        go_wp2_with fail
        refine (HRS.out _).mono ?_
        rintro e w2 ⟨rfl, hb2⟩
        clear d1 c0 c1 c2 c3 c4 c5 c6
        replace HBW := Lib.hid (HBW.out.trans (hb2.mono HBW.out.size)); replace HB := Lib.hid (HB.out.trans (hb2.mono HB.out.size)); clear hb2
        have d1 : w2.cell? ⟨w.heap.size, 1, none⟩ = some (.slice (some ⟨g, off, none⟩) n c) := (HBW.out.cell HLT.out).trans HQ1.out
        cases e2 : isRs f_s f_k f_b f_a f_o with
        | false =>
          have HE2 := Lib.hid e2; clear e2
          go_wp2_with fail
          go_ret
          exact ⟨ret_b (by rw [HR.out, flsOk_no HPF.out (by rw [HGD.out]; simp [HE1.out, HE2.out]), Bool.and_false, Bool.and_false]), HB.out⟩
        | true =>
          have HE2 := Lib.hid e2; clear e2
          go_wp2_with fail
          go_loopw [4] (fun i wr => ∃ (q : Nat), q ≤ k ∧ i = .int .i64 q ∧ NoneTo (isPath p_a) fs q ∧ Below w2.heap.size w2 wr)
            (fun i _ => k - (intOf i).toNat)
          case atStart => exact ⟨0, Nat.zero_le _, rfl, NoneTo.zero _ _, Below.refl _ _⟩
          case round =>
            obtain ⟨q, hqk, rfl, hp, hs⟩ := hrel
            clear d1
            have HNT := Lib.hid hp; have HBI := Lib.hid hs
            clear hp
            replace HBW := Lib.hid (HBW.out.trans (hs.mono HBW.out.size)); replace HB := Lib.hid (HB.out.trans (hs.mono HB.out.size)); clear hs
            have d1 : wr.cell? ⟨w.heap.size, 1, none⟩ = some (.slice (some ⟨g, off, none⟩) n c) := (HBW.out.cell HLT.out).trans HQ1.out
            have c0 : wr.cell? ⟨g, off + k * 7, none⟩ = some (.string p_a) := by rw [HB.out.cell (show g < _ by omega)]; exact HC0.out
            have c1 : wr.cell? ⟨g, off + k * 7 + 1, none⟩ = some (.int .i64 f_s) := by rw [HB.out.cell (show g < _ by omega)]; exact HC1.out
            have c2 : wr.cell? ⟨g, off + k * 7 + 2, none⟩ = some (.int .i64 f_k) := by rw [HB.out.cell (show g < _ by omega)]; exact HC2.out
            have c3 : wr.cell? ⟨g, off + k * 7 + 3, none⟩ = some (.string f_b) := by rw [HB.out.cell (show g < _ by omega)]; exact HC3.out
            have c4 : wr.cell? ⟨g, off + k * 7 + 4, none⟩ = some (.int .i64 f_a) := by rw [HB.out.cell (show g < _ by omega)]; exact HC4.out
            have c5 : wr.cell? ⟨g, off + k * 7 + 5, none⟩ = some (.bool f_h) := by rw [HB.out.cell (show g < _ by omega)]; exact HC5.out
            have c6 : wr.cell? ⟨g, off + k * 7 + 6, none⟩ = some (.string f_o) := by rw [HB.out.cell (show g < _ by omega)]; exact HC6.out
            by_cases hq2 : (q : Int) < (k : Int)
            · obtain ⟨p_b, g_s, g_k, g_b, g_a, g_h, g_o, hx⟩ := fl_at (xs := fs) (j := q) (by rw [HN.out]; omega)
              obtain ⟨g2, off2, e, hg2, u0, _⟩ := HV.out.file hx
              cases e
              replace u0 : wr.cell? ⟨g, off + q * 7, none⟩ = some (.string p_b) := by rw [HB.out.cell (show g < _ by omega)]; exact u0
              have HXF := Lib.hid hx; clear hx
              by_cases hh : p_b = p_a
              · have y1 : (p_b.toList == p_a.toList) = true := beqL_yes hh
                have HFD := Lib.hid (show fdF fs p_a = q from HNT.out.hit HXF.out (decide_eq_true hh))
                have HE3 := Lib.hid (show decide (k ≤ fdF fs p_a) = false from decide_eq_false (by rw [HFD.out]; omega))
                clear hh
                go_wp2
                go_quiet (fail)
                go_wp2
                go_ret
                exact ⟨ret_b (by rw [HR.out, flsOk_no HPF.out (by rw [HGD.out]; simp [HE1.out, HE2.out, HE3.out]), Bool.and_false, Bool.and_false]), bl_dwN HB.out _⟩
              · have y1 : (p_b.toList == p_a.toList) = false := beqL_no hh
                have HQN := Lib.hid (HNT.out.step HXF.out (decide_eq_false hh))
                clear hh
                go_wp2
                go_quiet (fail)
                go_wp2
                go_roundw
                case rel => exact ⟨q + 1, by omega, by go_num, HQN.out, bl_dwN HBI.out _⟩
                case measure => simp [intOf]; omega
            · have hqn : q = k := by omega
              subst hqn
              have HFD := Lib.hid (show fdF fs p_a = q from HNT.out.hit HPF.out (decide_eq_true rfl))
              have HQ := Lib.hid (show flGood fs ⟨p_a, ⟨f_s, f_k, f_b, f_a, f_h, f_o⟩⟩ q = true by rw [HGD.out, HE1.out, HE2.out]; exact decide_eq_true (by rw [HFD.out]; exact Nat.le_refl _))
              go_wp2
              go_roundw
              case rel =>
                refine ⟨q + 1, by omega, by go_num, fun i f hi hf => ?_, HBW.out⟩
                by_cases e : i = q
                · subst e; rw [HPF.out] at hf; cases hf; exact HQ.out
                · exact HP.out i f (by omega) hf
              case measure => simp [intOf]; omega
    · have hkn : k = n := by omega
      subst hkn
      have HE := Lib.hid (show flsOk fs = true from flsOk_yes fun i f hi hf => HP.out i f (by rw [← HN.out]; exact hi) hf)
      have d0 : wr.cell? ⟨w.heap.size, 0, none⟩ = some (.string ho) := (HBW.out.cell (World.block_lt_of_cell? _ _ HQ0.out)).trans HQ0.out
      go_wp2_with fail
      refine (HNH.out _).mono ?_
      rintro e w1 ⟨rfl, rfl⟩
      cases e1 : isNm ho with
      | false =>
        have HE1 := Lib.hid e1; clear e1
        go_wp2_with fail
        go_ret
        exact ⟨ret_b (by rw [HR.out, HE1.out]; rfl), HB.out⟩
      | true =>
        have HE1 := Lib.hid e1; clear e1
        by_cases hl : (k : Int) ≤ 10
        · have hl3 : decide ((k : Int) ≤ 10) = true := decide_eq_true hl
          have HL := Lib.hid (show decide (k ≤ 10) = true from decide_eq_true (by omega))
          go_wp2_with fail
          go_ret
          exact ⟨ret_b (by rw [HR.out, HE1.out, HE.out, HL.out]; rfl), HB.out⟩
        · have hl3 : decide ((k : Int) ≤ 10) = false := decide_eq_false hl
          have HL := Lib.hid (show decide (k ≤ 10) = false from decide_eq_false (by omega))
          go_wp2_with fail
          go_ret
          exact ⟨ret_b (by rw [HR.out, HE1.out, HE.out, HL.out]; rfl), HB.out⟩

end Go.Proofs.YtpkicliimhflgaaDoor
namespace Go.Proofs.YtpkicliimhflgaaDoor
open Go.ChangeShapes Go.WideShapes Go.ChangeAt Go.RowKit

set_option maxRecDepth 100000 in
set_option maxHeartbeats 16000000 in
theorem put_spec (v : Value) (ss : List Se) (hh pp : ByteArray) (r_s r_k : Int) (r_b : ByteArray) (r_a : Int) (r_h : Bool) (r_o : ByteArray) (w : World) (hv : ReadV w.heap.size w v ss) (ok : SsOk ss) (z1 : hh.size ≤ 1048576) (z2 : pp.size ≤ 1048576) (z3 : r_b.size ≤ 1048576) (z4 : r_o.size ≤ 1048576) :
    Calls Tryd.prog 14 #[v, .agg #[.string hh, .string pp], .agg #[.int .i64 r_s, .int .i64 r_k, .string r_b, .int .i64 r_a, .bool r_h, .string r_o]] w (PfOut (ss.map Prod.fst) hh pp ⟨r_s, r_k, r_b, r_a, r_h, r_o⟩ w) := by
  have mixed : Tryd.prog.follows .mixedOrders = true := by kernel_rfl
  obtain ⟨va, vc, rfl, hc1, hc2⟩ := hv.form
  obtain ⟨vn, hvn⟩ : ∃ n, ss.length = n := ⟨_, rfl⟩
  rw [hvn] at hv hc1 ⊢
  have hln0 : vn ≤ 1048576 := by rw [← hvn]; exact ok.len
  obtain ⟨W0, hW0⟩ : ∃ W, (w.alloc (.cells #[.string hh, .string pp] 45)).alloc (.cells #[.int .i64 r_s, .int .i64 r_k, .string r_b, .int .i64 r_a, .bool r_h, .string r_o] 47) = W := ⟨_, rfl⟩
  have hb0 : Below w.heap.size w W0 := by rw [← hW0]; exact bl_aw (bl_aw (Below.refl _ _) _) _
  have XA0 := Lib.hid (show W0.heap[w.heap.size]? = some (.cells #[.string hh, .string pp] 45 (0, 0)) by rw [← hW0]; exact box2_0 _ _ _)
  have XR0 := Lib.hid (show W0.heap[w.heap.size + 1]? = some (.cells #[.int .i64 r_s, .int .i64 r_k, .string r_b, .int .i64 r_a, .bool r_h, .string r_o] 47 (0, 0)) by rw [← hW0]; exact box2_1 _ _ _)
  have HB0 := Lib.hid hb0; have HW0 := Lib.hid hW0; have HVA := Lib.hid hv; have HV0 := Lib.hid (hv.up hb0); have HSO := Lib.hid ok; have HLO := Lib.hid (ssL ok); have HHZ := Lib.hid z1; have HRW := Lib.hid (show FlFew ⟨pp, ⟨r_s, r_k, r_b, r_a, r_h, r_o⟩⟩ from ⟨z2, z3, z4⟩); have HVN := Lib.hid hvn
  clear hW0 hv hb0 hvn ok
  have y0 := box_cell XA0.out (j := 0) rfl
  go_enter Tryd.func14, Tryd.ntmps14
  go_wp2_with fail
  rw [HW0.out]
  clear y0
  refine (copyV_spec (.slice va vn vc) ss W0 HV0.out (by rw [HVN.out]; omega) (fun p hp => Nat.le_trans (HSO.out.few p hp) (by decide))).mono ?_
  rintro e w1 ⟨a1, n1, c1, ts, rfl, hmap, hmv⟩
  have hb1 := hmv.row.below
  have XA1 := Lib.hid (below_heap hb1 (heap_lt XA0.out) XA0.out); have XR1 := Lib.hid (below_heap hb1 (heap_lt XR0.out) XR0.out)
  have HV1 := Lib.hid (HV0.out.up hb1)
  have hnl : ts.length = n1 := by obtain ⟨_, _, e⟩ := hmv.form; injection e with _ e2 _; exact e2.symm
  have hnv : n1 = vn := by rw [← hnl, ← HVN.out]; have := congrArg List.length hmap; simpa using this
  subst hnv
  have HN0 := Lib.hid hnl; have HMP := Lib.hid hmap; have HMV := Lib.hid hmv
  have HFL0 := Lib.hid (show ∀ p ∈ ts, p.1.2.length ≤ 1099511626 from fun p hp => Nat.le_trans ((HSO.out.of hmap).few p hp) (by decide))
  clear hnl hmap hmv hb1
  have y0 := box_cell XA1.out (j := 0) rfl
  go_wp2_with fail
  clear y0
  refine (findS_spec (.slice va n1 vc) ss hh w1 HV1.out (by rw [HVN.out]; omega)).mono ?_
  rintro e w2 ⟨rfl, hg⟩
  have hb2 := hg.below
  have HM0 := Lib.hid (HMV.out.later hb2); have XA2 := Lib.hid (below_heap hb2 (heap_lt XA1.out) XA1.out); have XR2 := Lib.hid (below_heap hb2 (heap_lt XR1.out) XR1.out)
  clear hg hb2 HMV
  have HLL := Lib.hid (show (ss.map Prod.fst).length = n1 by rw [List.length_map]; exact HVN.out)
  rw [HVN.out]
  rcases findIdx_or (isHost hh) (ss.map Prod.fst) with ⟨he, _⟩ | ⟨s, hlt, hs, _, _⟩
  · have hj : fdS (ss.map Prod.fst) hh = n1 := by unfold fdS; rw [he]; exact HLL.out
    have HJ' := Lib.hid hj
    have HHO' := Lib.hid (show hostS (ss.map Prod.fst) hh = ss.map Prod.fst ++ [(hh, [])] from hostS_new (by rw [hj, HLL.out]))
    rw [hj, ixV_no]; clear hj he
    have y0 := box_cell XA2.out (j := 0) rfl
    have hal : Below w2.heap.size w2 (w2.alloc (.cells #[.string hh, .slice none 0 0] 29)) := bl_aw (Below.refl _ _) _
    have HAL := Lib.hid hal
    have HMb := Lib.hid (HM0.out.later hal)
    have HRG := Lib.hid (show ReadsK encG 2 (w2.heap.size + 1) (w2.alloc (.cells #[.string hh, .slice none 0 0] 29)) (.slice (some ⟨w2.heap.size, 0, none⟩) 1 1) [(((hh, []), svNil) : Se)] from readsG_at (T := 29) (nm := hh) (u := .slice none 0 0) _ (hq_nw rfl) rfl rfl)
    clear hal
    go_wp2_with (at_builtin; refine wpList_appV rfl _ _ rfl W0.heap.size W0 _ ts rfl HMb.out _ _ [(((hh, []), svNil) : Se)] rfl HRG.out ?ci ?nd ?cl ?_)
    case ci => intro p hp; rw [List.mem_singleton] at hp; subst hp; exact own_nilF W0.heap.size _
    case nd => rw [show insV [(((hh, []), svNil) : Se)] = [] from rfl, List.append_nil]; exact HMb.out.nod
    case cl => rw [HN0.out]; simp; omega
    intro v5 w4 hm5 hg5
    obtain ⟨a5, c5, hv5⟩ := hm5.form
    have hl5 : (ts ++ [(((hh, []), svNil) : Se)]).length = n1 + 1 := by rw [List.length_append, HN0.out]; rfl
    obtain ⟨m1, hm1⟩ : ∃ m, n1 + 1 = m := ⟨_, rfl⟩
    rw [hm1] at hl5
    rw [hl5] at hv5; subst hv5
    have hm19 : m1 ≤ 1099511628 := by omega
    have hnm1 : n1 < m1 := by omega
    have HM19 := Lib.hid hm1; clear hm1
    have hk5 := keep_of HMb.out.row.row hg5
    have XA := Lib.hid (hk5 _ _ _ (by decide) (below_heap HAL.out (heap_lt XA2.out) XA2.out)); have XR := Lib.hid (hk5 _ _ _ (by decide) (below_heap HAL.out (heap_lt XR2.out) XR2.out))
    have HM1 := Lib.hid hm5; have HN1 := Lib.hid hl5
    have HFL := Lib.hid (show ∀ p ∈ ts ++ [(((hh, []), svNil) : Se)], p.1.2.length ≤ 1099511627 from fun p hp => by
      rcases List.mem_append.1 hp with h | h
      · exact Nat.le_trans (HFL0.out p h) (by decide)
      · rw [List.mem_singleton] at h; subst h; exact Nat.zero_le _)
    obtain ⟨q, hq⟩ : ∃ q : Se, q = ((hh, []), svNil) := ⟨_, rfl⟩
    obtain ⟨j, hjn⟩ : ∃ j, n1 = j := ⟨_, rfl⟩
    have HQ := Lib.hid (show (ts ++ [(((hh, []), svNil) : Se)])[j]? = some q by rw [hq, List.getElem?_append_right (by rw [HN0.out]; omega), HN0.out, hjn, Nat.sub_self]; rfl)
    have HJ := Lib.hid (show fdS (ss.map Prod.fst) hh = j by rw [← hjn]; exact HJ'.out)
    have HHO := Lib.hid (show hostS (ss.map Prod.fst) hh = (ts ++ [(((hh, []), svNil) : Se)]).map Prod.fst by rw [HHO'.out, List.map_append, HMP.out]; rfl)
    obtain ⟨ts1, hts1⟩ : ∃ t, ts ++ [(((hh, []), svNil) : Se)] = t := ⟨_, rfl⟩
    rw [hts1] at HM1 HN1 HFL HQ HHO
    subst hjn
    clear hm5 hg5 hl5 hk5 y0 hq hts1 HMb HAL HRG
    have hmr := HM1.out.reads (Nat.le_refl _)
    have hjl := (List.getElem?_eq_some_iff.1 HQ.out).1; rw [HN1.out] at hjl
    obtain ⟨⟨p_a, fs⟩, ⟨sa, sn, sc⟩⟩ := q
    have HIN := Lib.hid (show OwnK encF 7 57 W0.heap.size w4.heap.size w4 (.slice sa sn sc) fs from HM1.out.inn _ (List.mem_of_getElem? HQ.out))
    have HFR := Lib.hid (show ReadsK encF 7 w4.heap.size w4 (.slice sa sn sc) fs from hmr.2 _ (List.mem_of_getElem? HQ.out))
    have hfl := HFL.out _ (List.mem_of_getElem? HQ.out); replace hfl : fs.length ≤ 1099511627 := hfl
    have HSN := Lib.hid (show sn = fs.length by obtain ⟨_, _, e, _⟩ := HFR.out; injection e)
    obtain ⟨g1, rfl⟩ : ∃ g, a5 = some ⟨g, 0, none⟩ := by
      rcases HM1.out.row.row.2 with ⟨e, h0⟩ | ⟨g', cap', cur, e, _⟩
      · have h1 := HN1.out; omega
      · injection e with e1; exact ⟨_, e1⟩
    have hcg := HM1.out.row.cellG HN1.out HQ.out
    have hg1 : g1 < w4.heap.size := (HM1.out.row.row.lt g1 rfl).2
    have HCG := Lib.hid hcg
    have c1' : w4.cell? ⟨g1, n1 * 2 + 1, none⟩ = some (.slice sa sn sc) := hcg.1
    have c0' : w4.cell? ⟨g1, n1 * 2, none⟩ = some (.string p_a) := hcg.2.2
    have y1 := box_cell XA.out (j := 1) rfl
    have HA2 := Lib.hid (fun (m : Nat) (os : Array Obj) => show Calls Tryd.prog 33 #[.agg #[.string p_a, .slice sa sn sc], .string pp] (Sort.grow (w4.drewN m) os) fun e w' => e = .returned (.int .i64 (ixV (fdF fs pp) fs.length)) ∧ Grw (Sort.grow (w4.drewN m) os) w' from findF_spec p_a (.slice sa sn sc) fs pp _ ((HFR.out.below (Grw.below ⟨m, os, rfl⟩) (Nat.le_refl _)).mono (Grw.below ⟨m, os, rfl⟩).size) (by omega))
    have gc1 := cell_grown hg1 c1'; have gc0 := cell_grown hg1 c0'
    have gq1 := cell_grown (heap_lt XA.out) y1
    have hnj : ¬ ((n1 : Int) < 0) := by omega
    clear c1' c0' y1 hcg hmr
    go_wp2_with fail
    refine wp_region_quiet_grown mixed (by kernel_rfl) ?_
    repeat (go_big_quiet_step (first | (go_at_call 33; refine Calls.grown_of (HA2.out _ _))))
    refine wpQuiet_nil ?_; intro _ hw'; obtain ⟨⟨nq, osq⟩, hw''⟩ := hw'; subst hw''
    have hg2 : Grw w4 (Sort.grow (w4.drewN nq) osq) := ⟨nq, osq, rfl⟩
    obtain ⟨w5, hw5⟩ : ∃ x, Sort.grow (w4.drewN nq) osq = x := ⟨_, rfl⟩
    rw [hw5] at hg2 ⊢; clear hw5 gc1 gc0 gq1
    have hb5 := hg2.below
    have HM5 := Lib.hid (HM1.out.later hb5)
    have XA5 := Lib.hid (below_heap hb5 (heap_lt XA.out) XA.out); have XR5 := Lib.hid (below_heap hb5 (heap_lt XR.out) XR.out)
    have HIN5 := Lib.hid (show OwnK encF 7 57 W0.heap.size w5.heap.size w5 (.slice sa sn sc) fs from HM5.out.inn _ (List.mem_of_getElem? HQ.out))
    have hcg5 := HM5.out.row.cellG HN1.out HQ.out
    have d1 : w5.cell? ⟨g1, n1 * 2 + 1, none⟩ = some (.slice sa sn sc) := hcg5.1
    have HZ5 := Lib.hid hcg5.2.1
    have hg5 : g1 < w5.heap.size := Nat.lt_of_lt_of_le hg1 hb5.size
    clear hg2 hb5 hcg5 HA2
    have HPS := Lib.hid (show putS (ss.map Prod.fst) hh pp ⟨r_s, r_k, r_b, r_a, r_h, r_o⟩ = (ts1.map Prod.fst).set n1 (p_a, putF fs pp ⟨r_s, r_k, r_b, r_a, r_h, r_o⟩) from putS_at HJ.out HHO.out (fd_mapS _ _ _ HQ.out))
    rcases findIdx_or (isPath pp) fs with ⟨he, _⟩ | ⟨fx, hlt2, hs, hp2, _⟩
    · have hix : ixV (fdF fs pp) fs.length = -1 := by unfold fdF; rw [he, ixV_no]
      rw [hix]
      have HE := Lib.hid (putF_new (r := ⟨r_s, r_k, r_b, r_a, r_h, r_o⟩) he); clear he hix
      have y1 := box_cell XA5.out (j := 1) rfl
      have x0 := box_cell XR5.out (j := 0) rfl
      have x1 := box_cell XR5.out (j := 1) rfl
      have x2 := box_cell XR5.out (j := 2) rfl
      have x3 := box_cell XR5.out (j := 3) rfl
      have x4 := box_cell XR5.out (j := 4) rfl
      have x5 := box_cell XR5.out (j := 5) rfl
      have z1 := HZ5.out
      have ha5 := heap_lt XA5.out; have hr5 := heap_lt XR5.out
      have HK1 := Lib.hid (show fs.length + 1 = sn + 1 by rw [HSN.out])
      have HFN := Lib.hid (show sn + 1 ≤ 68719476736 by rw [HSN.out]; omega)
      go_upto_region 9 with (fail)
      go_cut [8] from 45 to 59 (fun c wx => c = .slice (some ⟨g1, 0, none⟩) m1 c5 ∧ ∃ ts2 : List Se, ts2.map Prod.fst = putS (ss.map Prod.fst) hh pp ⟨r_s, r_k, r_b, r_a, r_h, r_o⟩ ∧ MineV W0.heap.size W0 wx (.slice (some ⟨g1, 0, none⟩) m1 c5) ts2)
      case first =>
        go_region_law ((refine step_appF1 (by rfl) _ _ (by rfl) W0.heap.size (.slice sa sn sc) fs (by rfl) (OwnK.later HIN5.out (by repeat' (first | (with_reducible exact Below.refl _ _) | (with_reducible refine bl_dw ?_) | (with_reducible refine bl_aw ?_ _)))).1 (Nat.le_trans HM5.out.row.size (Below.size (show Below w5.heap.size w5 _ from (by repeat' (first | (with_reducible exact Below.refl _ _) | (with_reducible refine bl_dw ?_) | (with_reducible refine bl_aw ?_ _)))))) ⟨pp, ⟨r_s, r_k, r_b, r_a, r_h, r_o⟩⟩ _ (by rfl) (readsF_at (T := 57) ⟨pp, ⟨r_s, r_k, r_b, r_a, r_h, r_o⟩⟩ (by repeat' (first | (with_reducible refine hq_dr ?_) | ((with_reducible refine hq_nw ?_); (first | (with_reducible rfl) | (simp only [size_alloc]; done))) | (with_reducible refine heap_alV ?_ _)))) (sn + 1) HK1.out HFN.out ?_); intro xa xc wF hoF hgF hfF; have hkF := MineV.rowKept (MineV.later HM5.out (by repeat' (first | (with_reducible exact Below.refl _ _) | (with_reducible refine bl_dw ?_) | (with_reducible refine bl_aw ?_ _)))) HQ.out hgF; have hZ := MineV.innerMoved (MineV.later HM5.out (by repeat' (first | (with_reducible exact Below.refl _ _) | (with_reducible refine bl_dw ?_) | (with_reducible refine bl_aw ?_ _)))) HN1.out HQ.out hgF (xa, sn + 1, xc) (fs ++ [(⟨pp, ⟨r_s, r_k, r_b, r_a, r_h, r_o⟩⟩ : Fl)]) hoF hfF; obtain ⟨dF, zF, -⟩ := hkF.cellG HN1.out HQ.out; replace dF : wF.cell? ⟨g1, n1 * 2 + 1, none⟩ = some (.slice sa sn sc) := dF)
        all_goals
          have HZ := Lib.hid hZ; clear hZ hoF hgF hfF hkF
          go_wp2_with fail
          go_meet
          exact ⟨rfl, _, by rw [HPS.out, HE.out]; exact map_setS, HZ.out⟩
      obtain ⟨rfl, ts2, hms2, hm2⟩ := hcut
      rename World => wX
      have HM2 := Lib.hid hm2; have HMS := Lib.hid hms2; clear hm2 hms2
      obtain ⟨g9, ho, fs9, sb, sm, sk, e9, hjn, hln9, hg9, k0, k1, hrd, hz9, hfw9, hfl9, hpb⟩ := put_at HM2.out HMS.out HJ.out HLO.out HHZ.out HRW.out
      obtain rfl : g1 = g9 := by injection e9 with e; injection e
      have HPB := Lib.hid hpb; have HRD := Lib.hid hrd; have HFW := Lib.hid hfw9; have HBX := Lib.hid (HB0.out.trans (HM2.out.row.below.mono HB0.out.size))
      have hnj9 : ¬ ((n1 : Int) < 0) := by omega
      clear hpb hrd hfw9
      by_cases h4 : (m1 : Int) ≤ 4
      · have h4b : ¬ ((4 : Int) < (m1 : Int)) := by omega
        have h4d : decide ((4 : Int) < (m1 : Int)) = false := decide_eq_false h4b
        have HD4 := Lib.hid (show decide (m1 ≤ 4) = true from decide_eq_true (by omega))
        go_wp2_with fail
        refine (isSv_spec ho sb sm sk fs9 _ HRD.out hz9 HFW.out (by omega)).mono ?_
        rintro e w8 ⟨rfl, hb8⟩
        have HBX2 := Lib.hid (HBX.out.trans (hb8.mono HBX.out.size)); have HM8 := Lib.hid (HM2.out.later hb8)
        cases e8 : isSv ho fs9 with
        | true =>
          have HPT := Lib.hid (show putB (ss.map Prod.fst) hh pp ⟨r_s, r_k, r_b, r_a, r_h, r_o⟩ = true by rw [HPB.out, HD4.out, e8]; rfl)
          clear e8 hb8
          go_wp2_with fail
          refine bodyPost_ret (v := .tuple #[.slice (some ⟨g1, 0, none⟩) m1 c5, .bool true]) (by simp [results, Tryd.results14, go_sem]) rfl ⟨_, _, _, _, by rw [HPT.out], by rw [putV_yes HPT.out]; exact HMS.out, HM8.out.down HBX2.out HB0.out.size⟩
        | false =>
          have HPT := Lib.hid (show putB (ss.map Prod.fst) hh pp ⟨r_s, r_k, r_b, r_a, r_h, r_o⟩ = false by rw [HPB.out, e8]; cases decide (m1 ≤ 4) <;> rfl)
          clear e8 hb8
          go_wp2_with fail
          refine (copyV_spec (.slice va n1 vc) ss _ (HVA.out.up HBX2.out) (by rw [HVN.out]; omega) (fun p hp => Nat.le_trans (HSO.out.few p hp) (by decide))).mono ?_
          rintro e w9 ⟨a3, n3, c3, ts3, rfl, hmap3, hmv3⟩
          have HM3 := Lib.hid (hmv3.down (HBX2.out.trans (hmv3.row.below.mono HBX2.out.size)) HBX2.out.size); clear hmv3
          go_wp2_with fail
          refine bodyPost_ret (v := .tuple #[.slice a3 n3 c3, .bool false]) (by simp [results, Tryd.results14, go_sem]) rfl ⟨_, _, _, ts3, by rw [HPT.out], by rw [putV_no HPT.out]; exact hmap3, HM3.out⟩
      · have h4b : (4 : Int) < (m1 : Int) := by omega
        have h4d : decide ((4 : Int) < (m1 : Int)) = true := decide_eq_true h4b
        have HPT := Lib.hid (show putB (ss.map Prod.fst) hh pp ⟨r_s, r_k, r_b, r_a, r_h, r_o⟩ = false by rw [HPB.out, decide_eq_false (show ¬ (m1 ≤ 4) by omega)]; rfl)
        have HBX2 := HBX
        go_wp2_with fail
        refine (copyV_spec (.slice va n1 vc) ss _ (HVA.out.up HBX2.out) (by rw [HVN.out]; omega) (fun p hp => Nat.le_trans (HSO.out.few p hp) (by decide))).mono ?_
        rintro e w9 ⟨a3, n3, c3, ts3, rfl, hmap3, hmv3⟩
        have HM3 := Lib.hid (hmv3.down (HBX2.out.trans (hmv3.row.below.mono HBX2.out.size)) HBX2.out.size); clear hmv3
        go_wp2_with fail
        refine bodyPost_ret (v := .tuple #[.slice a3 n3 c3, .bool false]) (by simp [results, Tryd.results14, go_sem]) rfl ⟨_, _, _, ts3, by rw [HPT.out], by rw [putV_no HPT.out]; exact hmap3, HM3.out⟩
    · obtain ⟨f, hf⟩ : ∃ f, fs.findIdx (isPath pp) = f := ⟨_, rfl⟩
      rw [hf] at hlt2 hs
      have hix : ixV (fdF fs pp) fs.length = f := by unfold fdF; rw [hf, ixV_hit hlt2]
      rw [hix]
      have HE := Lib.hid (putF_hit (r := ⟨r_s, r_k, r_b, r_a, r_h, r_o⟩) (show fdF fs pp = f from hf) hlt2); clear hf hix
      have hfs : f < sn := by rw [HSN.out]; exact hlt2
      obtain ⟨g2, rfl⟩ : ∃ g, sa = some ⟨g, 0, none⟩ := by
        rcases HIN5.out.1.2 with ⟨e, h0⟩ | ⟨g', cap', cur, e, _⟩
        · omega
        · cases e; exact ⟨_, rfl⟩
      have hg2l : g2 < w5.heap.size := HIN5.out.2 g2 rfl
      have HOK := HIN5.out
      have hfx : fx.pa = pp := of_decide_eq_true hp2
      have v0 : w5.cell? ⟨g2, f * 7 + 1, none⟩ = some (.int .i64 fx.rv.st) := (HOK.cellsF HSN.out.symm hs 1 (by decide)).1; have u0 := (HOK.cellsF HSN.out.symm hs 1 (by decide)).2
      have v1 : w5.cell? ⟨g2, f * 7 + 2, none⟩ = some (.int .i64 fx.rv.kd) := (HOK.cellsF HSN.out.symm hs 2 (by decide)).1; have u1 := (HOK.cellsF HSN.out.symm hs 2 (by decide)).2
      have v2 : w5.cell? ⟨g2, f * 7 + 3, none⟩ = some (.string fx.rv.bo) := (HOK.cellsF HSN.out.symm hs 3 (by decide)).1; have u2 := (HOK.cellsF HSN.out.symm hs 3 (by decide)).2
      have v3 : w5.cell? ⟨g2, f * 7 + 4, none⟩ = some (.int .i64 fx.rv.ag) := (HOK.cellsF HSN.out.symm hs 4 (by decide)).1; have u3 := (HOK.cellsF HSN.out.symm hs 4 (by decide)).2
      have v4 : w5.cell? ⟨g2, f * 7 + 5, none⟩ = some (.bool fx.rv.sh) := (HOK.cellsF HSN.out.symm hs 5 (by decide)).1; have u4 := (HOK.cellsF HSN.out.symm hs 5 (by decide)).2
      have v5 : w5.cell? ⟨g2, f * 7 + 6, none⟩ = some (.string fx.rv.po) := (HOK.cellsF HSN.out.symm hs 6 (by decide)).1; have u5 := (HOK.cellsF HSN.out.symm hs 6 (by decide)).2
      have x0 := box_cell XR5.out (j := 0) rfl
      have x1 := box_cell XR5.out (j := 1) rfl
      have x2 := box_cell XR5.out (j := 2) rfl
      have x3 := box_cell XR5.out (j := 3) rfl
      have x4 := box_cell XR5.out (j := 4) rfl
      have x5 := box_cell XR5.out (j := 5) rfl
      have ha5 := heap_lt XA5.out; have hr5 := heap_lt XR5.out
      have hrow := HOK.1; rw [HSN.out.symm] at hrow
      have hset := set6F_own hrow hs ⟨r_s, r_k, r_b, r_a, r_h, r_o⟩
      rw [hfx] at hset
      have HZ := Lib.hid (HM5.out.innerSame (q := ((p_a, fs), (some ⟨g2, 0, none⟩, sn, sc))) HQ.out hset.2 (fs.set f ⟨pp, ⟨r_s, r_k, r_b, r_a, r_h, r_o⟩⟩) (by rw [List.length_set, HSN.out.symm]; exact hset.1))
      have HS := Lib.hid hs; clear hset hrow HOK hs hp2 hfx
      have hnf : ¬ ((f : Int) < 0) := by omega
      have hnd : decide ((0 : Int) ≤ (f : Int)) = true := decide_eq_true (by omega)
      go_upto_region 8 with (fail)
      go_cut [8] from 36 to 44 (fun c wx => c = .slice (some ⟨g1, 0, none⟩) m1 c5 ∧ ∃ ts2 : List Se, ts2.map Prod.fst = putS (ss.map Prod.fst) hh pp ⟨r_s, r_k, r_b, r_a, r_h, r_o⟩ ∧ MineV W0.heap.size W0 wx (.slice (some ⟨g1, 0, none⟩) m1 c5) ts2)
      case first =>
        go_region
        all_goals
          go_wp2_with fail
          go_meet
          exact ⟨rfl, _, by rw [HPS.out, HE.out]; exact map_setS, put_dr HZ.out⟩
      obtain ⟨rfl, ts2, hms2, hm2⟩ := hcut
      rename World => wX
      have HM2 := Lib.hid hm2; have HMS := Lib.hid hms2; clear hm2 hms2
      obtain ⟨g9, ho, fs9, sb, sm, sk, e9, hjn, hln9, hg9, k0, k1, hrd, hz9, hfw9, hfl9, hpb⟩ := put_at HM2.out HMS.out HJ.out HLO.out HHZ.out HRW.out
      obtain rfl : g1 = g9 := by injection e9 with e; injection e
      have HPB := Lib.hid hpb; have HRD := Lib.hid hrd; have HFW := Lib.hid hfw9; have HBX := Lib.hid (HB0.out.trans (HM2.out.row.below.mono HB0.out.size))
      have hnj9 : ¬ ((n1 : Int) < 0) := by omega
      clear hpb hrd hfw9
      by_cases h4 : (m1 : Int) ≤ 4
      · have h4b : ¬ ((4 : Int) < (m1 : Int)) := by omega
        have h4d : decide ((4 : Int) < (m1 : Int)) = false := decide_eq_false h4b
        have HD4 := Lib.hid (show decide (m1 ≤ 4) = true from decide_eq_true (by omega))
        go_wp2_with fail
        refine (isSv_spec ho sb sm sk fs9 _ HRD.out hz9 HFW.out (by omega)).mono ?_
        rintro e w8 ⟨rfl, hb8⟩
        have HBX2 := Lib.hid (HBX.out.trans (hb8.mono HBX.out.size)); have HM8 := Lib.hid (HM2.out.later hb8)
        cases e8 : isSv ho fs9 with
        | true =>
          have HPT := Lib.hid (show putB (ss.map Prod.fst) hh pp ⟨r_s, r_k, r_b, r_a, r_h, r_o⟩ = true by rw [HPB.out, HD4.out, e8]; rfl)
          clear e8 hb8
          go_wp2_with fail
          refine bodyPost_ret (v := .tuple #[.slice (some ⟨g1, 0, none⟩) m1 c5, .bool true]) (by simp [results, Tryd.results14, go_sem]) rfl ⟨_, _, _, _, by rw [HPT.out], by rw [putV_yes HPT.out]; exact HMS.out, HM8.out.down HBX2.out HB0.out.size⟩
        | false =>
          have HPT := Lib.hid (show putB (ss.map Prod.fst) hh pp ⟨r_s, r_k, r_b, r_a, r_h, r_o⟩ = false by rw [HPB.out, e8]; cases decide (m1 ≤ 4) <;> rfl)
          clear e8 hb8
          go_wp2_with fail
          refine (copyV_spec (.slice va n1 vc) ss _ (HVA.out.up HBX2.out) (by rw [HVN.out]; omega) (fun p hp => Nat.le_trans (HSO.out.few p hp) (by decide))).mono ?_
          rintro e w9 ⟨a3, n3, c3, ts3, rfl, hmap3, hmv3⟩
          have HM3 := Lib.hid (hmv3.down (HBX2.out.trans (hmv3.row.below.mono HBX2.out.size)) HBX2.out.size); clear hmv3
          go_wp2_with fail
          refine bodyPost_ret (v := .tuple #[.slice a3 n3 c3, .bool false]) (by simp [results, Tryd.results14, go_sem]) rfl ⟨_, _, _, ts3, by rw [HPT.out], by rw [putV_no HPT.out]; exact hmap3, HM3.out⟩
      · have h4b : (4 : Int) < (m1 : Int) := by omega
        have h4d : decide ((4 : Int) < (m1 : Int)) = true := decide_eq_true h4b
        have HPT := Lib.hid (show putB (ss.map Prod.fst) hh pp ⟨r_s, r_k, r_b, r_a, r_h, r_o⟩ = false by rw [HPB.out, decide_eq_false (show ¬ (m1 ≤ 4) by omega)]; rfl)
        have HBX2 := HBX
        go_wp2_with fail
        refine (copyV_spec (.slice va n1 vc) ss _ (HVA.out.up HBX2.out) (by rw [HVN.out]; omega) (fun p hp => Nat.le_trans (HSO.out.few p hp) (by decide))).mono ?_
        rintro e w9 ⟨a3, n3, c3, ts3, rfl, hmap3, hmv3⟩
        have HM3 := Lib.hid (hmv3.down (HBX2.out.trans (hmv3.row.below.mono HBX2.out.size)) HBX2.out.size); clear hmv3
        go_wp2_with fail
        refine bodyPost_ret (v := .tuple #[.slice a3 n3 c3, .bool false]) (by simp [results, Tryd.results14, go_sem]) rfl ⟨_, _, _, ts3, by rw [HPT.out], by rw [putV_no HPT.out]; exact hmap3, HM3.out⟩
  · obtain ⟨j, hj⟩ : ∃ j, (ss.map Prod.fst).findIdx (isHost hh) = j := ⟨_, rfl⟩
    rw [hj] at hlt hs
    rw [HLL.out] at hlt
    have HJ := Lib.hid (show fdS (ss.map Prod.fst) hh = j from hj)
    have HHO := Lib.hid (show hostS (ss.map Prod.fst) hh = ts.map Prod.fst by rw [HMP.out]; exact hostS_old (by rw [HJ.out, HLL.out]; exact hlt))
    rw [HJ.out, ixV_hit hlt]; clear hj
    obtain ⟨q, hq, hqs⟩ : ∃ q, ts[j]? = some q ∧ q.1 = s := by
      rw [← HMP.out, List.getElem?_map] at hs
      cases hx : ts[j]? with
      | none => rw [hx] at hs; cases hs
      | some q => rw [hx] at hs; exact ⟨q, rfl, Option.some.inj hs⟩
    have HQ := Lib.hid hq; clear hq hs hqs
    have hnj0 : ¬ ((j : Int) < 0) := by omega
    have XA := XA2; have XR := XR2; have HM1 := HM0; have HN1 := HN0
    have HFL := Lib.hid (show ∀ p ∈ ts, p.1.2.length ≤ 1099511627 from fun p hp => Nat.le_trans (HFL0.out p hp) (by decide))
    have hn19 : n1 ≤ 1099511627 := by omega
    have hmr := HM1.out.reads (Nat.le_refl _)
    have hjl := (List.getElem?_eq_some_iff.1 HQ.out).1; rw [HN1.out] at hjl
    obtain ⟨⟨p_a, fs⟩, ⟨sa, sn, sc⟩⟩ := q
    have HIN := Lib.hid (show OwnK encF 7 57 W0.heap.size w2.heap.size w2 (.slice sa sn sc) fs from HM1.out.inn _ (List.mem_of_getElem? HQ.out))
    have HFR := Lib.hid (show ReadsK encF 7 w2.heap.size w2 (.slice sa sn sc) fs from hmr.2 _ (List.mem_of_getElem? HQ.out))
    have hfl := HFL.out _ (List.mem_of_getElem? HQ.out); replace hfl : fs.length ≤ 1099511627 := hfl
    have HSN := Lib.hid (show sn = fs.length by obtain ⟨_, _, e, _⟩ := HFR.out; injection e)
    obtain ⟨g1, rfl⟩ : ∃ g, a1 = some ⟨g, 0, none⟩ := by
      rcases HM1.out.row.row.2 with ⟨e, h0⟩ | ⟨g', cap', cur, e, _⟩
      · have h1 := HN1.out; omega
      · injection e with e1; exact ⟨_, e1⟩
    have hcg := HM1.out.row.cellG HN1.out HQ.out
    have hg1 : g1 < w2.heap.size := (HM1.out.row.row.lt g1 rfl).2
    have HCG := Lib.hid hcg
    have c1' : w2.cell? ⟨g1, j * 2 + 1, none⟩ = some (.slice sa sn sc) := hcg.1
    have c0' : w2.cell? ⟨g1, j * 2, none⟩ = some (.string p_a) := hcg.2.2
    have y1 := box_cell XA.out (j := 1) rfl
    have HA2 := Lib.hid (fun (m : Nat) (os : Array Obj) => show Calls Tryd.prog 33 #[.agg #[.string p_a, .slice sa sn sc], .string pp] (Sort.grow (w2.drewN m) os) fun e w' => e = .returned (.int .i64 (ixV (fdF fs pp) fs.length)) ∧ Grw (Sort.grow (w2.drewN m) os) w' from findF_spec p_a (.slice sa sn sc) fs pp _ ((HFR.out.below (Grw.below ⟨m, os, rfl⟩) (Nat.le_refl _)).mono (Grw.below ⟨m, os, rfl⟩).size) (by omega))
    have gc1 := cell_grown hg1 c1'; have gc0 := cell_grown hg1 c0'
    have gq1 := cell_grown (heap_lt XA.out) y1
    have hnj : ¬ ((j : Int) < 0) := by omega
    clear c1' c0' y1 hcg hmr
    go_wp2_with fail
    refine wp_region_quiet_grown mixed (by kernel_rfl) ?_
    repeat (go_big_quiet_step (first | (go_at_call 33; refine Calls.grown_of (HA2.out _ _))))
    refine wpQuiet_nil ?_; intro _ hw'; obtain ⟨⟨nq, osq⟩, hw''⟩ := hw'; subst hw''
    have hg2 : Grw w2 (Sort.grow (w2.drewN nq) osq) := ⟨nq, osq, rfl⟩
    obtain ⟨w5, hw5⟩ : ∃ x, Sort.grow (w2.drewN nq) osq = x := ⟨_, rfl⟩
    rw [hw5] at hg2 ⊢; clear hw5 gc1 gc0 gq1
    have hb5 := hg2.below
    have HM5 := Lib.hid (HM1.out.later hb5)
    have XA5 := Lib.hid (below_heap hb5 (heap_lt XA.out) XA.out); have XR5 := Lib.hid (below_heap hb5 (heap_lt XR.out) XR.out)
    have HIN5 := Lib.hid (show OwnK encF 7 57 W0.heap.size w5.heap.size w5 (.slice sa sn sc) fs from HM5.out.inn _ (List.mem_of_getElem? HQ.out))
    have hcg5 := HM5.out.row.cellG HN1.out HQ.out
    have d1 : w5.cell? ⟨g1, j * 2 + 1, none⟩ = some (.slice sa sn sc) := hcg5.1
    have HZ5 := Lib.hid hcg5.2.1
    have hg5 : g1 < w5.heap.size := Nat.lt_of_lt_of_le hg1 hb5.size
    clear hg2 hb5 hcg5 HA2
    have HPS := Lib.hid (show putS (ss.map Prod.fst) hh pp ⟨r_s, r_k, r_b, r_a, r_h, r_o⟩ = (ts.map Prod.fst).set j (p_a, putF fs pp ⟨r_s, r_k, r_b, r_a, r_h, r_o⟩) from putS_at HJ.out HHO.out (fd_mapS _ _ _ HQ.out))
    rcases findIdx_or (isPath pp) fs with ⟨he, _⟩ | ⟨fx, hlt2, hs, hp2, _⟩
    · have hix : ixV (fdF fs pp) fs.length = -1 := by unfold fdF; rw [he, ixV_no]
      rw [hix]
      have HE := Lib.hid (putF_new (r := ⟨r_s, r_k, r_b, r_a, r_h, r_o⟩) he); clear he hix
      have y1 := box_cell XA5.out (j := 1) rfl
      have x0 := box_cell XR5.out (j := 0) rfl
      have x1 := box_cell XR5.out (j := 1) rfl
      have x2 := box_cell XR5.out (j := 2) rfl
      have x3 := box_cell XR5.out (j := 3) rfl
      have x4 := box_cell XR5.out (j := 4) rfl
      have x5 := box_cell XR5.out (j := 5) rfl
      have z1 := HZ5.out
      have ha5 := heap_lt XA5.out; have hr5 := heap_lt XR5.out
      have HK1 := Lib.hid (show fs.length + 1 = sn + 1 by rw [HSN.out])
      have HFN := Lib.hid (show sn + 1 ≤ 68719476736 by rw [HSN.out]; omega)
      go_upto_region 9 with (fail)
      go_cut [8] from 45 to 59 (fun c wx => c = .slice (some ⟨g1, 0, none⟩) n1 c1 ∧ ∃ ts2 : List Se, ts2.map Prod.fst = putS (ss.map Prod.fst) hh pp ⟨r_s, r_k, r_b, r_a, r_h, r_o⟩ ∧ MineV W0.heap.size W0 wx (.slice (some ⟨g1, 0, none⟩) n1 c1) ts2)
      case first =>
        go_region_law ((refine step_appF1 (by rfl) _ _ (by rfl) W0.heap.size (.slice sa sn sc) fs (by rfl) (OwnK.later HIN5.out (by repeat' (first | (with_reducible exact Below.refl _ _) | (with_reducible refine bl_dw ?_) | (with_reducible refine bl_aw ?_ _)))).1 (Nat.le_trans HM5.out.row.size (Below.size (show Below w5.heap.size w5 _ from (by repeat' (first | (with_reducible exact Below.refl _ _) | (with_reducible refine bl_dw ?_) | (with_reducible refine bl_aw ?_ _)))))) ⟨pp, ⟨r_s, r_k, r_b, r_a, r_h, r_o⟩⟩ _ (by rfl) (readsF_at (T := 57) ⟨pp, ⟨r_s, r_k, r_b, r_a, r_h, r_o⟩⟩ (by repeat' (first | (with_reducible refine hq_dr ?_) | ((with_reducible refine hq_nw ?_); (first | (with_reducible rfl) | (simp only [size_alloc]; done))) | (with_reducible refine heap_alV ?_ _)))) (sn + 1) HK1.out HFN.out ?_); intro xa xc wF hoF hgF hfF; have hkF := MineV.rowKept (MineV.later HM5.out (by repeat' (first | (with_reducible exact Below.refl _ _) | (with_reducible refine bl_dw ?_) | (with_reducible refine bl_aw ?_ _)))) HQ.out hgF; have hZ := MineV.innerMoved (MineV.later HM5.out (by repeat' (first | (with_reducible exact Below.refl _ _) | (with_reducible refine bl_dw ?_) | (with_reducible refine bl_aw ?_ _)))) HN1.out HQ.out hgF (xa, sn + 1, xc) (fs ++ [(⟨pp, ⟨r_s, r_k, r_b, r_a, r_h, r_o⟩⟩ : Fl)]) hoF hfF; obtain ⟨dF, zF, -⟩ := hkF.cellG HN1.out HQ.out; replace dF : wF.cell? ⟨g1, j * 2 + 1, none⟩ = some (.slice sa sn sc) := dF)
        all_goals
          have HZ := Lib.hid hZ; clear hZ hoF hgF hfF hkF
          go_wp2_with fail
          go_meet
          exact ⟨rfl, _, by rw [HPS.out, HE.out]; exact map_setS, HZ.out⟩
      obtain ⟨rfl, ts2, hms2, hm2⟩ := hcut
      rename World => wX
      have HM2 := Lib.hid hm2; have HMS := Lib.hid hms2; clear hm2 hms2
      obtain ⟨g9, ho, fs9, sb, sm, sk, e9, hjn, hln9, hg9, k0, k1, hrd, hz9, hfw9, hfl9, hpb⟩ := put_at HM2.out HMS.out HJ.out HLO.out HHZ.out HRW.out
      obtain rfl : g1 = g9 := by injection e9 with e; injection e
      have HPB := Lib.hid hpb; have HRD := Lib.hid hrd; have HFW := Lib.hid hfw9; have HBX := Lib.hid (HB0.out.trans (HM2.out.row.below.mono HB0.out.size))
      have hnj9 : ¬ ((j : Int) < 0) := by omega
      clear hpb hrd hfw9
      by_cases h4 : (n1 : Int) ≤ 4
      · have h4b : ¬ ((4 : Int) < (n1 : Int)) := by omega
        have h4d : decide ((4 : Int) < (n1 : Int)) = false := decide_eq_false h4b
        have HD4 := Lib.hid (show decide (n1 ≤ 4) = true from decide_eq_true (by omega))
        go_wp2_with fail
        refine (isSv_spec ho sb sm sk fs9 _ HRD.out hz9 HFW.out (by omega)).mono ?_
        rintro e w8 ⟨rfl, hb8⟩
        have HBX2 := Lib.hid (HBX.out.trans (hb8.mono HBX.out.size)); have HM8 := Lib.hid (HM2.out.later hb8)
        cases e8 : isSv ho fs9 with
        | true =>
          have HPT := Lib.hid (show putB (ss.map Prod.fst) hh pp ⟨r_s, r_k, r_b, r_a, r_h, r_o⟩ = true by rw [HPB.out, HD4.out, e8]; rfl)
          clear e8 hb8
          go_wp2_with fail
          refine bodyPost_ret (v := .tuple #[.slice (some ⟨g1, 0, none⟩) n1 c1, .bool true]) (by simp [results, Tryd.results14, go_sem]) rfl ⟨_, _, _, _, by rw [HPT.out], by rw [putV_yes HPT.out]; exact HMS.out, HM8.out.down HBX2.out HB0.out.size⟩
        | false =>
          have HPT := Lib.hid (show putB (ss.map Prod.fst) hh pp ⟨r_s, r_k, r_b, r_a, r_h, r_o⟩ = false by rw [HPB.out, e8]; cases decide (n1 ≤ 4) <;> rfl)
          clear e8 hb8
          go_wp2_with fail
          refine (copyV_spec (.slice va n1 vc) ss _ (HVA.out.up HBX2.out) (by rw [HVN.out]; omega) (fun p hp => Nat.le_trans (HSO.out.few p hp) (by decide))).mono ?_
          rintro e w9 ⟨a3, n3, c3, ts3, rfl, hmap3, hmv3⟩
          have HM3 := Lib.hid (hmv3.down (HBX2.out.trans (hmv3.row.below.mono HBX2.out.size)) HBX2.out.size); clear hmv3
          go_wp2_with fail
          refine bodyPost_ret (v := .tuple #[.slice a3 n3 c3, .bool false]) (by simp [results, Tryd.results14, go_sem]) rfl ⟨_, _, _, ts3, by rw [HPT.out], by rw [putV_no HPT.out]; exact hmap3, HM3.out⟩
      · have h4b : (4 : Int) < (n1 : Int) := by omega
        have h4d : decide ((4 : Int) < (n1 : Int)) = true := decide_eq_true h4b
        have HPT := Lib.hid (show putB (ss.map Prod.fst) hh pp ⟨r_s, r_k, r_b, r_a, r_h, r_o⟩ = false by rw [HPB.out, decide_eq_false (show ¬ (n1 ≤ 4) by omega)]; rfl)
        have HBX2 := HBX
        go_wp2_with fail
        refine (copyV_spec (.slice va n1 vc) ss _ (HVA.out.up HBX2.out) (by rw [HVN.out]; omega) (fun p hp => Nat.le_trans (HSO.out.few p hp) (by decide))).mono ?_
        rintro e w9 ⟨a3, n3, c3, ts3, rfl, hmap3, hmv3⟩
        have HM3 := Lib.hid (hmv3.down (HBX2.out.trans (hmv3.row.below.mono HBX2.out.size)) HBX2.out.size); clear hmv3
        go_wp2_with fail
        refine bodyPost_ret (v := .tuple #[.slice a3 n3 c3, .bool false]) (by simp [results, Tryd.results14, go_sem]) rfl ⟨_, _, _, ts3, by rw [HPT.out], by rw [putV_no HPT.out]; exact hmap3, HM3.out⟩
    · obtain ⟨f, hf⟩ : ∃ f, fs.findIdx (isPath pp) = f := ⟨_, rfl⟩
      rw [hf] at hlt2 hs
      have hix : ixV (fdF fs pp) fs.length = f := by unfold fdF; rw [hf, ixV_hit hlt2]
      rw [hix]
      have HE := Lib.hid (putF_hit (r := ⟨r_s, r_k, r_b, r_a, r_h, r_o⟩) (show fdF fs pp = f from hf) hlt2); clear hf hix
      have hfs : f < sn := by rw [HSN.out]; exact hlt2
      obtain ⟨g2, rfl⟩ : ∃ g, sa = some ⟨g, 0, none⟩ := by
        rcases HIN5.out.1.2 with ⟨e, h0⟩ | ⟨g', cap', cur, e, _⟩
        · omega
        · cases e; exact ⟨_, rfl⟩
      have hg2l : g2 < w5.heap.size := HIN5.out.2 g2 rfl
      have HOK := HIN5.out
      have hfx : fx.pa = pp := of_decide_eq_true hp2
      have v0 : w5.cell? ⟨g2, f * 7 + 1, none⟩ = some (.int .i64 fx.rv.st) := (HOK.cellsF HSN.out.symm hs 1 (by decide)).1; have u0 := (HOK.cellsF HSN.out.symm hs 1 (by decide)).2
      have v1 : w5.cell? ⟨g2, f * 7 + 2, none⟩ = some (.int .i64 fx.rv.kd) := (HOK.cellsF HSN.out.symm hs 2 (by decide)).1; have u1 := (HOK.cellsF HSN.out.symm hs 2 (by decide)).2
      have v2 : w5.cell? ⟨g2, f * 7 + 3, none⟩ = some (.string fx.rv.bo) := (HOK.cellsF HSN.out.symm hs 3 (by decide)).1; have u2 := (HOK.cellsF HSN.out.symm hs 3 (by decide)).2
      have v3 : w5.cell? ⟨g2, f * 7 + 4, none⟩ = some (.int .i64 fx.rv.ag) := (HOK.cellsF HSN.out.symm hs 4 (by decide)).1; have u3 := (HOK.cellsF HSN.out.symm hs 4 (by decide)).2
      have v4 : w5.cell? ⟨g2, f * 7 + 5, none⟩ = some (.bool fx.rv.sh) := (HOK.cellsF HSN.out.symm hs 5 (by decide)).1; have u4 := (HOK.cellsF HSN.out.symm hs 5 (by decide)).2
      have v5 : w5.cell? ⟨g2, f * 7 + 6, none⟩ = some (.string fx.rv.po) := (HOK.cellsF HSN.out.symm hs 6 (by decide)).1; have u5 := (HOK.cellsF HSN.out.symm hs 6 (by decide)).2
      have x0 := box_cell XR5.out (j := 0) rfl
      have x1 := box_cell XR5.out (j := 1) rfl
      have x2 := box_cell XR5.out (j := 2) rfl
      have x3 := box_cell XR5.out (j := 3) rfl
      have x4 := box_cell XR5.out (j := 4) rfl
      have x5 := box_cell XR5.out (j := 5) rfl
      have ha5 := heap_lt XA5.out; have hr5 := heap_lt XR5.out
      have hrow := HOK.1; rw [HSN.out.symm] at hrow
      have hset := set6F_own hrow hs ⟨r_s, r_k, r_b, r_a, r_h, r_o⟩
      rw [hfx] at hset
      have HZ := Lib.hid (HM5.out.innerSame (q := ((p_a, fs), (some ⟨g2, 0, none⟩, sn, sc))) HQ.out hset.2 (fs.set f ⟨pp, ⟨r_s, r_k, r_b, r_a, r_h, r_o⟩⟩) (by rw [List.length_set, HSN.out.symm]; exact hset.1))
      have HS := Lib.hid hs; clear hset hrow HOK hs hp2 hfx
      have hnf : ¬ ((f : Int) < 0) := by omega
      have hnd : decide ((0 : Int) ≤ (f : Int)) = true := decide_eq_true (by omega)
      go_upto_region 8 with (fail)
      go_cut [8] from 36 to 44 (fun c wx => c = .slice (some ⟨g1, 0, none⟩) n1 c1 ∧ ∃ ts2 : List Se, ts2.map Prod.fst = putS (ss.map Prod.fst) hh pp ⟨r_s, r_k, r_b, r_a, r_h, r_o⟩ ∧ MineV W0.heap.size W0 wx (.slice (some ⟨g1, 0, none⟩) n1 c1) ts2)
      case first =>
        go_region
        all_goals
          go_wp2_with fail
          go_meet
          exact ⟨rfl, _, by rw [HPS.out, HE.out]; exact map_setS, put_dr HZ.out⟩
      obtain ⟨rfl, ts2, hms2, hm2⟩ := hcut
      rename World => wX
      have HM2 := Lib.hid hm2; have HMS := Lib.hid hms2; clear hm2 hms2
      obtain ⟨g9, ho, fs9, sb, sm, sk, e9, hjn, hln9, hg9, k0, k1, hrd, hz9, hfw9, hfl9, hpb⟩ := put_at HM2.out HMS.out HJ.out HLO.out HHZ.out HRW.out
      obtain rfl : g1 = g9 := by injection e9 with e; injection e
      have HPB := Lib.hid hpb; have HRD := Lib.hid hrd; have HFW := Lib.hid hfw9; have HBX := Lib.hid (HB0.out.trans (HM2.out.row.below.mono HB0.out.size))
      have hnj9 : ¬ ((j : Int) < 0) := by omega
      clear hpb hrd hfw9
      by_cases h4 : (n1 : Int) ≤ 4
      · have h4b : ¬ ((4 : Int) < (n1 : Int)) := by omega
        have h4d : decide ((4 : Int) < (n1 : Int)) = false := decide_eq_false h4b
        have HD4 := Lib.hid (show decide (n1 ≤ 4) = true from decide_eq_true (by omega))
        go_wp2_with fail
        refine (isSv_spec ho sb sm sk fs9 _ HRD.out hz9 HFW.out (by omega)).mono ?_
        rintro e w8 ⟨rfl, hb8⟩
        have HBX2 := Lib.hid (HBX.out.trans (hb8.mono HBX.out.size)); have HM8 := Lib.hid (HM2.out.later hb8)
        cases e8 : isSv ho fs9 with
        | true =>
          have HPT := Lib.hid (show putB (ss.map Prod.fst) hh pp ⟨r_s, r_k, r_b, r_a, r_h, r_o⟩ = true by rw [HPB.out, HD4.out, e8]; rfl)
          clear e8 hb8
          go_wp2_with fail
          refine bodyPost_ret (v := .tuple #[.slice (some ⟨g1, 0, none⟩) n1 c1, .bool true]) (by simp [results, Tryd.results14, go_sem]) rfl ⟨_, _, _, _, by rw [HPT.out], by rw [putV_yes HPT.out]; exact HMS.out, HM8.out.down HBX2.out HB0.out.size⟩
        | false =>
          have HPT := Lib.hid (show putB (ss.map Prod.fst) hh pp ⟨r_s, r_k, r_b, r_a, r_h, r_o⟩ = false by rw [HPB.out, e8]; cases decide (n1 ≤ 4) <;> rfl)
          clear e8 hb8
          go_wp2_with fail
          refine (copyV_spec (.slice va n1 vc) ss _ (HVA.out.up HBX2.out) (by rw [HVN.out]; omega) (fun p hp => Nat.le_trans (HSO.out.few p hp) (by decide))).mono ?_
          rintro e w9 ⟨a3, n3, c3, ts3, rfl, hmap3, hmv3⟩
          have HM3 := Lib.hid (hmv3.down (HBX2.out.trans (hmv3.row.below.mono HBX2.out.size)) HBX2.out.size); clear hmv3
          go_wp2_with fail
          refine bodyPost_ret (v := .tuple #[.slice a3 n3 c3, .bool false]) (by simp [results, Tryd.results14, go_sem]) rfl ⟨_, _, _, ts3, by rw [HPT.out], by rw [putV_no HPT.out]; exact hmap3, HM3.out⟩
      · have h4b : (4 : Int) < (n1 : Int) := by omega
        have h4d : decide ((4 : Int) < (n1 : Int)) = true := decide_eq_true h4b
        have HPT := Lib.hid (show putB (ss.map Prod.fst) hh pp ⟨r_s, r_k, r_b, r_a, r_h, r_o⟩ = false by rw [HPB.out, decide_eq_false (show ¬ (n1 ≤ 4) by omega)]; rfl)
        have HBX2 := HBX
        go_wp2_with fail
        refine (copyV_spec (.slice va n1 vc) ss _ (HVA.out.up HBX2.out) (by rw [HVN.out]; omega) (fun p hp => Nat.le_trans (HSO.out.few p hp) (by decide))).mono ?_
        rintro e w9 ⟨a3, n3, c3, ts3, rfl, hmap3, hmv3⟩
        have HM3 := Lib.hid (hmv3.down (HBX2.out.trans (hmv3.row.below.mono HBX2.out.size)) HBX2.out.size); clear hmv3
        go_wp2_with fail
        refine bodyPost_ret (v := .tuple #[.slice a3 n3 c3, .bool false]) (by simp [results, Tryd.results14, go_sem]) rfl ⟨_, _, _, ts3, by rw [HPT.out], by rw [putV_no HPT.out]; exact hmap3, HM3.out⟩

end Go.Proofs.YtpkicliimhflgaaDoor
namespace Go.Proofs.YtpkicliimhflgaaDoor
open Go.ChangeShapes Go.WideShapes Go.ChangeAt Go.RowKit

abbrev Ad := ByteArray × ByteArray
def isAd (a : Ad) : Bool := isNm a.1 && isNm a.2
def slash : ByteArray := ⟨#[47]⟩
def fmtA (a : Ad) : ByteArray := if isAd a = true then a.1 ++ slash ++ a.2 else ⟨#[]⟩
theorem isAd_no1 {a : Ad} (h : isNm a.1 = false) : isAd a = false := by unfold isAd; rw [h, Bool.false_and]
theorem isAd_1 {a : Ad} (h : isNm a.1 = true) : isAd a = isNm a.2 := by unfold isAd; rw [h, Bool.true_and]
theorem isNm_size {s : ByteArray} (h : isNm s = true) : 1 ≤ s.size ∧ s.size ≤ 8 := by
  unfold isNm at h
  exact of_decide_eq_true (Bool.and_eq_true_iff.1 h).1
theorem isAd_size {a : Ad} (h : isAd a = true) : (1 ≤ a.1.size ∧ a.1.size ≤ 8) ∧ 1 ≤ a.2.size ∧ a.2.size ≤ 8 := by
  unfold isAd at h
  have := Bool.and_eq_true_iff.1 h
  exact ⟨isNm_size this.1, isNm_size this.2⟩

theorem fmtA_yes {a : Ad} (h : isAd a = true) : fmtA a = a.1 ++ slash ++ a.2 := by unfold fmtA; rw [if_pos h]
theorem fmtA_no {a : Ad} (h : isAd a = false) : fmtA a = ⟨#[]⟩ := by unfold fmtA; rw [if_neg (by rw [h]; exact Bool.false_ne_true)]
theorem ret_s {a b : ByteArray} (h : a = b) : Ending.returned (.string a) = .returned (.string b) := by rw [h]

end Go.Proofs.YtpkicliimhflgaaDoor
namespace Go.Proofs.YtpkicliimhflgaaDoor
open Go.ChangeShapes Go.WideShapes Go.ChangeAt Go.RowKit

abbrev cmpB (a b : List UInt8) : Int := Lib.compareBytes a b
theorem cmpB_self : ∀ l, cmpB l l = 0
  | [] => rfl
  | b :: l => by
    have h : ¬ b < b := UInt8.lt_irrefl b
    unfold cmpB Lib.compareBytes
    rw [if_neg h, if_neg h]
    exact cmpB_self l
theorem cmpB_eq : ∀ {a b}, cmpB a b = 0 → a = b
  | [], [], _ => rfl
  | [], _ :: _, h => by unfold cmpB Lib.compareBytes at h; cases h
  | _ :: _, [], h => by unfold cmpB Lib.compareBytes at h; cases h
  | x :: a, y :: b, h => by
    unfold cmpB Lib.compareBytes at h
    split at h
    · cases h
    · split at h
      · cases h
      · rename_i h1 h2
        have e : x = y := UInt8.le_antisymm (UInt8.not_lt.1 h2) (UInt8.not_lt.1 h1)
        rw [e, cmpB_eq h]
theorem cmpB_neg : ∀ a b, cmpB b a = - cmpB a b
  | [], [] => rfl
  | [], _ :: _ => rfl
  | _ :: _, [] => rfl
  | x :: a, y :: b => by
    have ih := cmpB_neg a b
    unfold cmpB Lib.compareBytes
    by_cases h1 : x < y
    · have h2 : ¬ y < x := UInt8.not_lt.2 (UInt8.le_of_lt h1)
      rw [if_pos h1, if_neg h2, if_pos h1]; rfl
    · by_cases h2 : y < x
      · rw [if_pos h2, if_neg h1, if_pos h2]
      · rw [if_neg h1, if_neg h2, if_neg h2, if_neg h1]; exact ih
theorem cmpB_vals : ∀ a b, cmpB a b = -1 ∨ cmpB a b = 0 ∨ cmpB a b = 1
  | [], [] => Or.inr (Or.inl rfl)
  | [], _ :: _ => Or.inl rfl
  | _ :: _, [] => Or.inr (Or.inr rfl)
  | x :: a, y :: b => by
    have ih := cmpB_vals a b
    unfold cmpB Lib.compareBytes
    split
    · exact Or.inl rfl
    · split
      · exact Or.inr (Or.inr rfl)
      · exact ih
theorem cmpB_less : ∀ a b, Op.bytesLess a b = decide (cmpB a b < 0)
  | [], [] => rfl
  | [], _ :: _ => rfl
  | _ :: _, [] => rfl
  | x :: a, y :: b => by
    have ih := cmpB_less a b
    unfold cmpB Lib.compareBytes Op.bytesLess
    by_cases h1 : x < y
    · rw [if_pos h1, decide_eq_true h1]; rfl
    · by_cases h2 : y < x
      · have h3 : (x == y) = false := beq_eq_false_iff_ne.2 fun e => by subst e; exact h1 h2
        rw [if_neg h1, if_pos h2, decide_eq_false h1, h3]; rfl
      · have e : x = y := UInt8.le_antisymm (UInt8.not_lt.1 h2) (UInt8.not_lt.1 h1)
        subst e
        rw [if_neg h1, decide_eq_false h1]
        simp [ih]
theorem cmpB_trans : ∀ {a b c}, cmpB a b < 0 → cmpB b c < 0 → cmpB a c < 0
  | [], [], _, h, _ => by unfold cmpB Lib.compareBytes at h; omega
  | [], _ :: _, [], _, h => by unfold cmpB Lib.compareBytes at h; omega
  | [], _ :: _, _ :: _, _, _ => by unfold cmpB Lib.compareBytes; omega
  | _ :: _, [], _, h, _ => by unfold cmpB Lib.compareBytes at h; omega
  | _ :: _, _ :: _, [], _, h => by unfold cmpB Lib.compareBytes at h; omega
  | x :: a, y :: b, z :: c, h1, h2 => by
    have ih := @cmpB_trans a b c
    unfold cmpB Lib.compareBytes at h1 h2 ⊢
    by_cases e1 : x < y
    · by_cases e2 : y < z
      · rw [if_pos (UInt8.lt_trans e1 e2)]; omega
      · by_cases e3 : z < y
        · rw [if_neg e2, if_pos e3] at h2; omega
        · have e : y = z := UInt8.le_antisymm (UInt8.not_lt.1 e3) (UInt8.not_lt.1 e2)
          subst e; rw [if_pos e1]; omega
    · by_cases e2 : y < x
      · rw [if_neg e1, if_pos e2] at h1; omega
      · have e : x = y := UInt8.le_antisymm (UInt8.not_lt.1 e2) (UInt8.not_lt.1 e1)
        subst e
        rw [if_neg e1, if_neg e1] at h1
        by_cases e3 : x < z
        · rw [if_pos e3]; omega
        · rw [if_neg e3] at h2 ⊢
          by_cases e4 : z < x
          · rw [if_pos e4] at h2; omega
          · rw [if_neg e4] at h2 ⊢
            exact ih h1 h2

def cmpA (a b : Ad) : Int := if a.1 = b.1 then cmpB a.2.data.toList b.2.data.toList else cmpB a.1.data.toList b.1.data.toList
theorem bytes_inj {a b : ByteArray} (h : a.data.toList = b.data.toList) : a = b := by
  cases a with | mk x => cases b with | mk y => rw [show x = y from Array.toList_inj.1 h]
theorem cmpA_self (a : Ad) : cmpA a a = 0 := by unfold cmpA; rw [if_pos rfl]; exact cmpB_self _
theorem cmpA_eq {a b : Ad} (h : cmpA a b = 0) : a = b := by
  unfold cmpA at h
  split at h
  · rename_i e
    exact Prod.ext e (bytes_inj (cmpB_eq h))
  · rename_i e
    exact absurd (bytes_inj (cmpB_eq h)) e
theorem cmpA_neg (a b : Ad) : cmpA b a = - cmpA a b := by
  unfold cmpA
  by_cases e : a.1 = b.1
  · rw [if_pos e, if_pos e.symm]; exact cmpB_neg _ _
  · rw [if_neg e, if_neg (Ne.symm e)]; exact cmpB_neg _ _
theorem cmpA_vals (a b : Ad) : cmpA a b = -1 ∨ cmpA a b = 0 ∨ cmpA a b = 1 := by
  unfold cmpA; split <;> exact cmpB_vals _ _
theorem cmpA_trans {a b c : Ad} (h1 : cmpA a b < 0) (h2 : cmpA b c < 0) : cmpA a c < 0 := by
  unfold cmpA at h1 h2 ⊢
  by_cases e1 : a.1 = b.1
  · rw [if_pos e1] at h1
    by_cases e2 : b.1 = c.1
    · rw [if_pos e2] at h2
      rw [if_pos (e1.trans e2)]; exact cmpB_trans h1 h2
    · rw [if_neg e2] at h2
      rw [if_neg (by rw [e1]; exact e2), e1]; exact h2
  · rw [if_neg e1] at h1
    by_cases e2 : b.1 = c.1
    · rw [if_neg (by rw [← e2]; exact e1), ← e2]; exact h1
    · rw [if_neg e2] at h2
      have h3 := cmpB_trans h1 h2
      by_cases e3 : a.1 = c.1
      · rw [e3, cmpB_self] at h3; omega
      · rw [if_neg e3]; exact h3

def encAd (a : Ad) : List Value := [.string a.1, .string a.2]
theorem cmpA_hosts {h p h' p' : ByteArray} (e : h ≠ h') : cmpA (h, p) (h', p') = cmpB h.data.toList h'.data.toList := by unfold cmpA; rw [if_neg e]
theorem cmpA_paths {h p p' : ByteArray} : cmpA (h, p) (h, p') = cmpB p.data.toList p'.data.toList := by unfold cmpA; rw [if_pos rfl]

theorem less_yes {a b : ByteArray} (h : Op.bytesLess a.toList b.toList = true) : cmpB a.data.toList b.data.toList = -1 := by
  rw [ByteArray.toList_eq, ByteArray.toList_eq, cmpB_less] at h
  have := of_decide_eq_true h
  have := cmpB_vals a.data.toList b.data.toList
  omega
theorem less_no {a b : ByteArray} (h : Op.bytesLess a.toList b.toList = false) (hne : a ≠ b) : cmpB a.data.toList b.data.toList = 1 := by
  rw [ByteArray.toList_eq, ByteArray.toList_eq, cmpB_less] at h
  have h1 := of_decide_eq_false h
  have h2 := cmpB_vals a.data.toList b.data.toList
  have h0 : cmpB a.data.toList b.data.toList ≠ 0 := fun h => hne (bytes_inj (cmpB_eq h))
  omega
theorem less_self (a : ByteArray) : Op.bytesLess a.toList a.toList = false := by rw [cmpB_less, cmpB_self]; rfl

end Go.Proofs.YtpkicliimhflgaaDoor
namespace Go.Proofs.YtpkicliimhflgaaDoor
open Go.ChangeShapes Go.WideShapes Go.ChangeAt Go.RowKit

/-- Where the first slash stands. -/
def slashAt : List UInt8 → Option Nat
  | [] => none
  | b :: l => if b = 47 then some 0 else (slashAt l).map (· + 1)
theorem index_slash_eq (l : List UInt8) : Lib.indexByte l 47 = match slashAt l with | none => -1 | some i => (i : Int) := by
  induction l with
  | nil => rfl
  | cons b l ih =>
    unfold Lib.indexByte slashAt
    by_cases h : b = 47
    · rw [if_pos (by simpa using h), if_pos h]; rfl
    · rw [if_neg (by simpa using h), if_neg h, ih]
      cases slashAt l with
      | none => rfl
      | some i =>
        simp only [Option.map_some]
        rw [if_neg (by simp)]
        rfl
theorem slashAt_some {l : List UInt8} {i : Nat} (h : slashAt l = some i) : i < l.length ∧ l[i]? = some 47 ∧ ∀ j, j < i → l[j]? ≠ some 47 := by
  induction l generalizing i with
  | nil => cases h
  | cons b l ih =>
    unfold slashAt at h
    by_cases e : b = 47
    · rw [if_pos e] at h; cases h
      exact ⟨by simp, by simp [e], fun j hj => absurd hj (Nat.not_lt_zero _)⟩
    · rw [if_neg e] at h
      cases hs : slashAt l with
      | none => rw [hs] at h; cases h
      | some k =>
        rw [hs] at h
        simp only [Option.map_some, Option.some.injEq] at h
        subst h
        obtain ⟨h1, h2, h3⟩ := ih hs
        refine ⟨by simp; omega, by simpa using h2, fun j hj => ?_⟩
        cases j with
        | zero => simp [e]
        | succ j => simpa using h3 j (by omega)
theorem slashAt_none {l : List UInt8} (h : slashAt l = none) : ∀ j : Nat, l[j]? ≠ some 47 := by
  induction l with
  | nil => simp
  | cons b l ih =>
    unfold slashAt at h
    by_cases e : b = 47
    · rw [if_pos e] at h; cases h
    · rw [if_neg e] at h
      intro j
      cases j with
      | zero => simp [e]
      | succ j => simpa using ih (by simpa using h) j
theorem slashAt_of_first {l : List UInt8} {i : Nat} (h1 : l[i]? = some 47) (h2 : ∀ j, j < i → l[j]? ≠ some 47) : slashAt l = some i := by
  cases h : slashAt l with
  | none => exact absurd h1 (slashAt_none h i)
  | some k =>
    obtain ⟨h3, h4, h5⟩ := slashAt_some h
    rcases Nat.lt_trichotomy i k with c | c | c
    · exact absurd h1 (h5 i c)
    · rw [c]
    · exact absurd h4 (h2 k c)
theorem slashAt_of_none {l : List UInt8} (h : ∀ j : Nat, l[j]? ≠ some 47) : slashAt l = none := by
  cases hs : slashAt l with
  | none => rfl
  | some k => exact absurd (slashAt_some hs).2.1 (h k)

set_option maxRecDepth 100000 in
theorem idxByte_any (s : ByteArray) (c : Int) (w : World) :
    Calls Tryd.prog 83 #[.string s, .int .u8 c] w fun e w' => e = .returned (.int .i64 (Lib.indexByte s.data.toList c.toNat.toUInt8)) ∧ w = w' := by
  go_enter Tryd.func83, Tryd.ntmps83
  go_wp2
  rw [run_callFunc_extern Tryd.func92 (by kernel_rfl) (by kernel_rfl) (by kernel_rfl) (e := Extern.BytealgIndexByte.indexByte) (by kernel_rfl), Lib.run_indexByteString]
  simp only [Result.andThen]
  rw [Oper.upon_value]
  go_wp2
  go_ret
  exact ⟨rfl, rfl⟩

set_option maxRecDepth 100000 in
theorem index_slash (s : ByteArray) (w : World) :
    Calls Tryd.prog 74 #[.string s, .string ⟨#[47]⟩] w fun e w' => e = .returned (.int .i64 (Lib.indexByte s.data.toList 47)) ∧ w = w' := by
  by_cases hs : ([47] == s.toList) = true
  · have e1 : s.data.toList = [47] := by
      rw [ByteArray.toList_eq] at hs
      exact (eq_of_beq hs).symm
    rw [e1]
    go_enter Tryd.func74, Tryd.ntmps74
    go_wp2_with fail
    go_ret
    exact ⟨rfl, rfl⟩
  · have hs : ([47] == s.toList) = false := Bool.eq_false_iff.2 hs
    go_enter Tryd.func74, Tryd.ntmps74
    go_wp2_with fail
    refine (idxByte_any s _ _).mono ?_
    rintro e w' ⟨rfl, rfl⟩
    go_wp2_with fail
    go_ret
    exact ⟨rfl, rfl⟩

/-- What Cut returns at "/". -/
def cutV (s : ByteArray) : Value := match slashAt s.data.toList with
  | none => .tuple #[.string s, .string ⟨#[]⟩, .bool false]
  | some i => .tuple #[.string (s.extract 0 i), .string (s.extract (i + 1) s.size), .bool true]

set_option maxRecDepth 100000 in
set_option maxHeartbeats 1000000 in
theorem lcut_any (s : ByteArray) (hs : s.size ≤ 4611686018427387904) (w : World) :
    Calls Tryd.prog 68 #[.string s, .string ⟨#[47]⟩] w fun e w' => e = .returned (cutV s) ∧ ∃ n, w' = w.drewN n := by
  have hix := index_slash_eq s.data.toList
  cases hsl : slashAt s.data.toList with
  | none =>
    have HV := Lib.hid (show cutV s = _ from by unfold cutV; rw [hsl])
    rw [hsl] at hix
    simp only at hix
    have HI := Lib.hid hix
    clear hix hsl
    go_enter Tryd.func68, Tryd.ntmps68
    go_wp2_with fail
    refine (index_slash s _).mono ?_
    rintro e w' ⟨rfl, rfl⟩
    rw [HI.out]
    go_wp2_with fail
    go_ret3
    exact ⟨by rw [HV.out]; rfl, 0, rfl⟩
  | some i =>
    have HV := Lib.hid (show cutV s = _ from by unfold cutV; rw [hsl])
    obtain ⟨h1, _, _⟩ := slashAt_some hsl
    rw [Array.length_toList] at h1
    have h1 : i < s.size := h1
    rw [hsl] at hix
    simp only at hix
    have HI := Lib.hid hix
    clear hix hsl
    have c1 : (0 : Int) ≤ ↑i := by omega
    have c2 : (↑i : Int) ≤ ↑s.size := by omega
    have c3 : (0 : Int) ≤ ↑i + 1 := by omega
    have c4 : (↑i + 1 : Int) ≤ ↑s.size := by omega
    go_enter Tryd.func68, Tryd.ntmps68
    go_wp2_with fail
    refine (index_slash s _).mono ?_
    rintro e w' ⟨rfl, rfl⟩
    rw [HI.out]
    go_wp2_with fail
    go_quiet (fail)
    go_wp2
    go_ret3
    exact ⟨by rw [HV.out]; rfl, _, rfl⟩

set_option maxRecDepth 100000 in
set_option maxHeartbeats 1000000 in
theorem cut_any (s : ByteArray) (hs : s.size ≤ 4611686018427387904) (w : World) :
    Calls Tryd.prog 63 #[.string s, .string ⟨#[47]⟩] w fun e w' => e = .returned (cutV s) ∧ ∃ n, w' = w.drewN n := by
  have hcon := lcut_any s hs
  have HV := Lib.hid (show cutV s = cutV s from rfl)
  have : ∃ a b c, cutV s = .tuple #[.string a, .string b, .bool c] := by
    unfold cutV; split <;> exact ⟨_, _, _, rfl⟩
  obtain ⟨a, b, c, hv⟩ := this
  rw [hv] at hcon ⊢
  clear hv HV
  have HC := Lib.hid hcon; clear hcon
  go_enter Tryd.func63, Tryd.ntmps63
  go_wp2_with fail
  refine (HC.out _).mono ?_
  rintro e w' ⟨rfl, n, rfl⟩
  go_wp2_with fail
  go_ret3
  exact ⟨rfl, n, rfl⟩

end Go.Proofs.YtpkicliimhflgaaDoor
namespace Go.Proofs.YtpkicliimhflgaaDoor
open Go.ChangeShapes Go.WideShapes Go.ChangeAt Go.RowKit

/-- The two parts of a text: by the first slash, or the base and the whole. -/
def parts (s base : ByteArray) : Ad := match slashAt s.data.toList with
  | none => (base, s)
  | some i => (s.extract 0 i, s.extract (i + 1) s.size)
def prsA (s base : ByteArray) : Ad × Bool := if isAd (parts s base) = true then (parts s base, true) else ((⟨#[]⟩, ⟨#[]⟩), false)
def prsV (r : Ad × Bool) : Value := .tuple #[.agg #[.string r.1.1, .string r.1.2], .bool r.2]
theorem prsA_yes {s base : ByteArray} {h p : ByteArray} (hp : parts s base = (h, p)) (h1 : isAd (h, p) = true) : prsV (prsA s base) = .tuple #[.agg #[.string h, .string p], .bool true] := by
  unfold prsA; rw [hp, if_pos h1]; rfl
theorem prsA_no {s base : ByteArray} {h p : ByteArray} (hp : parts s base = (h, p)) (h1 : isAd (h, p) = false) : prsV (prsA s base) = .tuple #[.agg #[.string ⟨#[]⟩, .string ⟨#[]⟩], .bool false] := by
  unfold prsA; rw [hp, if_neg (by rw [h1]; exact Bool.false_ne_true)]; rfl
theorem parts_none {s base : ByteArray} (h : slashAt s.data.toList = none) : parts s base = (base, s) := by unfold parts; rw [h]
theorem parts_some {s base : ByteArray} {i : Nat} (h : slashAt s.data.toList = some i) : parts s base = (s.extract 0 i, s.extract (i + 1) s.size) := by unfold parts; rw [h]
theorem extract_le (s : ByteArray) (a b : Nat) : (s.extract a b).size ≤ s.size := by
  rw [ByteArray.size_extract]; omega
theorem parts_size {s base h p : ByteArray} (hp : parts s base = (h, p)) (hs : s.size ≤ 4611686018427387904) (hb : base.size ≤ 4611686018427387904) : h.size ≤ 4611686018427387904 ∧ p.size ≤ 4611686018427387904 := by
  unfold parts at hp
  split at hp <;> cases hp
  · exact ⟨hb, hs⟩
  · have h1 := extract_le s 0 ‹_›
    have h2 := extract_le s (‹_› + 1) s.size
    omega
theorem cutV_none {s : ByteArray} (h : slashAt s.data.toList = none) : cutV s = .tuple #[.string s, .string ⟨#[]⟩, .bool false] := by unfold cutV; rw [h]
theorem cutV_some {s : ByteArray} {i : Nat} (h : slashAt s.data.toList = some i) : cutV s = .tuple #[.string (s.extract 0 i), .string (s.extract (i + 1) s.size), .bool true] := by unfold cutV; rw [h]

/-- Two cells of one block, both stored. -/
theorem heap_two {w : World} {b : Nat} {x y u v : Value} {T : TypeId} (h : w.heap[b]? = some (.cells #[x, y] T (0, 0))) : ((w.setCell ⟨b, 0, none⟩ u).setCell ⟨b, 1, none⟩ v).heap[b]? = some (.cells #[u, v] T (0, 0)) := by
  have h1 : (w.setCell ⟨b, 0, none⟩ u).heap[b]? = some (.cells #[u, y] T (0, 0)) := by rw [heap_setCell_same w b 0 _ T u h]; rfl
  rw [heap_setCell_same _ b 1 _ T v h1]; rfl
theorem cells_two {w : World} {b : Nat} {u v : Value} {T : TypeId} (h : w.heap[b]? = some (.cells #[u, v] T (0, 0))) : w.cell? ⟨b, 0, none⟩ = some u ∧ w.cell? ⟨b, 1, none⟩ = some v ∧ w.frozen? ⟨b, 0, none⟩ = false ∧ w.frozen? ⟨b, 1, none⟩ = false := by
  refine ⟨?_, ?_, ?_, ?_⟩
  · unfold World.cell?; rw [h]; rfl
  · unfold World.cell?; rw [h]; rfl
  · unfold World.frozen?; rw [h]; rfl
  · unfold World.frozen?; rw [h]; rfl

/-- Two new blocks, and draws between: what lies behind a call that writes nothing old. -/
theorem two_new (w : World) (o1 o2 : Obj) (n : Nat) {w2 : World} (hb : Below (((w.alloc o1).drewN n).alloc o2).heap.size (((w.alloc o1).drewN n).alloc o2) w2) :
    w2.heap[w.heap.size]? = some o1 ∧ w2.heap[w.heap.size + 1]? = some o2 ∧ Below w.heap.size w w2 ∧ w.heap.size + 2 ≤ w2.heap.size := by
  have s1 : (w.alloc o1).heap.size = w.heap.size + 1 := by show (w.heap.push _).size = _; simp
  have s2 : (((w.alloc o1).drewN n).alloc o2).heap.size = w.heap.size + 2 := by
    show (((w.alloc o1).heap.push o2)).size = _
    rw [Array.size_push, s1]
  have k0 : (((w.alloc o1).drewN n).alloc o2).heap[w.heap.size]? = some o1 := by
    rw [Below.heap_alloc ((w.alloc o1).drewN n) o2 w.heap.size (by show _ < (w.alloc o1).heap.size; omega)]
    exact heap_alloc_new w o1
  have k1 : (((w.alloc o1).drewN n).alloc o2).heap[w.heap.size + 1]? = some o2 := by
    have h := heap_alloc_new ((w.alloc o1).drewN n) o2
    rw [show ((w.alloc o1).drewN n).heap.size = w.heap.size + 1 from s1] at h
    exact h
  rw [s2] at hb
  refine ⟨by rw [hb.block _ (by omega)]; exact k0, by rw [hb.block _ (by omega)]; exact k1, ?_, by have := hb.size; omega⟩
  have h1 : Below w.heap.size w (((w.alloc o1).drewN n).alloc o2) :=
    (Below.trans ((Below.refl w.heap.size w).alloc (Nat.le_refl _) o1) (⟨rfl, rfl, rfl, Nat.le_refl _, fun _ _ => rfl⟩ : Below w.heap.size (w.alloc o1) ((w.alloc o1).drewN n))).alloc (by show _ ≤ (w.alloc o1).heap.size; omega) o2
  exact h1.trans (hb.mono (by omega))
/-- A block from B on is written. -/
theorem below_two {B : Nat} {w w2 : World} (h : Below B w w2) {b : Nat} (hb : B ≤ b) (u v : Value) : Below B w ((w2.setCell ⟨b, 0, none⟩ u).setCell ⟨b, 1, none⟩ v) :=
  (h.setCell hb _).setCell hb _

def noSl (s : ByteArray) (k : Nat) : Prop := ∀ j : Nat, j < k → s.data.toList[j]? ≠ some 47
theorem noSl.succ {s : ByteArray} {k : Nat} (h : noSl s k) (hk : k < s.size) (h1 : s[k] ≠ 47) : noSl s (k + 1) := by
  intro j hj
  by_cases e : j = k
  · subst e; rw [get_at hk]; simpa using h1
  · exact h j (by omega)
theorem noSl.none {s : ByteArray} {k : Nat} (h : noSl s k) (hk : k = s.size) : slashAt s.data.toList = .none := by
  refine slashAt_of_none fun j => ?_
  by_cases e : j < k
  · exact h j e
  · rw [List.getElem?_eq_none (by rw [Array.length_toList]; show s.size ≤ j; omega)]; simp
theorem noSl.some {s : ByteArray} {k : Nat} (h : noSl s k) (hk : k < s.size) (h1 : s[k] = 47) : slashAt s.data.toList = .some k :=
  slashAt_of_first (by rw [get_at hk, h1]) h
theorem byte47 {b : UInt8} : (b.toNat : Int) = 47 ↔ b = 47 := by
  constructor
  · intro h
    apply UInt8.toNat_inj.1
    have e : (47 : UInt8).toNat = 47 := rfl
    omega
  · intro h; subst h; rfl

theorem two_newD (w : World) (o1 o2 : Obj) (n : Nat) {w2 : World} (hb : Below (((w.alloc o1).alloc o2).drewN n).heap.size (((w.alloc o1).alloc o2).drewN n) w2) :
    w2.heap[w.heap.size]? = some o1 ∧ w2.heap[w.heap.size + 1]? = some o2 ∧ Below w.heap.size w w2 ∧ w.heap.size + 2 ≤ w2.heap.size := by
  have h0 : Below (((w.alloc o1).alloc o2).drewN n).heap.size (((w.alloc o1).drewN 0).alloc o2) (((w.alloc o1).alloc o2).drewN n) := ⟨rfl, rfl, rfl, Nat.le_refl _, fun _ _ => rfl⟩
  exact two_new w o1 o2 0 (h0.trans hb)

end Go.Proofs.YtpkicliimhflgaaDoor
namespace Go.Proofs.YtpkicliimhflgaaDoor
open Go.ChangeShapes Go.WideShapes Go.ChangeAt Go.RowKit

theorem dec_self {α : Type} [DecidableEq α] (a : α) : decide (a = a) = true := decide_eq_true rfl
abbrev aggA (a : Ad) : Value := .agg #[.string a.1, .string a.2]

set_option maxHeartbeats 1000000 in
theorem toA_any (h p : ByteArray) (w : World) :
    Calls Tryd.prog 16 #[.agg #[.string h, .string p]] w fun e w' => e = .returned (.agg #[.string h, .string p]) ∧ Grw w w' := by
  go_enter Tryd.func16, Tryd.ntmps16
  go_wp2_with fail
  refine bodyPost_ret (v := .agg #[.string h, .string p]) (by simp [results, Tryd.results16, go_sem]) rfl ⟨rfl, ?_⟩
  exact (((Grw.refl _).alloc _).alloc _).alloc _

def SzOut (h p : ByteArray) (left : Int) (w : World) (e : Ending) (w' : World) : Prop :=
  ∃ r : Int, e = .returned (.int .i64 r) ∧ -1 ≤ r ∧ (0 ≤ r → r + h.size + p.size = left) ∧ Below w.heap.size w w'
set_option maxHeartbeats 1000000 in
theorem szA_any (h p : ByteArray) (left : Int) (h1 : h.size ≤ 9223372036854775807) (h2 : p.size ≤ 9223372036854775807) (l1 : -1 ≤ left) (l2 : left ≤ 1099511627776) (w : World) :
    Calls Tryd.prog 12 #[.agg #[.string h, .string p], .int .i64 left] w (SzOut h p left w) := by
  have HB := Lib.hid ((Below.refl w.heap.size w).alloc (Nat.le_refl _) (.cells #[.string h, .string p] 35))
  by_cases c1 : left - h.size < 0
  · go_enter Tryd.func12, Tryd.ntmps12
    go_wp2_with fail
    go_ret
    exact ⟨-1, rfl, by omega, by omega, HB.out⟩
  · by_cases c2 : left - h.size - p.size < 0
    · go_enter Tryd.func12, Tryd.ntmps12
      go_wp2_with fail
      go_ret
      exact ⟨-1, rfl, by omega, by omega, HB.out⟩
    · go_enter Tryd.func12, Tryd.ntmps12
      go_wp2_with fail
      go_ret
      exact ⟨left - h.size - p.size, rfl, by omega, by omega, HB.out⟩

theorem eqA_pair {h p h' p' : ByteArray} : decide ((h, p) = (h', p')) = (decide (h = h') && decide (p = p')) := by
  rw [← Bool.decide_and]
  apply decide_eq_decide.2
  exact Prod.mk.injEq _ _ _ _ ▸ Iff.rfl

end Go.Proofs.YtpkicliimhflgaaDoor
namespace Go.Proofs.YtpkicliimhflgaaDoor
open Go.ChangeShapes Go.WideShapes Go.ChangeAt Go.RowKit Go.Joins Go.Deep

/-- The strings of an address are no longer than a string may be. -/
def AdOk (a : Ad) : Prop := a.1.size ≤ 9223372036854775807 ∧ a.2.size ≤ 9223372036854775807
set_option maxRecDepth 100000 in
theorem addr_of {H : Type} {enc : TypeId × Value → H} {W : World} {base : Nat} {v : Value} {d : DataW H} {p : List MemPlace} (hv : Value.okWide Tryd.prog W .any base 35 v) (h : DataW.Trod enc Tryd.prog W 0 (fun _ => true) true 35 v d p) :
    ∃ x y : ByteArray, v = .agg #[.string x, .string y] ∧ AdOk (x, y) := by
  obtain ⟨v0, v1, y0, y1, n, rfl, _, _, h0, h1⟩ := open_agg2 Tryd.underlying35 (by kernel_rfl) (by kernel_rfl) hv h
  obtain ⟨s, e0, _, w0⟩ := DataW.trod_string Tryd.underlying9 h0
  obtain ⟨t, e1, _, w1⟩ := DataW.trod_string Tryd.underlying9 h1
  cases e0
  cases e1
  exact ⟨s, t, rfl, w0, w1⟩

end Go.Proofs.YtpkicliimhflgaaDoor
namespace Go.Proofs.YtpkicliimhflgaaDoor
open Go.ChangeShapes Go.WideShapes Go.ChangeAt Go.RowKit Go.Joins Go.Deep

set_option maxRecDepth 100000 in
theorem response_of {H : Type} {enc : TypeId × Value → H} {W : World} {base : Nat} {v : Value} {d : DataW H} {p : List MemPlace} (hv : Value.okWide Tryd.prog W .any base 37 v) (h : DataW.Trod enc Tryd.prog W 0 (fun _ => true) true 37 v d p) :
    ∃ (st kd : Int) (bo : ByteArray) (ag : Int) (sh : Bool) (po : ByteArray), v = .agg #[.int .i64 st, .int .i64 kd, .string bo, .int .i64 ag, .bool sh, .string po] ∧ (bo.size ≤ 9223372036854775807 ∧ po.size ≤ 9223372036854775807) := by
  obtain ⟨cs, m, rfl, hsz, hat⟩ := open_fields Tryd.underlying37 (by kernel_rfl) (by kernel_rfl) hv h
  obtain ⟨u0, y0, e0, t0⟩ := hat 0 _ rfl
  obtain ⟨u1, y1, e1, t1⟩ := hat 1 _ rfl
  obtain ⟨u2, y2, e2, t2⟩ := hat 2 _ rfl
  obtain ⟨u3, y3, e3, t3⟩ := hat 3 _ rfl
  obtain ⟨u4, y4, e4, t4⟩ := hat 4 _ rfl
  obtain ⟨u5, y5, e5, t5⟩ := hat 5 _ rfl
  obtain ⟨st, k0, _, w0⟩ := DataW.trod_int Tryd.underlying3 t0
  obtain ⟨kd, k1, _, w1⟩ := DataW.trod_int Tryd.underlying3 t1
  obtain ⟨bo, k2, _, w2⟩ := DataW.trod_string Tryd.underlying9 t2
  obtain ⟨ag, k3, _, w3⟩ := DataW.trod_int Tryd.underlying3 t3
  obtain ⟨sh, k4, _⟩ := DataW.trod_bool Tryd.underlying4 t4
  obtain ⟨po, k5, _, w5⟩ := DataW.trod_string Tryd.underlying9 t5
  cases k0; cases k1; cases k2; cases k3; cases k4; cases k5
  refine ⟨st, kd, bo, ag, sh, po, ?_, w2, w5⟩
  have hsz6 : cs.size = 6 := hsz
  congr 1
  apply Array.ext
  · rw [hsz6]; rfl
  · intro i h1 h2
    rw [hsz6] at h1
    have hh : ∀ {j : Nat} {u : Value} (hj : j < cs.size), cs[j]? = some u → cs[j] = u := fun hj e => Option.some.inj ((Array.getElem?_eq_getElem hj).symm.trans e)
    match i, h1 with
    | 0, _ => exact hh _ e0
    | 1, _ => exact hh _ e1
    | 2, _ => exact hh _ e2
    | 3, _ => exact hh _ e3
    | 4, _ => exact hh _ e4
    | 5, _ => exact hh _ e5

end Go.Proofs.YtpkicliimhflgaaDoor
namespace Go.Proofs.YtpkicliimhflgaaDoor
open Go.ChangeShapes Go.WideShapes Go.ChangeAt Go.RowKit

theorem pfS_any {ss us : List Se} (a : Option Addr) (n c : Nat) (hh pp : ByteArray) (r_s r_k : Int) (r_b : ByteArray) (r_a : Int) (r_h : Bool) (r_o : ByteArray) (X : World) (e : us.map Prod.fst = ss.map Prod.fst) (hr : ReadV X.heap.size X (.slice a n c) us) (ok : SsOk ss) (z1 : hh.size ≤ 1048576) (z2 : pp.size ≤ 1048576) (z3 : r_b.size ≤ 1048576) (z4 : r_o.size ≤ 1048576) :
    Calls Tryd.prog 14 #[.slice a n c, .agg #[.string hh, .string pp], .agg #[.int .i64 r_s, .int .i64 r_k, .string r_b, .int .i64 r_a, .bool r_h, .string r_o]] X (PfOut (ss.map Prod.fst) hh pp ⟨r_s, r_k, r_b, r_a, r_h, r_o⟩ X) := by
  rw [← e]
  exact put_spec _ us hh pp r_s r_k r_b r_a r_h r_o X hr (ok.of e) z1 z2 z3 z4
theorem pfI_any {ss us : List Se} (a : Option Addr) (n c : Nat) (hh pp : ByteArray) (r_s r_k : Int) (r_b : ByteArray) (r_a : Int) (r_h : Bool) (r_o : ByteArray) (X : World) (e : us.map Prod.fst = ss.map Prod.fst) (hr : ReadV X.heap.size X (.slice a n c) us) (ok : SsOk ss) (z1 : hh.size ≤ 1048576) (z2 : pp.size ≤ 1048576) (z3 : r_b.size ≤ 1048576) (z4 : r_o.size ≤ 1048576) (hm : Max0 X) :
    Calls Tryd.prog 18 #[.slice a n c, .agg #[.string hh, .string pp], .agg #[.int .i64 r_s, .int .i64 r_k, .string r_b, .int .i64 r_a, .bool r_h, .string r_o]] X (PfOut (ss.map Prod.fst) hh pp ⟨r_s, r_k, r_b, r_a, r_h, r_o⟩ X) := by
  rw [← e]
  exact put_impl _ us hh pp r_s r_k r_b r_a r_h r_o X hr (ok.of e) z1 z2 z3 z4 hm
/-- A copy of the law's servers, read. -/
theorem tv_any {w X : World} {v : Value} {ss : List Se} (hr : ReadV w.heap.size w v ss) (hl : (rwV v ss).weight ≤ 1048576) (hb : Below w.heap.size w X) :
    Calls Tryd.prog 15 #[v] X fun e w' => ∃ a n c us, e = .returned (.slice a n c) ∧ us.map Prod.fst = ss.map Prod.fst ∧ ReadV w'.heap.size w' (.slice a n c) us ∧ Below X.heap.size X w' := by
  refine (toV_one v ss X (rwV_reads (hr.up hb)) hl).mono ?_
  rintro e w' ⟨y, rfl, i0, d0, ho, _, hb'⟩
  obtain ⟨us, e1, h1⟩ := servers_of_data d0 (rd_of (ownL_one.1 ho))
  obtain ⟨a, n, c, e0⟩ := sl_form (is_sl_ServerS i0) (Rw.OwnR.reads _ (ownL_one.1 ho))
  rw [e0] at h1
  exact ⟨a, n, c, us, by rw [e0], e1, h1, hb'⟩
theorem seCells_count : ∀ ss : List Se, countL (seCells ss) = (ss.map fun p => 1 + p.1.2.length * 7).sum
  | [] => rfl
  | p :: ss => by
    rw [seCells, countL, countL, rwF_count, seCells_count ss, List.map_cons, List.sum_cons, Rw.count]; omega
theorem rwV_count (v : Value) (ss : List Se) : (rwV v ss).count = ((ss.map Prod.fst).map fun p => 1 + p.2.length * 7).sum := by rw [rwV, Rw.count, seCells_count, List.map_map]; rfl
theorem sum_le (l : List Sp) (K : Nat) (h : ∀ s ∈ l, s.2.length ≤ K) : (l.map fun p => 1 + p.2.length * 7).sum ≤ l.length * (1 + K * 7) := by
  induction l with
  | nil => simp
  | cons a l ih =>
    have h1 := ih fun s hs => h s (List.mem_cons_of_mem _ hs)
    have h2 := h a List.mem_cons_self
    rw [List.map_cons, List.sum_cons, List.length_cons, Nat.add_mul]
    omega
theorem putV_fit (L : List Sp) (h p : ByteArray) (r : Rv) (hL : ∀ s ∈ L, s.2.length ≤ 1048576) (hl : L.length ≤ 1048576) : (putV L h p r).length ≤ 1048577 ∧ ∀ s ∈ putV L h p r, s.2.length ≤ 1048577 := by
  by_cases hb : putB L h p r = true
  · rw [putV_yes hb]
    obtain ⟨s, hs, hs2, e, _⟩ := putS_some L h p r
    have hho : (hostS L h).length ≤ L.length + 1 := by unfold hostS; split <;> simp
    rw [e]
    refine ⟨by rw [List.length_set]; omega, fun q hq => ?_⟩
    have hln : ∀ x ∈ hostS L h, x.2.length ≤ 1048576 := fun x hx => by
      rcases host_mem hx with k | k
      · exact hL x k
      · rw [k]; exact Nat.zero_le _
    rcases List.mem_or_eq_of_mem_set hq with k | k
    · exact Nat.le_trans (hln q k) (by decide)
    · rw [k]
      have h1 := putF_len s.2 p r
      have h2 := hln s (List.mem_of_getElem? hs2)
      show (putF s.2 p r).length ≤ _
      omega
  · have hb2 : putB L h p r = false := by simpa using hb
    rw [putV_no hb2]
    exact ⟨Nat.le_trans hl (by decide), fun s hs => Nat.le_trans (hL s hs) (by decide)⟩
theorem put_count {v : Value} {ts : List Se} {L M : List Sp} {h p : ByteArray} {r : Rv} (e : ts.map Prod.fst = M) (hM : putV L h p r = M) (hL : ∀ s ∈ L, s.2.length ≤ 1048576) (hl : L.length ≤ 1048576) : (rwV v ts).count ≤ 7696598237192 := by
  obtain ⟨h1, h2⟩ := putV_fit L h p r hL hl
  rw [hM] at h1 h2
  rw [rwV_count, e]
  have h3 := sum_le M 1048577 h2
  have h4 : M.length * (1 + 1048577 * 7) ≤ 1048577 * (1 + 1048577 * 7) := Nat.mul_le_mul_right _ h1
  exact Nat.le_trans (Nat.le_trans h3 h4) (by decide)
theorem srv_count {v : Value} {ts : List Se} (hL : ∀ s ∈ ts.map Prod.fst, s.2.length ≤ 1048576) (hl : (ts.map Prod.fst).length ≤ 1048576) : (rwV v ts).count ≤ 7696598237192 := by
  rw [rwV_count]
  exact Nat.le_trans (Nat.le_trans (sum_le _ 1048576 hL) (Nat.mul_le_mul_right _ hl)) (by decide)
mutual
theorem count_dataV : ∀ (x y : Rw), x.data = y.data → x.count = y.count
  | .leaf v, .leaf u, _ => rfl
  | .leaf v, .sl u n k e cs, h => by rw [Rw.data, Rw.data] at h; cases h
  | .sl u n k e cs, .leaf v, h => by rw [Rw.data, Rw.data] at h; cases h
  | .sl v n k e cs, .sl u m j f ds, h => by
    rw [Rw.data, Rw.data] at h
    rw [Rw.count, Rw.count]
    exact countL_dataV cs ds (Dt.sl.inj h).2
theorem countL_dataV : ∀ (cs ds : List Rw), dataL cs = dataL ds → countL cs = countL ds
  | [], [], _ => rfl
  | [], d :: ds, h => by rw [dataL, dataL] at h; cases h
  | c :: cs, [], h => by rw [dataL, dataL] at h; cases h
  | c :: cs, d :: ds, h => by
    rw [dataL, dataL] at h
    obtain ⟨h1, h2⟩ := List.cons.inj h
    rw [countL, countL, count_dataV c d h1, countL_dataV cs ds h2]
end

end Go.Proofs.YtpkicliimhflgaaDoor
