/- The walk of the law FnExactParseScript: it returns true, and writes nothing that was there. -/
import Derived.Test.YtiginllbfjekeaaDoorPrM
import Derived.Test.YtiginllbfjekeaaDoorLawL
import Derived.Deep.RegionWith
import Derived.Deep.CutRange
namespace Go.Proofs.YtiginllbfjekeaaDoor
open Go.ChangeShapes Go.WideShapes Go.ChangeAt Go.RowKit

set_option maxRecDepth 100000 in
set_option maxHeartbeats 4000000 in
theorem walkParseScript (a_s : ByteArray) (w : World) (r_s : a_s.size ≤ 9223372036854775807) :
    Calls Tryd.prog 4 #[.string a_s] w fun e w' => e = .returned (.bool true) ∧ Below w.heap.size w w' := by
  have hrs := r_s; clear hrs
  by_cases big_s : (1048576 : Int) < (a_s.size : Int)
  · go_enter Tryd.func4, Tryd.ntmps4
    go_wp2_with fail
    go_ret
    exact ⟨rfl, by first | exact Below.refl _ _ | exact (Below.refl _ _).alloc (Nat.le_refl _) _⟩
  go_enter Tryd.func4, Tryd.ntmps4
  have HB := Lib.hid (Below.refl w.heap.size w)
  obtain ⟨RS, hRS⟩ : ∃ RS, scL (prsSc a_s) = RS := ⟨_, rfl⟩
  have HRS := Lib.hid hRS
  have HRL := Lib.hid (show RS.length ≤ 6 by rw [← hRS]; exact scL_len a_s); clear hRS
  obtain ⟨RB, hRB⟩ : ∃ RB, scB (prsSc a_s) = RB := ⟨_, rfl⟩
  have HRB := Lib.hid hRB; clear hRB
  have hDD : (RB == RB) = true := beq_self_eq_true _; have hDN : (RB != RB) = false := by rw [bne, hDD]; rfl
  go_wp2_with fail
  refine (pscript_spec a_s (by omega) _).mono ?_
  rintro e w_1 ⟨sa_p, sn_p, sc_p, rfl, hm⟩
  rw [HRS.out] at hm; rw [HRB.out]
  have hB := hm.below
  have Hp := Lib.hid (ownL_one.2 (rwLn_own hm.own))
  have HS1 := Lib.hid hB.size
  replace HB := Lib.hid (HB.out.trans (hB.mono HB.out.size))
  have HN_p := Lib.hid (optL_nodupL (.slice sa_p sn_p sc_p) RS)
  clear hB hm
  go_wp2_with fail
  refine (pscript_impl a_s (by omega) _).mono ?_
  rintro e w_2 ⟨sa_g, sn_g, sc_g, rfl, hm⟩
  rw [HRS.out] at hm; rw [HRB.out]
  have hB := hm.below
  replace Hp := Lib.hid (ownL_later Hp.out hB)
  have Hg := Lib.hid (ownL_one.2 (rwLn_own hm.own))
  have HS2 := Lib.hid hB.size
  replace HB := Lib.hid (HB.out.trans (hB.mono HB.out.size))
  have HN_g := Lib.hid (optL_nodupL (.slice sa_g sn_g sc_g) RS)
  clear hB hm
  go_wp2_with fail
  refine ((eq_LineS (rwLn (.slice sa_g sn_g sc_g) RS) (rwLn (.slice sa_p sn_p sc_p) RS) (rwLn_is _ _) (rwLn_is _ _) (rwLn_data _ _ _) _ (rd_of (ownL_one.1 Hg.out)) (rd_of (ownL_one.1 Hp.out)))).mono ?_
  rintro e w_3 ⟨rfl, hg⟩
  have hB := hg.below
  replace Hp := Lib.hid (ownL_later Hp.out hB)
  replace Hg := Lib.hid (ownL_later Hg.out hB)
  have HS3 := Lib.hid hB.size
  replace HB := Lib.hid (HB.out.trans (hB.mono HB.out.size))
  clear hB hg
  have HCT_g := Lib.hid (show 1 + countL [(rwLn (.slice sa_g sn_g sc_g) RS)] ≤ 4611686018427387904 by have h1 := HRL.out; rw [countL, countL, rwLn_count]; omega)
  go_wp2_with fail
  refine (mkLn_one (rwLn (.slice sa_g sn_g sc_g) RS) (rwLn_is _ _) _ _ 1 _ rfl _ Hg.out HN_g.out HCT_g.out).mono ?_
  rintro e w_4 ⟨rfl, hmk, hon⟩
  have hbk := ownL_back (lo := w.heap.size) HB.out (ownL_mono Hg.out (lo' := w.heap.size) (by have := HS1.out; have := HS2.out; have := HS3.out; omega) (Nat.le_refl _)) HB.out.size hon
  replace Hp := Lib.hid (ownL_apart Hp.out Hg.out (by have := HS1.out; have := HS2.out; have := HS3.out; omega) hon)
  replace Hg := Lib.hid hmk
  have HS4 := Lib.hid hon.size
  replace HB := Lib.hid hbk
  clear hbk hmk hon
  obtain ⟨m, hm⟩ : ∃ m, 1 + countL [(rwLn (.slice sa_g sn_g sc_g) RS)] = m := ⟨_, rfl⟩
  rw [hm]; have HM := Lib.hid hm
  have hmq : ((m : Int) == (m : Int)) = true := beq_self_eq_true _
  have hm0 : ¬ ((m : Int) < 0) := by omega
  clear hm
  go_wp2_with fail
  refine (hdLn_one (rwLn (.slice sa_g sn_g sc_g) RS) (rwLn_is _ _) _ 1 _ rfl _ (ownL_read Hg.out (by have := HS1.out; have := HS2.out; have := HS3.out; have := HS4.out; omega)) (Nat.le_refl _) HCT_g.out).mono ?_
  rintro e w_5 ⟨rfl, hg⟩
  have hB := hg.below
  replace Hp := Lib.hid (ownL_later Hp.out hB)
  replace Hg := Lib.hid (ownL_later Hg.out hB)
  have HS5 := Lib.hid hB.size
  replace HB := Lib.hid (HB.out.trans (hB.mono HB.out.size))
  rw [HM.out]
  clear hB hg
  go_wp2_with fail
  refine (pscript_impl a_s (by omega) _).mono ?_
  rintro e w_6 ⟨sa_h, sn_h, sc_h, rfl, hm⟩
  rw [HRS.out] at hm; rw [HRB.out]
  have hB := hm.below
  replace Hp := Lib.hid (ownL_later Hp.out hB)
  replace Hg := Lib.hid (ownL_later Hg.out hB)
  have Hh := Lib.hid (ownL_one.2 (rwLn_own hm.own))
  have HS6 := Lib.hid hB.size
  replace HB := Lib.hid (HB.out.trans (hB.mono HB.out.size))
  have HN_h := Lib.hid (optL_nodupL (.slice sa_h sn_h sc_h) RS)
  clear hB hm
  go_wp2_with fail
  refine ((eq_LineS (rwLn (.slice sa_h sn_h sc_h) RS) (rwLn (.slice sa_p sn_p sc_p) RS) (rwLn_is _ _) (rwLn_is _ _) (rwLn_data _ _ _) _ (rd_of (ownL_one.1 Hh.out)) (rd_of (ownL_one.1 Hp.out)))).mono ?_
  rintro e w_7 ⟨rfl, hg⟩
  have hB := hg.below
  replace Hp := Lib.hid (ownL_later Hp.out hB)
  replace Hg := Lib.hid (ownL_later Hg.out hB)
  replace Hh := Lib.hid (ownL_later Hh.out hB)
  have HS7 := Lib.hid hB.size
  replace HB := Lib.hid (HB.out.trans (hB.mono HB.out.size))
  clear hB hg
  go_wp2_with fail
  refine (hdLn_one (rwLn (.slice sa_g sn_g sc_g) RS) (rwLn_is _ _) _ 1 _ rfl _ (ownL_read Hg.out (by have := HS1.out; have := HS2.out; have := HS3.out; have := HS4.out; have := HS5.out; have := HS6.out; have := HS7.out; omega)) (Nat.le_refl _) HCT_g.out).mono ?_
  rintro e w_8 ⟨rfl, hg⟩
  have hB := hg.below
  replace Hp := Lib.hid (ownL_later Hp.out hB)
  replace Hg := Lib.hid (ownL_later Hg.out hB)
  replace Hh := Lib.hid (ownL_later Hh.out hB)
  have HS8 := Lib.hid hB.size
  replace HB := Lib.hid (HB.out.trans (hB.mono HB.out.size))
  rw [HM.out]
  clear hB hg
  go_wp2_with fail
  go_ret
  exact ⟨rfl, HB.out⟩
end Go.Proofs.YtiginllbfjekeaaDoor
