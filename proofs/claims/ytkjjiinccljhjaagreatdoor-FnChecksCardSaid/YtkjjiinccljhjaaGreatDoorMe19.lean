/- Helper contracts: VerdictName, SameRequest, CanGuess of the program and of the model answer alike. Asked: strings are shorter than 2^63 bytes. A drawn region whose callees make memory and write nothing old, as one walk. Helper facts, no claim of its own. The walk of the law FnChecks: it returns true, and writes nothing that was there. FnChecks: the walk for every argument. What a row's condition on the listed variables of Go's library gives: the table of powers of ten reads as listed. Helper facts, no claim of its own. What a row's condition on the five listed variables of Go's library gives: the table of powers of ten reads as listed. Helper facts, no claim of its own. A row with listed variables whose call also leans on the shape of the world it begins in: both facts handed to the walk. Helper fact, no claim of its own. -/
import Derived.Test.YtkjjiinccljhjaaGreatDoorMe14
import Derived.Test.YtkjjiinccljhjaaGreatDoorMe1
import Derived.BigQuiet
import Derived.Deep.QuietTactic
import Derived.Test.YtkjjiinccljhjaaGreatDoorMe13
import Derived.Test.YtkjjiinccljhjaaGreatDoorMe18
import Derived.Test.YtkjjiinccljhjaaGreatDoorMe9
import Derived.Test.YtkjjiinccljhjaaGreatDoorMe4
import Derived.Deep.CutRange
import Derived.Test.YtkjjiinccljhjaaGreatDoorRows
import Derived.ProofKit
import Derived.LaidMore
import Derived.OpenShut
import Derived.Stop.Joined
import Derived.Stop.LaidErr
import Derived.Lib.LaidTab
import Derived.Lib.ItoaNum
import Derived.LaidLaws
import Derived.Handed
namespace Go.Proofs.YtkjjiinccljhjaaGreatDoor

open Go.ChangeShapes Go.WideShapes Go.ChangeAt Go.RowKit

/-- VerdictName. -/
def vnB (k : Int) : ByteArray := if k = 1 then ⟨#[111, 107]⟩ else if k = 2 then ⟨#[112, 111, 108, 105, 99, 121]⟩ else if k = 3 then ⟨#[115, 116, 97, 116, 117, 115]⟩ else if k = 4 then ⟨#[107, 105, 110, 100]⟩ else if k = 5 then ⟨#[115, 104, 97, 114, 101]⟩ else if k = 6 then ⟨#[100, 105, 103, 101, 115, 116]⟩ else ⟨#[]⟩
set_option maxRecDepth 100000 in
set_option maxHeartbeats 2000000 in
theorem vn_impl (k : Int) (w : World) : Calls Tryz.prog 15 #[.int .i64 k] w fun e w' => e = .returned (.string (vnB k)) ∧ Grw w w' := by
  rcases (show k = 1 ∨ k = 2 ∨ k = 3 ∨ k = 4 ∨ k = 5 ∨ k = 6 ∨ (k ≠ 1 ∧ k ≠ 2 ∧ k ≠ 3 ∧ k ≠ 4 ∧ k ≠ 5 ∧ k ≠ 6) by omega) with rfl | rfl | rfl | rfl | rfl | rfl | ⟨k1, k2, k3, k4, k5, k6⟩
  · go_enter Tryz.func15, Tryz.ntmps15
    go_wp2
    go_ret
    exact ⟨rfl, Grw.refl _⟩
  · go_enter Tryz.func15, Tryz.ntmps15
    go_wp2
    go_ret
    exact ⟨rfl, Grw.refl _⟩
  · go_enter Tryz.func15, Tryz.ntmps15
    go_wp2
    go_ret
    exact ⟨rfl, Grw.refl _⟩
  · go_enter Tryz.func15, Tryz.ntmps15
    go_wp2
    go_ret
    exact ⟨rfl, Grw.refl _⟩
  · go_enter Tryz.func15, Tryz.ntmps15
    go_wp2
    go_ret
    exact ⟨rfl, Grw.refl _⟩
  · go_enter Tryz.func15, Tryz.ntmps15
    go_wp2
    go_ret
    exact ⟨rfl, Grw.refl _⟩
  · have HN := Lib.hid (show vnB k = ⟨#[]⟩ by unfold vnB; rw [if_neg k1, if_neg k2, if_neg k3, if_neg k4, if_neg k5, if_neg k6])
    have e1 : (k == 1) = false := beq_eq_false_iff_ne.2 k1
    have e2 : (k == 2) = false := beq_eq_false_iff_ne.2 k2
    have e3 : (k == 3) = false := beq_eq_false_iff_ne.2 k3
    have e4 : (k == 4) = false := beq_eq_false_iff_ne.2 k4
    have e5 : (k == 5) = false := beq_eq_false_iff_ne.2 k5
    have e6 : (k == 6) = false := beq_eq_false_iff_ne.2 k6
    clear k1 k2 k3 k4 k5 k6
    go_enter Tryz.func15, Tryz.ntmps15
    go_wp2
    go_ret
    exact ⟨by rw [HN.out]; rfl, Grw.refl _⟩

/-- CanGuess. -/
def cgB (kd : Int) (h p f g : ByteArray) : Bool := if isRq kd h p f g = true then if kd = 1 then false else if f = h then true else false else false
set_option maxRecDepth 100000 in
set_option maxHeartbeats 2000000 in
theorem cg_spec (kd : Int) (h p f g : ByteArray) (ok : RqOk h p f g) (w : World) :
    Calls Tryz.prog 25 #[.agg #[.int .i64 kd, .string h, .string p, .string f, .string g]] w fun e w' => e = .returned (.bool (cgB kd h p f g)) ∧ Below w.heap.size w w' := by
  obtain ⟨W0, hW⟩ : ∃ W, (w.alloc (.cells #[.int .i64 kd, .string h, .string p, .string f, .string g] 30)) = W := ⟨_, rfl⟩
  have HB := Lib.hid (show Below w.heap.size w W0 by rw [← hW]; exact ((Below.refl w.heap.size w).alloc (by first | (simp; done) | (simp; omega)) _))
  have q_q0 : W0.cell? ⟨w.heap.size, 0, none⟩ = some (.int .i64 kd) := by rw [← hW]; simp
  have q_q1 : W0.cell? ⟨w.heap.size, 1, none⟩ = some (.string h) := by rw [← hW]; simp
  have q_q2 : W0.cell? ⟨w.heap.size, 2, none⟩ = some (.string p) := by rw [← hW]; simp
  have q_q3 : W0.cell? ⟨w.heap.size, 3, none⟩ = some (.string f) := by rw [← hW]; simp
  have q_q4 : W0.cell? ⟨w.heap.size, 4, none⟩ = some (.string g) := by rw [← hW]; simp
  have HW := Lib.hid hW; clear hW
  have HI := Lib.hid (fun X => isRq_spec kd h p f g ok X); clear ok
  go_enter Tryz.func25, Tryz.ntmps25
  go_wp2_with fail
  rw [HW.out]
  refine (HI.out _).mono ?_
  rintro e w1 ⟨rfl, hb⟩
  have hbx := hb
  replace q_q0 := (hbx.cell (show (⟨w.heap.size, 0, none⟩ : Addr).block < _ from World.block_lt_of_cell? _ _ q_q0)).trans q_q0
  replace q_q1 := (hbx.cell (show (⟨w.heap.size, 1, none⟩ : Addr).block < _ from World.block_lt_of_cell? _ _ q_q1)).trans q_q1
  replace q_q2 := (hbx.cell (show (⟨w.heap.size, 2, none⟩ : Addr).block < _ from World.block_lt_of_cell? _ _ q_q2)).trans q_q2
  replace q_q3 := (hbx.cell (show (⟨w.heap.size, 3, none⟩ : Addr).block < _ from World.block_lt_of_cell? _ _ q_q3)).trans q_q3
  replace q_q4 := (hbx.cell (show (⟨w.heap.size, 4, none⟩ : Addr).block < _ from World.block_lt_of_cell? _ _ q_q4)).trans q_q4
  replace HB := Lib.hid (HB.out.trans (hbx.mono HB.out.size)); clear hbx hb
  cases e1 : isRq kd h p f g with
  | false =>
    have He1 := Lib.hid e1; clear e1
    go_wp2_with fail
    go_ret
    exact ⟨ret_b (by unfold cgB; rw [if_neg (by rw [He1.out]; exact Bool.false_ne_true)]), HB.out⟩
  | true =>
    have He1 := Lib.hid e1; clear e1
    by_cases e2 : kd = 1
    · have He2 := Lib.hid e2
      have x1 : (kd == 1) = true := beq_iff_eq.2 e2
      have x2 : (kd != 1) = false := by rw [bne, x1]; rfl
      clear e2
      go_wp2_with fail
      go_ret
      exact ⟨ret_b (by unfold cgB; rw [if_pos He1.out, if_pos He2.out]), HB.out⟩
    · have He2 := Lib.hid e2
      have x1 : (kd == 1) = false := beq_eq_false_iff_ne.2 e2
      have x2 : (kd != 1) = true := by rw [bne, x1]; rfl
      clear e2
      by_cases e3 : f = h
      · have He3 := Lib.hid e3
        have x3 : (h.toList == f.toList) = true := beqL_yes e3.symm
        clear e3
        go_wp2_with fail
        go_ret
        exact ⟨ret_b (by unfold cgB; rw [if_pos He1.out, if_neg He2.out, if_pos He3.out]), HB.out⟩
      · have He3 := Lib.hid e3
        have x3 : (h.toList == f.toList) = false := beqL_no (fun h => e3 h.symm)
        clear e3
        go_wp2_with fail
        go_ret
        exact ⟨ret_b (by unfold cgB; rw [if_pos He1.out, if_neg He2.out, if_neg He3.out]), HB.out⟩

set_option maxRecDepth 100000 in
set_option maxHeartbeats 2000000 in
theorem cg_impl (kd : Int) (h p f g : ByteArray) (ok : RqOk h p f g) (w : World) :
    Calls Tryz.prog 24 #[.agg #[.int .i64 kd, .string h, .string p, .string f, .string g]] w fun e w' => e = .returned (.bool (cgB kd h p f g)) ∧ Below w.heap.size w w' := by
  obtain ⟨W0, hW⟩ : ∃ W, (w.alloc (.cells #[.int .i64 kd, .string h, .string p, .string f, .string g] 30)) = W := ⟨_, rfl⟩
  have HB := Lib.hid (show Below w.heap.size w W0 by rw [← hW]; exact ((Below.refl w.heap.size w).alloc (by first | (simp; done) | (simp; omega)) _))
  have q_q0 : W0.cell? ⟨w.heap.size, 0, none⟩ = some (.int .i64 kd) := by rw [← hW]; simp
  have q_q1 : W0.cell? ⟨w.heap.size, 1, none⟩ = some (.string h) := by rw [← hW]; simp
  have q_q2 : W0.cell? ⟨w.heap.size, 2, none⟩ = some (.string p) := by rw [← hW]; simp
  have q_q3 : W0.cell? ⟨w.heap.size, 3, none⟩ = some (.string f) := by rw [← hW]; simp
  have q_q4 : W0.cell? ⟨w.heap.size, 4, none⟩ = some (.string g) := by rw [← hW]; simp
  have HW := Lib.hid hW; clear hW
  have HI := Lib.hid (fun X => isRq_impl kd h p f g ok X); clear ok
  go_enter Tryz.func24, Tryz.ntmps24
  go_wp2_with fail
  rw [HW.out]
  refine (HI.out _).mono ?_
  rintro e w1 ⟨rfl, hb⟩
  have hbx := hb
  replace q_q0 := (hbx.cell (show (⟨w.heap.size, 0, none⟩ : Addr).block < _ from World.block_lt_of_cell? _ _ q_q0)).trans q_q0
  replace q_q1 := (hbx.cell (show (⟨w.heap.size, 1, none⟩ : Addr).block < _ from World.block_lt_of_cell? _ _ q_q1)).trans q_q1
  replace q_q2 := (hbx.cell (show (⟨w.heap.size, 2, none⟩ : Addr).block < _ from World.block_lt_of_cell? _ _ q_q2)).trans q_q2
  replace q_q3 := (hbx.cell (show (⟨w.heap.size, 3, none⟩ : Addr).block < _ from World.block_lt_of_cell? _ _ q_q3)).trans q_q3
  replace q_q4 := (hbx.cell (show (⟨w.heap.size, 4, none⟩ : Addr).block < _ from World.block_lt_of_cell? _ _ q_q4)).trans q_q4
  replace HB := Lib.hid (HB.out.trans (hbx.mono HB.out.size)); clear hbx hb
  cases e1 : isRq kd h p f g with
  | false =>
    have He1 := Lib.hid e1; clear e1
    go_wp2_with fail
    go_ret
    exact ⟨ret_b (by unfold cgB; rw [if_neg (by rw [He1.out]; exact Bool.false_ne_true)]), HB.out⟩
  | true =>
    have He1 := Lib.hid e1; clear e1
    by_cases e2 : kd = 1
    · have He2 := Lib.hid e2
      have x1 : (kd == 1) = true := beq_iff_eq.2 e2
      have x2 : (kd != 1) = false := by rw [bne, x1]; rfl
      clear e2
      go_wp2_with fail
      go_ret
      exact ⟨ret_b (by unfold cgB; rw [if_pos He1.out, if_pos He2.out]), HB.out⟩
    · have He2 := Lib.hid e2
      have x1 : (kd == 1) = false := beq_eq_false_iff_ne.2 e2
      have x2 : (kd != 1) = true := by rw [bne, x1]; rfl
      clear e2
      by_cases e3 : f = h
      · have He3 := Lib.hid e3
        have x3 : (f.toList == h.toList) = true := beqL_yes e3
        clear e3
        go_wp2_with fail
        go_ret
        exact ⟨ret_b (by unfold cgB; rw [if_pos He1.out, if_neg He2.out, if_pos He3.out]), HB.out⟩
      · have He3 := Lib.hid e3
        have x3 : (f.toList == h.toList) = false := beqL_no e3
        clear e3
        go_wp2_with fail
        go_ret
        exact ⟨ret_b (by unfold cgB; rw [if_pos He1.out, if_neg He2.out, if_neg He3.out]), HB.out⟩

/-- SameRequest. -/
def smB (h p f h' p' f' : ByteArray) : Bool := decide ((h, p) = (h', p')) && decide (f = f')
set_option maxRecDepth 100000 in
set_option maxHeartbeats 2000000 in
theorem sm_impl (kd : Int) (h p f g : ByteArray) (kd' : Int) (h' p' f' g' : ByteArray) (w : World) :
    Calls Tryz.prog 23 #[.agg #[.int .i64 kd, .string h, .string p, .string f, .string g], .agg #[.int .i64 kd', .string h', .string p', .string f', .string g']] w fun e w' => e = .returned (.bool (smB h p f h' p' f')) ∧ Grw w w' := by
  have HG := Lib.hid (((Grw.refl w).alloc (.cells #[.int .i64 kd, .string h, .string p, .string f, .string g] 30)).alloc (.cells #[.int .i64 kd', .string h', .string p', .string f', .string g'] 30))
  by_cases h0 : h = h'
  · have e0 : (h.toList == h'.toList) = true := beqL_yes h0
    by_cases h1 : p = p'
    · have e1 : (p.toList == p'.toList) = true := beqL_yes h1
      by_cases h2 : f = f'
      · have e2 : (f.toList == f'.toList) = true := beqL_yes h2
        have HV := Lib.hid (show smB h p f h' p' f' = true by unfold smB; simp [h0, h1, h2])
        clear h0 h1 h2
        go_enter Tryz.func23, Tryz.ntmps23
        go_wp2_with fail
        go_ret
        exact ⟨by rw [HV.out]; rfl, HG.out⟩
      · have e2 : (f.toList == f'.toList) = false := beqL_no h2
        have HV := Lib.hid (show smB h p f h' p' f' = false by unfold smB; simp [h0, h1, h2])
        clear h0 h1 h2
        go_enter Tryz.func23, Tryz.ntmps23
        go_wp2_with fail
        go_ret
        exact ⟨by rw [HV.out]; rfl, HG.out⟩
    · have e1 : (p.toList == p'.toList) = false := beqL_no h1
      have HV := Lib.hid (show smB h p f h' p' f' = false by unfold smB; simp [h0, h1])
      clear h0 h1
      go_enter Tryz.func23, Tryz.ntmps23
      go_wp2_with fail
      go_ret
      exact ⟨by rw [HV.out]; rfl, HG.out⟩
  · have e0 : (h.toList == h'.toList) = false := beqL_no h0
    have HV := Lib.hid (show smB h p f h' p' f' = false by unfold smB; simp [h0])
    clear h0
    go_enter Tryz.func23, Tryz.ntmps23
    go_wp2_with fail
    go_ret
    exact ⟨by rw [HV.out]; rfl, HG.out⟩

end Go.Proofs.YtkjjiinccljhjaaGreatDoor
namespace Go.Proofs.YtkjjiinccljhjaaGreatDoor
open Go.ChangeShapes Go.WideShapes Go.ChangeAt Go.RowKit

/-- A world behind w in which of what lay in w nothing is written. -/
structure BelowBy (w : World) where
  at' : World
  hb : Below w.heap.size w at'
theorem wp_region_quiet_below {P : Program} {id : Nat} {Q : Exit → Act → World → Prop} {a : Act} {w : World} {l : List Oper} (hm : P.follows .mixedOrders = true) (hB : Region.lexB .any l.toArray = true)
    (h : wpQuiet P l.toArray (fun w' => ∃ p : BelowBy w, w' = p.at') (fun a' => ∀ w', (∃ p : BelowBy w, w' = p.at') → Q .normal a' w') l a) : (Code.region id l.toArray true).wp P Q a w :=
  wp_region_quiet (C := fun w' => ∃ p : BelowBy w, w' = p.at') hm hB ⟨⟨w.drew, (Below.refl _ w).drew⟩, rfl⟩ (by simpa using h)
theorem Calls.below_of {P : Program} {f : FuncId} {args : Array Value} {w : World} (p : BelowBy w) {v : Value} (h : Calls P f args p.at' fun e w' => e = .returned v ∧ Below p.at'.heap.size p.at' w') :
    Calls P f args p.at' fun e w'' => e = .returned v ∧ ∃ q : BelowBy w, w'' = q.at' :=
  h.mono fun _ w' ⟨he, hb⟩ => ⟨he, ⟨w', p.hb.trans (hb.mono p.hb.size)⟩, rfl⟩
theorem cell_below {w : World} {a : Addr} {v : Value} (hb : a.block < w.heap.size) (h : w.cell? a = some v) (p : BelowBy w) : p.at'.cell? a = some v := (p.hb.cell hb).trans h

end Go.Proofs.YtkjjiinccljhjaaGreatDoor
namespace Go.Proofs.YtkjjiinccljhjaaGreatDoor
open Go.ChangeShapes Go.WideShapes Go.ChangeAt Go.RowKit

theorem mixedD : Tryz.prog.follows .mixedOrders = true := by kernel_rfl
theorem rsV_one {q : Pol} {kd : Int} {h p f g : ByteArray} {st xk : Int} {bo : ByteArray} {ag : Int} {sh : Bool} {po : ByteArray} (e : rsV q kd h p f g st xk bo ag sh po = 1) :
    (kd = 1 ∨ alB q kd h = true) ∧ st = 200 ∧ fitB xk kd = true ∧ (shB kd h f g = false ∨ sh = true) ∧ chB bo g = true := by
  unfold rsV dgV at e
  split at e
  · rename_i h1
    split at e
    · split at e
      · rename_i h3
        split at e
        · rename_i h4
          have hr : kd = 1 ∨ alB q kd h = true := by
            unfold rqV at h1
            split at h1
            · split at h1
              · exact Or.inl ‹_›
              · split at h1
                · exact Or.inr ‹_›
                · omega
            · omega
          split at e
          · split at e
            · split at e
              · exact ⟨hr, h3, h4, Or.inr ‹_›, ‹_›⟩
              · omega
            · omega
          · rename_i h5
            split at e
            · exact ⟨hr, h3, h4, Or.inl (Bool.eq_false_iff.2 h5), ‹_›⟩
            · omega
        · omega
      · omega
    · omega
  · omega
theorem vn_ne {k : Int} (h : 1 ≤ k ∧ k ≤ 6) : (vnB k).size ≠ 0 := by
  rcases (show k = 1 ∨ k = 2 ∨ k = 3 ∨ k = 4 ∨ k = 5 ∨ k = 6 by omega) with rfl | rfl | rfl | rfl | rfl | rfl <;> (unfold vnB; decide)
theorem cgB_host {kd : Int} {h p f g : ByteArray} (e : cgB kd h p f g = true) : f = h := by
  unfold cgB at e
  split at e
  · split at e
    · cases e
    · split at e
      · assumption
      · cases e
  · cases e

set_option maxRecDepth 100000 in
set_option maxHeartbeats 8000000 in
theorem checks_walk (a_c : Option Addr) (len_c cap_c : Nat) (w : World) (hm : Max0 w) (htab : Lib.TabIs Tryz.prog w "internal/strconv.uint64pow10" .u64 Lib.pow10Tab) (r_c : CodeOk w.heap.size w (.slice a_c len_c cap_c) len_c) (hb_c : ¬ (1048576 : Int) < (len_c : Int)) :
    Calls Tryz.prog 3 #[.slice a_c len_c cap_c] w fun e w' => e = .returned (.bool true) ∧ Below w.heap.size w w' := by
  have HM := Lib.hid hm; have HT := Lib.hid (Lib.tabBelow_of_tabIs htab); clear hm htab
  have HCO := Lib.hid r_c; clear r_c
  go_enter Tryz.func3, Tryz.ntmps3
  go_wp2_with fail
  refine (big_no a_c len_c cap_c _ (by omega)).mono ?_
  rintro e w1 ⟨rfl, rfl⟩
  have HB := Lib.hid (Below.refl w.heap.size w)
  go_wp2_with fail
  refine (drawCr_any _ len_c _ HCO.out).mono ?_
  rintro e w2 ⟨bo, a1, n1, c1, a2, n2, c2, a3, n3, c3, xs, ys, zs, t, kd, h, p, f, g, st, xk, by', ag, sh, po, rfl, hrd, hq, hx, hb⟩
  replace HB := Lib.hid (HB.out.trans (hb.mono HB.out.size)); clear hb
  have HRz := Lib.hid hrd; have HQ := Lib.hid hq.ok; have HX := Lib.hid hx; clear hrd hq hx
  obtain ⟨V, hV⟩ : ∃ V, rsV (⟨bo, xs, ys, zs, t⟩ : Pol) kd h p f g st xk by' ag sh po = V := ⟨_, rfl⟩
  have hrg := rsV_rng (⟨bo, xs, ys, zs, t⟩ : Pol) kd h p f g st xk by' ag sh po; rw [hV] at hrg; have HV := Lib.hid hV; clear hV
  go_wp2_with fail
  obtain ⟨w3, hw⟩ : ∃ x, (((w2.alloc (.cells #[.bool bo, .slice a1 n1 c1, .slice a2 n2 c2, .slice a3 n3 c3, .string t] 26)).alloc (.cells #[.int .i64 kd, .string h, .string p, .string f, .string g] 30)).alloc (.cells #[.int .i64 st, .int .i64 xk, .string by', .int .i64 ag, .bool sh, .string po] 32)) = x := ⟨_, rfl⟩
  rw [hw]
  have hb : Below w2.heap.size w2 w3 := by rw [← hw]; exact (bl_aw (bl_aw (bl_aw (Below.refl _ _) _) _) _)
  have Xz := Lib.hid (show w3.heap[w2.heap.size]? = some (.cells #[.bool bo, .slice a1 n1 c1, .slice a2 n2 c2, .slice a3 n3 c3, .string t] 26 (0, 0)) by rw [← hw]; exact box3_0 _ _ _ _)
  have Xq := Lib.hid (show w3.heap[w2.heap.size + 1]? = some (.cells #[.int .i64 kd, .string h, .string p, .string f, .string g] 30 (0, 0)) by rw [← hw]; exact box3_1 _ _ _ _)
  have Xx := Lib.hid (show w3.heap[w2.heap.size + 1 + 1]? = some (.cells #[.int .i64 st, .int .i64 xk, .string by', .int .i64 ag, .bool sh, .string po] 32 (0, 0)) by rw [← hw]; exact box3_2 _ _ _ _)
  replace HRz := Lib.hid (ReadP.up HRz.out hb)
  replace HB := Lib.hid (HB.out.trans (hb.mono HB.out.size)); clear hb
  clear hw
  refine ((HV.out ▸ crs_impl bo xs ys zs t a1 n1 c1 a2 n2 c2 a3 n3 c3 kd h p f g st xk by' ag sh po HQ.out HX.out.2 (by have := HX.out.1; omega) _ HRz.out (HM.out.on HB.out) (HT.out _ HB.out))).mono ?_
  rintro e w4 ⟨rfl, hb⟩
  replace Xz := Lib.hid (below_heap hb (heap_lt Xz.out) Xz.out)
  replace Xq := Lib.hid (below_heap hb (heap_lt Xq.out) Xq.out)
  replace Xx := Lib.hid (below_heap hb (heap_lt Xx.out) Xx.out)
  replace HRz := Lib.hid (ReadP.up HRz.out hb)
  replace HB := Lib.hid (HB.out.trans (hb.mono HB.out.size)); clear hb
  obtain ⟨D, hD⟩ : ∃ D, decide (V = 1) = D := ⟨_, rfl⟩
  obtain ⟨T, hT⟩ : ∃ T, ubS V by' = T := ⟨_, rfl⟩
  have HD := Lib.hid hD; have HTT := Lib.hid hT; clear hD hT
  have yz0 := box_cell Xz.out (j := 0) rfl
  have yz1 := box_cell Xz.out (j := 1) rfl
  have yz2 := box_cell Xz.out (j := 2) rfl
  have yz3 := box_cell Xz.out (j := 3) rfl
  have yz4 := box_cell Xz.out (j := 4) rfl
  have yq0 := box_cell Xq.out (j := 0) rfl
  have yq1 := box_cell Xq.out (j := 1) rfl
  have yq2 := box_cell Xq.out (j := 2) rfl
  have yq3 := box_cell Xq.out (j := 3) rfl
  have yq4 := box_cell Xq.out (j := 4) rfl
  have yx0 := box_cell Xx.out (j := 0) rfl
  have yx1 := box_cell Xx.out (j := 1) rfl
  have yx2 := box_cell Xx.out (j := 2) rfl
  have yx3 := box_cell Xx.out (j := 3) rfl
  have yx4 := box_cell Xx.out (j := 4) rfl
  have yx5 := box_cell Xx.out (j := 5) rfl
  go_wp2_with fail
  refine ((HTT.out ▸ HD.out ▸ HV.out ▸ ub_impl bo xs ys zs t a1 n1 c1 a2 n2 c2 a3 n3 c3 kd h p f g st xk by' ag sh po HQ.out HX.out.2 (by have := HX.out.1; omega) _ HRz.out (HM.out.on HB.out) (HT.out _ HB.out))).mono ?_
  rintro e w5 ⟨rfl, hb⟩
  replace Xz := Lib.hid (below_heap hb (heap_lt Xz.out) Xz.out)
  replace Xq := Lib.hid (below_heap hb (heap_lt Xq.out) Xq.out)
  replace Xx := Lib.hid (below_heap hb (heap_lt Xx.out) Xx.out)
  replace HRz := Lib.hid (ReadP.up HRz.out hb)
  replace HB := Lib.hid (HB.out.trans (hb.mono HB.out.size)); clear hb
  clear yz0 yz1 yz2 yz3 yz4 yq0 yq1 yq2 yq3 yq4 yx0 yx1 yx2 yx3 yx4 yx5
  have yz0 := box_cell Xz.out (j := 0) rfl
  have yz1 := box_cell Xz.out (j := 1) rfl
  have yz2 := box_cell Xz.out (j := 2) rfl
  have yz3 := box_cell Xz.out (j := 3) rfl
  have yz4 := box_cell Xz.out (j := 4) rfl
  have yq0 := box_cell Xq.out (j := 0) rfl
  have yq1 := box_cell Xq.out (j := 1) rfl
  have yq2 := box_cell Xq.out (j := 2) rfl
  have yq3 := box_cell Xq.out (j := 3) rfl
  have yq4 := box_cell Xq.out (j := 4) rfl
  have yx0 := box_cell Xx.out (j := 0) rfl
  have yx1 := box_cell Xx.out (j := 1) rfl
  have yx2 := box_cell Xx.out (j := 2) rfl
  have yx3 := box_cell Xx.out (j := 3) rfl
  have yx4 := box_cell Xx.out (j := 4) rfl
  have yx5 := box_cell Xx.out (j := 5) rfl
  go_wp2_with fail
  refine ((HV.out ▸ crs_spec bo xs ys zs t a1 n1 c1 a2 n2 c2 a3 n3 c3 kd h p f g st xk by' ag sh po HQ.out HX.out.2 (by have := HX.out.1; omega) _ HRz.out)).mono ?_
  rintro e w6 ⟨rfl, hb⟩
  replace Xz := Lib.hid (below_heap hb (heap_lt Xz.out) Xz.out)
  replace Xq := Lib.hid (below_heap hb (heap_lt Xq.out) Xq.out)
  replace Xx := Lib.hid (below_heap hb (heap_lt Xx.out) Xx.out)
  replace HRz := Lib.hid (ReadP.up HRz.out hb)
  replace HB := Lib.hid (HB.out.trans (hb.mono HB.out.size)); clear hb
  clear yz0 yz1 yz2 yz3 yz4 yq0 yq1 yq2 yq3 yq4 yx0 yx1 yx2 yx3 yx4 yx5
  have eVV : (V == V) = true := beq_self_eq_true _; have eVN : (V != V) = false := bne_self_eq_false _
  by_cases h1 : V = 1
  · subst h1
    obtain rfl : D = true := by rw [← HD.out]; rfl
    obtain rfl : T = by' := by rw [← HTT.out]; rfl
    have eTT : (T.toList != T.toList) = false := bne_self_eq_false _
    clear hrg
    have yx0 := box_cell Xx.out (j := 0) rfl
    have yx1 := box_cell Xx.out (j := 1) rfl
    have yx2 := box_cell Xx.out (j := 2) rfl
    have yx3 := box_cell Xx.out (j := 3) rfl
    have yx4 := box_cell Xx.out (j := 4) rfl
    have yx5 := box_cell Xx.out (j := 5) rfl
    go_wp2_with fail
    refine (vn_impl 1 _).mono ?_
    rintro e w7 ⟨rfl, hg⟩
    have hb := hg.below; clear hg
    replace Xz := Lib.hid (below_heap hb (heap_lt Xz.out) Xz.out)
    replace Xq := Lib.hid (below_heap hb (heap_lt Xq.out) Xq.out)
    replace Xx := Lib.hid (below_heap hb (heap_lt Xx.out) Xx.out)
    replace HRz := Lib.hid (ReadP.up HRz.out hb)
    replace HB := Lib.hid (HB.out.trans (hb.mono HB.out.size)); clear hb
    clear yx0 yx1 yx2 yx3 yx4 yx5
    rw [show vnB 1 = ⟨#[111, 107]⟩ from rfl]
    have HW := Lib.hid (rsV_one HV.out); clear HV
    go_upto_region 10 with (fail)
    go_cut [131] from 75 to 131 (fun c wx => c = .bool false ∧ Below w7.heap.size w7 wx)
    case first =>
      have HAL := Lib.hid (fun (q : BelowBy w7) => (allows_impl bo xs ys zs t a1 n1 c1 a2 n2 c2 a3 n3 c3 kd h q.at' ((ReadP.up HRz.out q.hb))).mono fun _ _ h => And.imp_right Grw.below h)
      have HFT := Lib.hid (fun (q : BelowBy w7) => (fits_spec st xk T ag sh po kd q.at').mono fun _ _ h => And.imp_right Grw.below h)
      have HDG := Lib.hid (fun (q : BelowBy w7) => dig_spec T q.at' (by have := HX.out.1; omega)); have hbd := digN_bd T
      obtain ⟨N, hN⟩ : ∃ N, digN T = N := ⟨_, rfl⟩
      rw [hN] at HDG hbd
      have HFM := Lib.hid (fun (q : BelowBy w7) => fmt_spec N (by omega) (by omega) q.at')
      obtain ⟨w1, w2, w3, w4, w5⟩ := HW.out
      unfold chB at w5; rw [hN] at w5; clear hN hbd
      subst w2; rw [w3] at HFT; clear w3 HW
      have hne : Nonempty (BelowBy w7) := ⟨⟨w7, Below.refl _ _⟩⟩
      have cz0 := cell_below (w := w7) (heap_lt Xz.out) (show w7.cell? ⟨w2.heap.size, 0, none⟩ = some (.bool bo) from box_cell Xz.out (j := 0) rfl)
      have cz1 := cell_below (w := w7) (heap_lt Xz.out) (show w7.cell? ⟨w2.heap.size, 1, none⟩ = some (.slice a1 n1 c1) from box_cell Xz.out (j := 1) rfl)
      have cz2 := cell_below (w := w7) (heap_lt Xz.out) (show w7.cell? ⟨w2.heap.size, 2, none⟩ = some (.slice a2 n2 c2) from box_cell Xz.out (j := 2) rfl)
      have cz3 := cell_below (w := w7) (heap_lt Xz.out) (show w7.cell? ⟨w2.heap.size, 3, none⟩ = some (.slice a3 n3 c3) from box_cell Xz.out (j := 3) rfl)
      have cz4 := cell_below (w := w7) (heap_lt Xz.out) (show w7.cell? ⟨w2.heap.size, 4, none⟩ = some (.string t) from box_cell Xz.out (j := 4) rfl)
      have cq0 := cell_below (w := w7) (heap_lt Xq.out) (show w7.cell? ⟨w2.heap.size + 1, 0, none⟩ = some (.int .i64 kd) from box_cell Xq.out (j := 0) rfl)
      have cq1 := cell_below (w := w7) (heap_lt Xq.out) (show w7.cell? ⟨w2.heap.size + 1, 1, none⟩ = some (.string h) from box_cell Xq.out (j := 1) rfl)
      have cq2 := cell_below (w := w7) (heap_lt Xq.out) (show w7.cell? ⟨w2.heap.size + 1, 2, none⟩ = some (.string p) from box_cell Xq.out (j := 2) rfl)
      have cq3 := cell_below (w := w7) (heap_lt Xq.out) (show w7.cell? ⟨w2.heap.size + 1, 3, none⟩ = some (.string f) from box_cell Xq.out (j := 3) rfl)
      have cq4 := cell_below (w := w7) (heap_lt Xq.out) (show w7.cell? ⟨w2.heap.size + 1, 4, none⟩ = some (.string g) from box_cell Xq.out (j := 4) rfl)
      have cx0 := cell_below (w := w7) (heap_lt Xx.out) (show w7.cell? ⟨w2.heap.size + 1 + 1, 0, none⟩ = some (.int .i64 200) from box_cell Xx.out (j := 0) rfl)
      have cx1 := cell_below (w := w7) (heap_lt Xx.out) (show w7.cell? ⟨w2.heap.size + 1 + 1, 1, none⟩ = some (.int .i64 xk) from box_cell Xx.out (j := 1) rfl)
      have cx2 := cell_below (w := w7) (heap_lt Xx.out) (show w7.cell? ⟨w2.heap.size + 1 + 1, 2, none⟩ = some (.string T) from box_cell Xx.out (j := 2) rfl)
      have cx3 := cell_below (w := w7) (heap_lt Xx.out) (show w7.cell? ⟨w2.heap.size + 1 + 1, 3, none⟩ = some (.int .i64 ag) from box_cell Xx.out (j := 3) rfl)
      have cx4 := cell_below (w := w7) (heap_lt Xx.out) (show w7.cell? ⟨w2.heap.size + 1 + 1, 4, none⟩ = some (.bool sh) from box_cell Xx.out (j := 4) rfl)
      have cx5 := cell_below (w := w7) (heap_lt Xx.out) (show w7.cell? ⟨w2.heap.size + 1 + 1, 5, none⟩ = some (.string po) from box_cell Xx.out (j := 5) rfl)
      have hk : kd = 1 ∨ kd = 5 ∨ (kd ≠ 1 ∧ kd ≠ 5) := by omega
      have hg : (g.size = 0) ∨ (¬ g.size = 0 ∧ g = fmtS N) := by by_cases h0 : g.size = 0; exact Or.inl h0; exact Or.inr ⟨h0, by simpa [h0] using w5⟩
      clear w5
      rcases hk with rfl | rfl | ⟨k1, k5⟩
      · skip
        clear w1
        by_cases hf : f = h
        · skip
          have e5 : (f.toList == h.toList) = true := beqL_yes hf; have e6 : (f.toList != h.toList) = false := by rw [bne, e5]; rfl
          clear hf w4
          rcases hg with g0 | ⟨g0, rfl⟩
          · skip
            have e7 : (g.toList == []) = true := by rw [empQ_size, decide_eq_true g0]
            have e8 : (g.toList != []) = false := by rw [bne, e7]; rfl
            clear g0
            refine wp_region_quiet_below mixedD (by kernel_rfl) ?_
            repeat (go_big_quiet_step (first | (go_at_call 17; with_reducible refine Calls.below_of _ (HAL.out _)) | (go_at_call 18; with_reducible refine Calls.below_of _ (HFT.out _)) | (go_at_call 20; with_reducible refine Calls.below_of _ (HDG.out _)) | (go_at_call 19; with_reducible refine Calls.below_of _ (HFM.out _))))
            refine wpQuiet_nil ?_
            intro _ hw'; obtain ⟨⟨wy, hbz2⟩, hw''⟩ := hw'; subst hw''
            clear cz0 cz1 cz2 cz3 cz4 cq0 cq1 cq2 cq3 cq4 cx0 cx1 cx2 cx3 cx4 cx5
            go_wp2_with fail
            go_meet
            exact ⟨rfl, hbz2⟩
          · skip
            have e7 : ((fmtS N).toList == []) = false := by rw [empQ_size, decide_eq_false g0]
            have e8 : ((fmtS N).toList != []) = true := by rw [bne, e7]; rfl
            have e9 : ((fmtS N).toList != (fmtS N).toList) = false := bne_self_eq_false _
            clear g0
            refine wp_region_quiet_below mixedD (by kernel_rfl) ?_
            repeat (go_big_quiet_step (first | (go_at_call 17; with_reducible refine Calls.below_of _ (HAL.out _)) | (go_at_call 18; with_reducible refine Calls.below_of _ (HFT.out _)) | (go_at_call 20; with_reducible refine Calls.below_of _ (HDG.out _)) | (go_at_call 19; with_reducible refine Calls.below_of _ (HFM.out _))))
            refine wpQuiet_nil ?_
            intro _ hw'; obtain ⟨⟨wy, hbz2⟩, hw''⟩ := hw'; subst hw''
            clear cz0 cz1 cz2 cz3 cz4 cq0 cq1 cq2 cq3 cq4 cx0 cx1 cx2 cx3 cx4 cx5
            go_wp2_with fail
            go_meet
            exact ⟨rfl, hbz2⟩
        · skip
          have e5 : (f.toList == h.toList) = false := beqL_no hf; have e6 : (f.toList != h.toList) = true := by rw [bne, e5]; rfl
          clear hf w4
          rcases hg with g0 | ⟨g0, rfl⟩
          · skip
            have e7 : (g.toList == []) = true := by rw [empQ_size, decide_eq_true g0]
            have e8 : (g.toList != []) = false := by rw [bne, e7]; rfl
            clear g0
            refine wp_region_quiet_below mixedD (by kernel_rfl) ?_
            repeat (go_big_quiet_step (first | (go_at_call 17; with_reducible refine Calls.below_of _ (HAL.out _)) | (go_at_call 18; with_reducible refine Calls.below_of _ (HFT.out _)) | (go_at_call 20; with_reducible refine Calls.below_of _ (HDG.out _)) | (go_at_call 19; with_reducible refine Calls.below_of _ (HFM.out _))))
            refine wpQuiet_nil ?_
            intro _ hw'; obtain ⟨⟨wy, hbz2⟩, hw''⟩ := hw'; subst hw''
            clear cz0 cz1 cz2 cz3 cz4 cq0 cq1 cq2 cq3 cq4 cx0 cx1 cx2 cx3 cx4 cx5
            go_wp2_with fail
            go_meet
            exact ⟨rfl, hbz2⟩
          · skip
            have e7 : ((fmtS N).toList == []) = false := by rw [empQ_size, decide_eq_false g0]
            have e8 : ((fmtS N).toList != []) = true := by rw [bne, e7]; rfl
            have e9 : ((fmtS N).toList != (fmtS N).toList) = false := bne_self_eq_false _
            clear g0
            refine wp_region_quiet_below mixedD (by kernel_rfl) ?_
            repeat (go_big_quiet_step (first | (go_at_call 17; with_reducible refine Calls.below_of _ (HAL.out _)) | (go_at_call 18; with_reducible refine Calls.below_of _ (HFT.out _)) | (go_at_call 20; with_reducible refine Calls.below_of _ (HDG.out _)) | (go_at_call 19; with_reducible refine Calls.below_of _ (HFM.out _))))
            refine wpQuiet_nil ?_
            intro _ hw'; obtain ⟨⟨wy, hbz2⟩, hw''⟩ := hw'; subst hw''
            clear cz0 cz1 cz2 cz3 cz4 cq0 cq1 cq2 cq3 cq4 cx0 cx1 cx2 cx3 cx4 cx5
            go_wp2_with fail
            go_meet
            exact ⟨rfl, hbz2⟩
      · skip
        have hal : alB (⟨bo, xs, ys, zs, t⟩ : Pol) 5 h = true := by rcases w1 with w1 | w1; (omega); exact w1
        rw [hal] at HAL; clear hal w1
        by_cases hf : f = h
        · skip
          have e5 : (f.toList == h.toList) = true := beqL_yes hf; have e6 : (f.toList != h.toList) = false := by rw [bne, e5]; rfl
          clear hf w4
          rcases hg with g0 | ⟨g0, rfl⟩
          · skip
            have e7 : (g.toList == []) = true := by rw [empQ_size, decide_eq_true g0]
            have e8 : (g.toList != []) = false := by rw [bne, e7]; rfl
            clear g0
            refine wp_region_quiet_below mixedD (by kernel_rfl) ?_
            repeat (go_big_quiet_step (first | (go_at_call 17; with_reducible refine Calls.below_of _ (HAL.out _)) | (go_at_call 18; with_reducible refine Calls.below_of _ (HFT.out _)) | (go_at_call 20; with_reducible refine Calls.below_of _ (HDG.out _)) | (go_at_call 19; with_reducible refine Calls.below_of _ (HFM.out _))))
            refine wpQuiet_nil ?_
            intro _ hw'; obtain ⟨⟨wy, hbz2⟩, hw''⟩ := hw'; subst hw''
            clear cz0 cz1 cz2 cz3 cz4 cq0 cq1 cq2 cq3 cq4 cx0 cx1 cx2 cx3 cx4 cx5
            go_wp2_with fail
            go_meet
            exact ⟨rfl, hbz2⟩
          · skip
            have e7 : ((fmtS N).toList == []) = false := by rw [empQ_size, decide_eq_false g0]
            have e8 : ((fmtS N).toList != []) = true := by rw [bne, e7]; rfl
            have e9 : ((fmtS N).toList != (fmtS N).toList) = false := bne_self_eq_false _
            clear g0
            refine wp_region_quiet_below mixedD (by kernel_rfl) ?_
            repeat (go_big_quiet_step (first | (go_at_call 17; with_reducible refine Calls.below_of _ (HAL.out _)) | (go_at_call 18; with_reducible refine Calls.below_of _ (HFT.out _)) | (go_at_call 20; with_reducible refine Calls.below_of _ (HDG.out _)) | (go_at_call 19; with_reducible refine Calls.below_of _ (HFM.out _))))
            refine wpQuiet_nil ?_
            intro _ hw'; obtain ⟨⟨wy, hbz2⟩, hw''⟩ := hw'; subst hw''
            clear cz0 cz1 cz2 cz3 cz4 cq0 cq1 cq2 cq3 cq4 cx0 cx1 cx2 cx3 cx4 cx5
            go_wp2_with fail
            go_meet
            exact ⟨rfl, hbz2⟩
        · skip
          have e5 : (f.toList == h.toList) = false := beqL_no hf; have e6 : (f.toList != h.toList) = true := by rw [bne, e5]; rfl
          obtain rfl : sh = true := by rcases w4 with w4 | w4; (exact absurd w4 (by unfold shB; simp [hf])); exact w4
          clear hf w4
          rcases hg with g0 | ⟨g0, rfl⟩
          · skip
            have e7 : (g.toList == []) = true := by rw [empQ_size, decide_eq_true g0]
            have e8 : (g.toList != []) = false := by rw [bne, e7]; rfl
            clear g0
            refine wp_region_quiet_below mixedD (by kernel_rfl) ?_
            repeat (go_big_quiet_step (first | (go_at_call 17; with_reducible refine Calls.below_of _ (HAL.out _)) | (go_at_call 18; with_reducible refine Calls.below_of _ (HFT.out _)) | (go_at_call 20; with_reducible refine Calls.below_of _ (HDG.out _)) | (go_at_call 19; with_reducible refine Calls.below_of _ (HFM.out _))))
            refine wpQuiet_nil ?_
            intro _ hw'; obtain ⟨⟨wy, hbz2⟩, hw''⟩ := hw'; subst hw''
            clear cz0 cz1 cz2 cz3 cz4 cq0 cq1 cq2 cq3 cq4 cx0 cx1 cx2 cx3 cx4 cx5
            go_wp2_with fail
            go_meet
            exact ⟨rfl, hbz2⟩
          · skip
            have e7 : ((fmtS N).toList == []) = false := by rw [empQ_size, decide_eq_false g0]
            have e8 : ((fmtS N).toList != []) = true := by rw [bne, e7]; rfl
            have e9 : ((fmtS N).toList != (fmtS N).toList) = false := bne_self_eq_false _
            clear g0
            refine wp_region_quiet_below mixedD (by kernel_rfl) ?_
            repeat (go_big_quiet_step (first | (go_at_call 17; with_reducible refine Calls.below_of _ (HAL.out _)) | (go_at_call 18; with_reducible refine Calls.below_of _ (HFT.out _)) | (go_at_call 20; with_reducible refine Calls.below_of _ (HDG.out _)) | (go_at_call 19; with_reducible refine Calls.below_of _ (HFM.out _))))
            refine wpQuiet_nil ?_
            intro _ hw'; obtain ⟨⟨wy, hbz2⟩, hw''⟩ := hw'; subst hw''
            clear cz0 cz1 cz2 cz3 cz4 cq0 cq1 cq2 cq3 cq4 cx0 cx1 cx2 cx3 cx4 cx5
            go_wp2_with fail
            go_meet
            exact ⟨rfl, hbz2⟩
      · skip
        have hal : alB (⟨bo, xs, ys, zs, t⟩ : Pol) kd h = true := by rcases w1 with w1 | w1; (omega); exact w1
        rw [hal] at HAL; clear hal w1
        have e1 : (kd == 1) = false := beq_eq_false_iff_ne.2 k1; have e2 : (kd != 1) = true := by rw [bne, e1]; rfl
        have e3 : (kd == 5) = false := beq_eq_false_iff_ne.2 k5
        clear k1 k5
        by_cases hf : f = h
        · skip
          have e5 : (f.toList == h.toList) = true := beqL_yes hf; have e6 : (f.toList != h.toList) = false := by rw [bne, e5]; rfl
          clear hf w4
          rcases hg with g0 | ⟨g0, rfl⟩
          · skip
            have e7 : (g.toList == []) = true := by rw [empQ_size, decide_eq_true g0]
            have e8 : (g.toList != []) = false := by rw [bne, e7]; rfl
            clear g0
            refine wp_region_quiet_below mixedD (by kernel_rfl) ?_
            repeat (go_big_quiet_step (first | (go_at_call 17; with_reducible refine Calls.below_of _ (HAL.out _)) | (go_at_call 18; with_reducible refine Calls.below_of _ (HFT.out _)) | (go_at_call 20; with_reducible refine Calls.below_of _ (HDG.out _)) | (go_at_call 19; with_reducible refine Calls.below_of _ (HFM.out _))))
            refine wpQuiet_nil ?_
            intro _ hw'; obtain ⟨⟨wy, hbz2⟩, hw''⟩ := hw'; subst hw''
            clear cz0 cz1 cz2 cz3 cz4 cq0 cq1 cq2 cq3 cq4 cx0 cx1 cx2 cx3 cx4 cx5
            go_wp2_with fail
            go_meet
            exact ⟨rfl, hbz2⟩
          · skip
            have e7 : ((fmtS N).toList == []) = false := by rw [empQ_size, decide_eq_false g0]
            have e8 : ((fmtS N).toList != []) = true := by rw [bne, e7]; rfl
            have e9 : ((fmtS N).toList != (fmtS N).toList) = false := bne_self_eq_false _
            clear g0
            refine wp_region_quiet_below mixedD (by kernel_rfl) ?_
            repeat (go_big_quiet_step (first | (go_at_call 17; with_reducible refine Calls.below_of _ (HAL.out _)) | (go_at_call 18; with_reducible refine Calls.below_of _ (HFT.out _)) | (go_at_call 20; with_reducible refine Calls.below_of _ (HDG.out _)) | (go_at_call 19; with_reducible refine Calls.below_of _ (HFM.out _))))
            refine wpQuiet_nil ?_
            intro _ hw'; obtain ⟨⟨wy, hbz2⟩, hw''⟩ := hw'; subst hw''
            clear cz0 cz1 cz2 cz3 cz4 cq0 cq1 cq2 cq3 cq4 cx0 cx1 cx2 cx3 cx4 cx5
            go_wp2_with fail
            go_meet
            exact ⟨rfl, hbz2⟩
        · skip
          have e5 : (f.toList == h.toList) = false := beqL_no hf; have e6 : (f.toList != h.toList) = true := by rw [bne, e5]; rfl
          clear hf w4
          rcases hg with g0 | ⟨g0, rfl⟩
          · skip
            have e7 : (g.toList == []) = true := by rw [empQ_size, decide_eq_true g0]
            have e8 : (g.toList != []) = false := by rw [bne, e7]; rfl
            clear g0
            refine wp_region_quiet_below mixedD (by kernel_rfl) ?_
            repeat (go_big_quiet_step (first | (go_at_call 17; with_reducible refine Calls.below_of _ (HAL.out _)) | (go_at_call 18; with_reducible refine Calls.below_of _ (HFT.out _)) | (go_at_call 20; with_reducible refine Calls.below_of _ (HDG.out _)) | (go_at_call 19; with_reducible refine Calls.below_of _ (HFM.out _))))
            refine wpQuiet_nil ?_
            intro _ hw'; obtain ⟨⟨wy, hbz2⟩, hw''⟩ := hw'; subst hw''
            clear cz0 cz1 cz2 cz3 cz4 cq0 cq1 cq2 cq3 cq4 cx0 cx1 cx2 cx3 cx4 cx5
            go_wp2_with fail
            go_meet
            exact ⟨rfl, hbz2⟩
          · skip
            have e7 : ((fmtS N).toList == []) = false := by rw [empQ_size, decide_eq_false g0]
            have e8 : ((fmtS N).toList != []) = true := by rw [bne, e7]; rfl
            have e9 : ((fmtS N).toList != (fmtS N).toList) = false := bne_self_eq_false _
            clear g0
            refine wp_region_quiet_below mixedD (by kernel_rfl) ?_
            repeat (go_big_quiet_step (first | (go_at_call 17; with_reducible refine Calls.below_of _ (HAL.out _)) | (go_at_call 18; with_reducible refine Calls.below_of _ (HFT.out _)) | (go_at_call 20; with_reducible refine Calls.below_of _ (HDG.out _)) | (go_at_call 19; with_reducible refine Calls.below_of _ (HFM.out _))))
            refine wpQuiet_nil ?_
            intro _ hw'; obtain ⟨⟨wy, hbz2⟩, hw''⟩ := hw'; subst hw''
            clear cz0 cz1 cz2 cz3 cz4 cq0 cq1 cq2 cq3 cq4 cx0 cx1 cx2 cx3 cx4 cx5
            go_wp2_with fail
            go_meet
            exact ⟨rfl, hbz2⟩
    obtain ⟨rfl, hb⟩ := hcut
    rename World => wc
    replace Xz := Lib.hid (below_heap hb (heap_lt Xz.out) Xz.out)
    replace Xq := Lib.hid (below_heap hb (heap_lt Xq.out) Xq.out)
    replace Xx := Lib.hid (below_heap hb (heap_lt Xx.out) Xx.out)
    replace HB := Lib.hid (HB.out.trans (hb.mono HB.out.size)); clear hb
    clear HRz HQ HX HW HM HT
    go_wp2_with fail
    refine (drawSame_any _ len_c _ (codeOk_later HCO.out HB.out)).mono ?_
    rintro e w13 ⟨kd1, h1, p1, f1, g1, kd2, h2, p2, f2, g2, rfl, hq1, hq2, hb⟩
    replace HB := Lib.hid (HB.out.trans (hb.mono HB.out.size)); clear hb
    clear hq1 hq2
    go_wp2_with fail
    obtain ⟨w14, hw⟩ : ∃ x, ((w13.alloc (.cells #[.int .i64 kd1, .string h1, .string p1, .string f1, .string g1] 30)).alloc (.cells #[.int .i64 kd2, .string h2, .string p2, .string f2, .string g2] 30)) = x := ⟨_, rfl⟩
    rw [hw]
    have hb : Below w13.heap.size w13 w14 := by rw [← hw]; exact (bl_aw (bl_aw (Below.refl _ _) _) _)
    have Xa := Lib.hid (show w14.heap[w13.heap.size]? = some (.cells #[.int .i64 kd1, .string h1, .string p1, .string f1, .string g1] 30 (0, 0)) by rw [← hw]; exact box2_0 _ _ _)
    have Xb := Lib.hid (show w14.heap[w13.heap.size + 1]? = some (.cells #[.int .i64 kd2, .string h2, .string p2, .string f2, .string g2] 30 (0, 0)) by rw [← hw]; exact box2_1 _ _ _)
    replace HB := Lib.hid (HB.out.trans (hb.mono HB.out.size)); clear hb
    clear hw
    refine (drawCanG_any _ len_c _ (codeOk_later HCO.out HB.out)).mono ?_
    rintro e w15 ⟨kd3, h3, p3, f3, g3, rfl, hq3, hb⟩
    replace Xa := Lib.hid (below_heap hb (heap_lt Xa.out) Xa.out)
    replace Xb := Lib.hid (below_heap hb (heap_lt Xb.out) Xb.out)
    replace HB := Lib.hid (HB.out.trans (hb.mono HB.out.size)); clear hb
    have HQ3 := Lib.hid hq3.ok; clear hq3
    go_upto_region 14 with (fail)
    obtain ⟨w16, hw⟩ : ∃ x, (w15.alloc (.cells #[.int .i64 kd3, .string h3, .string p3, .string f3, .string g3] 30)) = x := ⟨_, rfl⟩
    rw [hw]
    have hb : Below w15.heap.size w15 w16 := by rw [← hw]; exact (bl_aw (Below.refl _ _) _)
    have Xc := Lib.hid (show w16.heap[w15.heap.size]? = some (.cells #[.int .i64 kd3, .string h3, .string p3, .string f3, .string g3] 30 (0, 0)) by rw [← hw]; exact heap_alloc_new w15 _)
    replace Xa := Lib.hid (below_heap hb (heap_lt Xa.out) Xa.out)
    replace Xb := Lib.hid (below_heap hb (heap_lt Xb.out) Xb.out)
    replace HB := Lib.hid (HB.out.trans (hb.mono HB.out.size)); clear hb
    clear hw
    have hne : Nonempty (BelowBy w16) := ⟨⟨w16, Below.refl _ _⟩⟩
    have ca0 := cell_below (w := w16) (heap_lt Xa.out) (show w16.cell? ⟨w13.heap.size, 0, none⟩ = some (.int .i64 kd1) from box_cell Xa.out (j := 0) rfl)
    have ca1 := cell_below (w := w16) (heap_lt Xa.out) (show w16.cell? ⟨w13.heap.size, 1, none⟩ = some (.string h1) from box_cell Xa.out (j := 1) rfl)
    have ca2 := cell_below (w := w16) (heap_lt Xa.out) (show w16.cell? ⟨w13.heap.size, 2, none⟩ = some (.string p1) from box_cell Xa.out (j := 2) rfl)
    have ca3 := cell_below (w := w16) (heap_lt Xa.out) (show w16.cell? ⟨w13.heap.size, 3, none⟩ = some (.string f1) from box_cell Xa.out (j := 3) rfl)
    have ca4 := cell_below (w := w16) (heap_lt Xa.out) (show w16.cell? ⟨w13.heap.size, 4, none⟩ = some (.string g1) from box_cell Xa.out (j := 4) rfl)
    have cb0 := cell_below (w := w16) (heap_lt Xb.out) (show w16.cell? ⟨w13.heap.size + 1, 0, none⟩ = some (.int .i64 kd2) from box_cell Xb.out (j := 0) rfl)
    have cb1 := cell_below (w := w16) (heap_lt Xb.out) (show w16.cell? ⟨w13.heap.size + 1, 1, none⟩ = some (.string h2) from box_cell Xb.out (j := 1) rfl)
    have cb2 := cell_below (w := w16) (heap_lt Xb.out) (show w16.cell? ⟨w13.heap.size + 1, 2, none⟩ = some (.string p2) from box_cell Xb.out (j := 2) rfl)
    have cb3 := cell_below (w := w16) (heap_lt Xb.out) (show w16.cell? ⟨w13.heap.size + 1, 3, none⟩ = some (.string f2) from box_cell Xb.out (j := 3) rfl)
    have cb4 := cell_below (w := w16) (heap_lt Xb.out) (show w16.cell? ⟨w13.heap.size + 1, 4, none⟩ = some (.string g2) from box_cell Xb.out (j := 4) rfl)
    have cc0 := cell_below (w := w16) (heap_lt Xc.out) (show w16.cell? ⟨w15.heap.size, 0, none⟩ = some (.int .i64 kd3) from box_cell Xc.out (j := 0) rfl)
    have cc1 := cell_below (w := w16) (heap_lt Xc.out) (show w16.cell? ⟨w15.heap.size, 1, none⟩ = some (.string h3) from box_cell Xc.out (j := 1) rfl)
    have cc2 := cell_below (w := w16) (heap_lt Xc.out) (show w16.cell? ⟨w15.heap.size, 2, none⟩ = some (.string p3) from box_cell Xc.out (j := 2) rfl)
    have cc3 := cell_below (w := w16) (heap_lt Xc.out) (show w16.cell? ⟨w15.heap.size, 3, none⟩ = some (.string f3) from box_cell Xc.out (j := 3) rfl)
    have cc4 := cell_below (w := w16) (heap_lt Xc.out) (show w16.cell? ⟨w15.heap.size, 4, none⟩ = some (.string g3) from box_cell Xc.out (j := 4) rfl)
    have HSM := Lib.hid (fun (q : BelowBy w16) => (sm_impl kd1 h1 p1 f1 g1 kd2 h2 p2 f2 g2 q.at').mono fun _ _ h => And.imp_right Grw.below h)
    have HCI := Lib.hid (fun (q : BelowBy w16) => cg_impl kd3 h3 p3 f3 g3 HQ3.out q.at'); have HCS := Lib.hid (fun (q : BelowBy w16) => cg_spec kd3 h3 p3 f3 g3 HQ3.out q.at')
    clear HCO HQ3
    by_cases dh : h1 = h2
    · have e1 : (h1.toList == h2.toList) = true := beqL_yes dh
      by_cases dp : p1 = p2
      · have e2 : (p1.toList == p2.toList) = true := beqL_yes dp
        by_cases df : f1 = f2
        · have e3 : (f1.toList == f2.toList) = true := beqL_yes df
          have hsm : smB h1 p1 f1 h2 p2 f2 = true := by unfold smB; simp [dh, dp, df]
          rw [hsm] at HSM; clear hsm dh dp df
          cases hg : cgB kd3 h3 p3 f3 g3 with
          | false =>
            rw [hg] at HCI HCS; clear hg
            refine wp_region_quiet_below mixedD (by kernel_rfl) ?_
            repeat (go_big_quiet_step (first | (go_at_call 23; with_reducible refine Calls.below_of _ (HSM.out _)) | (go_at_call 24; with_reducible refine Calls.below_of _ (HCI.out _)) | (go_at_call 25; with_reducible refine Calls.below_of _ (HCS.out _))))
            refine wpQuiet_nil ?_
            intro _ hw'; obtain ⟨⟨wy, hbz2⟩, hw''⟩ := hw'; subst hw''
            clear ca0 ca1 ca2 ca3 ca4 cb0 cb1 cb2 cb3 cb4 cc0 cc1 cc2 cc3 cc4
            go_wp2_with fail
            go_ret
            exact ⟨rfl, HB.out.trans (hbz2.mono HB.out.size)⟩
          | true =>
            have hfh := cgB_host hg; rw [hg] at HCI HCS; clear hg
            have e6 : (h3.toList == f3.toList) = true := beqL_yes hfh.symm
            clear hfh
            refine wp_region_quiet_below mixedD (by kernel_rfl) ?_
            repeat (go_big_quiet_step (first | (go_at_call 23; with_reducible refine Calls.below_of _ (HSM.out _)) | (go_at_call 24; with_reducible refine Calls.below_of _ (HCI.out _)) | (go_at_call 25; with_reducible refine Calls.below_of _ (HCS.out _))))
            refine wpQuiet_nil ?_
            intro _ hw'; obtain ⟨⟨wy, hbz2⟩, hw''⟩ := hw'; subst hw''
            clear ca0 ca1 ca2 ca3 ca4 cb0 cb1 cb2 cb3 cb4 cc0 cc1 cc2 cc3 cc4
            go_wp2_with fail
            go_ret
            exact ⟨rfl, HB.out.trans (hbz2.mono HB.out.size)⟩
        · have e3 : (f1.toList == f2.toList) = false := beqL_no df
          have hsm : smB h1 p1 f1 h2 p2 f2 = false := by unfold smB; simp [dh, dp, df]
          rw [hsm] at HSM; clear hsm dh dp df
          cases hg : cgB kd3 h3 p3 f3 g3 with
          | false =>
            rw [hg] at HCI HCS; clear hg
            refine wp_region_quiet_below mixedD (by kernel_rfl) ?_
            repeat (go_big_quiet_step (first | (go_at_call 23; with_reducible refine Calls.below_of _ (HSM.out _)) | (go_at_call 24; with_reducible refine Calls.below_of _ (HCI.out _)) | (go_at_call 25; with_reducible refine Calls.below_of _ (HCS.out _))))
            refine wpQuiet_nil ?_
            intro _ hw'; obtain ⟨⟨wy, hbz2⟩, hw''⟩ := hw'; subst hw''
            clear ca0 ca1 ca2 ca3 ca4 cb0 cb1 cb2 cb3 cb4 cc0 cc1 cc2 cc3 cc4
            go_wp2_with fail
            go_ret
            exact ⟨rfl, HB.out.trans (hbz2.mono HB.out.size)⟩
          | true =>
            have hfh := cgB_host hg; rw [hg] at HCI HCS; clear hg
            have e6 : (h3.toList == f3.toList) = true := beqL_yes hfh.symm
            clear hfh
            refine wp_region_quiet_below mixedD (by kernel_rfl) ?_
            repeat (go_big_quiet_step (first | (go_at_call 23; with_reducible refine Calls.below_of _ (HSM.out _)) | (go_at_call 24; with_reducible refine Calls.below_of _ (HCI.out _)) | (go_at_call 25; with_reducible refine Calls.below_of _ (HCS.out _))))
            refine wpQuiet_nil ?_
            intro _ hw'; obtain ⟨⟨wy, hbz2⟩, hw''⟩ := hw'; subst hw''
            clear ca0 ca1 ca2 ca3 ca4 cb0 cb1 cb2 cb3 cb4 cc0 cc1 cc2 cc3 cc4
            go_wp2_with fail
            go_ret
            exact ⟨rfl, HB.out.trans (hbz2.mono HB.out.size)⟩
      · have e2 : (p1.toList == p2.toList) = false := beqL_no dp
        have hsm : smB h1 p1 f1 h2 p2 f2 = false := by unfold smB; simp [dh, dp]
        rw [hsm] at HSM; clear hsm dh dp
        cases hg : cgB kd3 h3 p3 f3 g3 with
        | false =>
          rw [hg] at HCI HCS; clear hg
          refine wp_region_quiet_below mixedD (by kernel_rfl) ?_
          repeat (go_big_quiet_step (first | (go_at_call 23; with_reducible refine Calls.below_of _ (HSM.out _)) | (go_at_call 24; with_reducible refine Calls.below_of _ (HCI.out _)) | (go_at_call 25; with_reducible refine Calls.below_of _ (HCS.out _))))
          refine wpQuiet_nil ?_
          intro _ hw'; obtain ⟨⟨wy, hbz2⟩, hw''⟩ := hw'; subst hw''
          clear ca0 ca1 ca2 ca3 ca4 cb0 cb1 cb2 cb3 cb4 cc0 cc1 cc2 cc3 cc4
          go_wp2_with fail
          go_ret
          exact ⟨rfl, HB.out.trans (hbz2.mono HB.out.size)⟩
        | true =>
          have hfh := cgB_host hg; rw [hg] at HCI HCS; clear hg
          have e6 : (h3.toList == f3.toList) = true := beqL_yes hfh.symm
          clear hfh
          refine wp_region_quiet_below mixedD (by kernel_rfl) ?_
          repeat (go_big_quiet_step (first | (go_at_call 23; with_reducible refine Calls.below_of _ (HSM.out _)) | (go_at_call 24; with_reducible refine Calls.below_of _ (HCI.out _)) | (go_at_call 25; with_reducible refine Calls.below_of _ (HCS.out _))))
          refine wpQuiet_nil ?_
          intro _ hw'; obtain ⟨⟨wy, hbz2⟩, hw''⟩ := hw'; subst hw''
          clear ca0 ca1 ca2 ca3 ca4 cb0 cb1 cb2 cb3 cb4 cc0 cc1 cc2 cc3 cc4
          go_wp2_with fail
          go_ret
          exact ⟨rfl, HB.out.trans (hbz2.mono HB.out.size)⟩
    · have e1 : (h1.toList == h2.toList) = false := beqL_no dh
      have hsm : smB h1 p1 f1 h2 p2 f2 = false := by unfold smB; simp [dh]
      rw [hsm] at HSM; clear hsm dh
      cases hg : cgB kd3 h3 p3 f3 g3 with
      | false =>
        rw [hg] at HCI HCS; clear hg
        refine wp_region_quiet_below mixedD (by kernel_rfl) ?_
        repeat (go_big_quiet_step (first | (go_at_call 23; with_reducible refine Calls.below_of _ (HSM.out _)) | (go_at_call 24; with_reducible refine Calls.below_of _ (HCI.out _)) | (go_at_call 25; with_reducible refine Calls.below_of _ (HCS.out _))))
        refine wpQuiet_nil ?_
        intro _ hw'; obtain ⟨⟨wy, hbz2⟩, hw''⟩ := hw'; subst hw''
        clear ca0 ca1 ca2 ca3 ca4 cb0 cb1 cb2 cb3 cb4 cc0 cc1 cc2 cc3 cc4
        go_wp2_with fail
        go_ret
        exact ⟨rfl, HB.out.trans (hbz2.mono HB.out.size)⟩
      | true =>
        have hfh := cgB_host hg; rw [hg] at HCI HCS; clear hg
        have e6 : (h3.toList == f3.toList) = true := beqL_yes hfh.symm
        clear hfh
        refine wp_region_quiet_below mixedD (by kernel_rfl) ?_
        repeat (go_big_quiet_step (first | (go_at_call 23; with_reducible refine Calls.below_of _ (HSM.out _)) | (go_at_call 24; with_reducible refine Calls.below_of _ (HCI.out _)) | (go_at_call 25; with_reducible refine Calls.below_of _ (HCS.out _))))
        refine wpQuiet_nil ?_
        intro _ hw'; obtain ⟨⟨wy, hbz2⟩, hw''⟩ := hw'; subst hw''
        clear ca0 ca1 ca2 ca3 ca4 cb0 cb1 cb2 cb3 cb4 cc0 cc1 cc2 cc3 cc4
        go_wp2_with fail
        go_ret
        exact ⟨rfl, HB.out.trans (hbz2.mono HB.out.size)⟩
  · have d1 : (V == 1) = false := beq_eq_false_iff_ne.2 h1
    obtain rfl : D = false := by rw [← HD.out]; exact decide_eq_false h1
    obtain rfl : T = ⟨#[]⟩ := by rw [← HTT.out]; unfold ubS; rw [if_neg h1]
    have hvn := vn_ne (k := V) hrg; clear hrg
    obtain ⟨S, hS⟩ : ∃ S, vnB V = S := ⟨_, rfl⟩
    have HVN := Lib.hid (fun X => hS ▸ vn_impl V X)
    rw [hS] at hvn; clear hS
    have e7 : (S.toList == []) = false := by rw [empQ_size, decide_eq_false hvn]
    clear hvn h1
    have yx0 := box_cell Xx.out (j := 0) rfl
    have yx1 := box_cell Xx.out (j := 1) rfl
    have yx2 := box_cell Xx.out (j := 2) rfl
    have yx3 := box_cell Xx.out (j := 3) rfl
    have yx4 := box_cell Xx.out (j := 4) rfl
    have yx5 := box_cell Xx.out (j := 5) rfl
    go_wp2_with fail
    refine (HVN.out _).mono ?_
    rintro e w7 ⟨rfl, hg⟩
    have hb := hg.below; clear hg
    replace Xz := Lib.hid (below_heap hb (heap_lt Xz.out) Xz.out)
    replace Xq := Lib.hid (below_heap hb (heap_lt Xq.out) Xq.out)
    replace Xx := Lib.hid (below_heap hb (heap_lt Xx.out) Xx.out)
    replace HRz := Lib.hid (ReadP.up HRz.out hb)
    replace HB := Lib.hid (HB.out.trans (hb.mono HB.out.size)); clear hb
    clear yx0 yx1 yx2 yx3 yx4 yx5
    have yz0 := box_cell Xz.out (j := 0) rfl
    have yz1 := box_cell Xz.out (j := 1) rfl
    have yz2 := box_cell Xz.out (j := 2) rfl
    have yz3 := box_cell Xz.out (j := 3) rfl
    have yz4 := box_cell Xz.out (j := 4) rfl
    have yq0 := box_cell Xq.out (j := 0) rfl
    have yq1 := box_cell Xq.out (j := 1) rfl
    have yq2 := box_cell Xq.out (j := 2) rfl
    have yq3 := box_cell Xq.out (j := 3) rfl
    have yq4 := box_cell Xq.out (j := 4) rfl
    go_wp2_with fail
    refine (chQ_impl bo xs ys zs t a1 n1 c1 a2 n2 c2 a3 n3 c3 kd h p f g HQ.out _ HRz.out).mono ?_
    rintro e w8 ⟨rfl, hb⟩
    replace Xz := Lib.hid (below_heap hb (heap_lt Xz.out) Xz.out)
    replace Xq := Lib.hid (below_heap hb (heap_lt Xq.out) Xq.out)
    replace Xx := Lib.hid (below_heap hb (heap_lt Xx.out) Xx.out)
    replace HRz := Lib.hid (ReadP.up HRz.out hb)
    replace HB := Lib.hid (HB.out.trans (hb.mono HB.out.size)); clear hb
    clear yz0 yz1 yz2 yz3 yz4 yq0 yq1 yq2 yq3 yq4
    obtain r1 | r1 := rqV_or (⟨bo, xs, ys, zs, t⟩ : Pol) kd h p f g
    · rw [r1]; clear r1
      go_wp2_with fail
      go_ret
      exact ⟨rfl, HB.out⟩
    · have hv2 : V = 2 := by rw [← HV.out]; unfold rsV; rw [if_neg (by rw [r1]; omega)]
      rw [r1]; clear r1
      subst hv2
      go_wp2_with fail
      go_ret
      exact ⟨rfl, HB.out⟩

end Go.Proofs.YtkjjiinccljhjaaGreatDoor
namespace Go.Proofs.YtkjjiinccljhjaaGreatDoor
open Go.ChangeShapes Go.WideShapes Go.ChangeAt Go.RowKit

set_option maxRecDepth 100000 in
theorem checks_all (a : Option Addr) (len cap : Nat) (zs : List Int) (w : World) (hm : Max0 w) (htab : Lib.TabIs Tryz.prog w "internal/strconv.uint64pow10" .u64 Lib.pow10Tab) (h : IsRow .u8 w a len cap zs) :
    Calls Tryz.prog 3 #[.slice a len cap] w fun e w' => e = .returned (.bool true) ∧ Below w.heap.size w w' := by
  by_cases hb : (1048576 : Int) < (len : Int)
  · go_enter Tryz.func3, Tryz.ntmps3
    go_wp2_with fail
    refine (big_yes a len cap _ hb).mono ?_
    rintro e w1 ⟨rfl, rfl⟩
    go_wp2
    go_ret
    exact ⟨rfl, Below.refl _ _⟩
  · exact checks_walk a len cap w hm htab (code_of_row h (by omega)) hb

end Go.Proofs.YtkjjiinccljhjaaGreatDoor
namespace Go.Proofs.YtkjjiinccljhjaaGreatDoor
open Go.ChangeShapes Go.WideShapes Go.ChangeAt Go.RowKit

theorem gPow : Tryz.prog.globalNamed "internal/strconv.uint64pow10" = some 1 := by kernel_rfl
theorem tPow : (Tryz.prog.globals[1]?).map (·.type) = some 276 := by kernel_rfl
theorem powData {H : Type} : (Rows.laid_internal_strconv_uint64pow10 : DataW H) = Lib.tabData .u64 Lib.pow10Tab := by rfl
theorem powTab {rest : List (String × DataW Unit)} {W : World} (h : laidMet Tryz.prog (("internal/strconv.uint64pow10", Rows.laid_internal_strconv_uint64pow10) :: rest) W) : Lib.TabIs Tryz.prog W "internal/strconv.uint64pow10" .u64 Lib.pow10Tab := by
  rw [powData] at h
  exact Lib.tabIs_of_head gPow tPow Tryz.underlying276 Tryz.underlying263 (by kernel_rfl) (by kernel_rfl) h

def laid3 : List (String × DataW Unit) := [("math/bits.deBruijn32tab", Rows.laid_math_bits_deBruijn32tab), ("math/bits.deBruijn64tab", Rows.laid_math_bits_deBruijn64tab), ("internal/strconv.uint64pow10", Rows.laid_internal_strconv_uint64pow10)]
theorem plain3 {W : World} (h : laidMetH Tryz.prog laid3 W) : laidMet Tryz.prog laid3 W := by
  rw [MakeChecks.laidMetH_plain _ _ _ (by kernel_rfl)] at h; exact h
theorem tab_of_laid3 {W : World} (h : laidMetH Tryz.prog laid3 W) : Lib.TabIs Tryz.prog W "internal/strconv.uint64pow10" .u64 Lib.pow10Tab := powTab (plain3 h).tail.tail

end Go.Proofs.YtkjjiinccljhjaaGreatDoor
namespace Go.Proofs.YtkjjiinccljhjaaGreatDoor
open Go.ChangeShapes Go.WideShapes Go.ChangeAt Go.RowKit

def laid5 : List (String × DataW Unit) := [("math/bits.deBruijn32tab", Rows.laid_math_bits_deBruijn32tab), ("math/bits.deBruijn64tab", Rows.laid_math_bits_deBruijn64tab), ("internal/strconv.uint64pow10", Rows.laid_internal_strconv_uint64pow10), ("unicode/utf8.acceptRanges", Rows.laid_unicode_utf8_acceptRanges), ("unicode/utf8.first", Rows.laid_unicode_utf8_first)]
theorem plain5 {W : World} (h : laidMetH Tryz.prog laid5 W) : laidMet Tryz.prog laid5 W := by
  rw [MakeChecks.laidMetH_plain _ _ _ (by kernel_rfl)] at h; exact h
theorem tab_of_laid5 {W : World} (h : laidMetH Tryz.prog laid5 W) : Lib.TabIs Tryz.prog W "internal/strconv.uint64pow10" .u64 Lib.pow10Tab := powTab (plain5 h).tail.tail

end Go.Proofs.YtkjjiinccljhjaaGreatDoor
namespace Go.Proofs.YtkjjiinccljhjaaGreatDoor
theorem handed_both {H : Type} {enc : TypeId × Value → H} {a : Assume} {C : Checked} {os : Os} {f : FuncId} {fn : Func} {s : ChangeSpec} {conds : List PathCond} {apart fresh handsOn again : Bool} {X : World → Array Value → Prop}
    (keepX : ∀ (u v : World) (xs : Array Value), u.heap = v.heap → X u xs → X v xs) (hown : ownKnob C.prog.godebug = none) (hst : os.Started) (hni : C.prog.inits.idxOf? f = none) (hf : C.prog.funcs[f]? = some fn)
    (some_fits : ∃ (w : World) (tape : Tape) (i : Input), w.os = os ∧ (w.forCall tape i).Shaped C.prog ∧ i.vars = [] ∧ Input.okWide C.prog (w.forCall tape i) .any w.heap.size f i ∧
      ((s.pre enc C.prog fn conds apart (w.forCall tape i).memory i.args ∧ X (w.forCall tape i).memory i.args) ∧ sizedMet enc C.prog fn (OpenSpec.ofChange s) apart (w.forCall tape i).memory i.args) ∧ a.holds C.prog (lone (Frame.enter C.prog f i.args .normal) [] (w.forCall tape i)))
    (walk : ∀ (W : World) (base : Nat) (args : Array Value) (ds gs : List (DataW H)) (before : List MemPlace),
      (∀ (j : Nat) t v, fn.params[j]? = some t → args[j]? = some v → Value.okWide C.prog W .any base t v) →
      DataW.Whole enc C.prog fn.params.toList s.vars apart W args.toList ds gs before → X W args → W.ShapedOpen C.prog →
      Calls C.prog f args W fun e W' => ∃ v, e = .returned v ∧ s.post enc C.prog fn apart fresh handsOn again W args v W') :
    ReturnsInHanded a C os f .any (fun w args => (s.pre enc C.prog fn conds apart w args ∧ X w args) ∧ sizedMet enc C.prog fn (OpenSpec.ofChange s) apart w args) (s.post enc C.prog fn apart fresh handsOn again) := by
  refine returnsInHanded_of_calls hown hst hni some_fits fun w tape i _ shape _ fits met _ => ?_
  obtain ⟨_, _, _, g, hg, _, _, _, _, each⟩ := fits
  obtain rfl : g = fn := Option.some.inj (hg.symm.trans hf)
  obtain ⟨⟨⟨ds, gs, before, whole, _⟩, x0⟩, _⟩ := met
  refine (walk (w.forCall tape i) w.heap.size i.args ds gs before each (DataW.Whole.of_heap (w' := w.forCall tape i) (by rfl) whole) (keepX _ _ _ (by rfl) x0) shape).mono ?_
  rintro e W' ⟨v, rfl, hp⟩
  exact ChangeSpec.post_blind hp

end Go.Proofs.YtkjjiinccljhjaaGreatDoor
