/- Helper contracts: VerdictName, SameRequest, CanGuess of the program and of the model answer alike. Asked: strings are shorter than 2^63 bytes. -/
import Derived.Test.YtkjjiinccljhjaaRqA
namespace Go.Proofs.Ytkjjiinccljhjaa
open Go.ChangeShapes Go.WideShapes Go.ChangeAt Go.RowKit

/-- VerdictName. -/
def vnB (k : Int) : ByteArray := if k = 1 then ⟨#[111, 107]⟩ else if k = 2 then ⟨#[112, 111, 108, 105, 99, 121]⟩ else if k = 3 then ⟨#[115, 116, 97, 116, 117, 115]⟩ else if k = 4 then ⟨#[107, 105, 110, 100]⟩ else if k = 5 then ⟨#[115, 104, 97, 114, 101]⟩ else if k = 6 then ⟨#[100, 105, 103, 101, 115, 116]⟩ else ⟨#[]⟩
set_option maxRecDepth 100000 in
set_option maxHeartbeats 2000000 in
theorem vn_spec (k : Int) (w : World) : Calls Try.prog 17 #[.int .i64 k] w fun e w' => e = .returned (.string (vnB k)) ∧ Grw w w' := by
  rcases (show k = 1 ∨ k = 2 ∨ k = 3 ∨ k = 4 ∨ k = 5 ∨ k = 6 ∨ (k ≠ 1 ∧ k ≠ 2 ∧ k ≠ 3 ∧ k ≠ 4 ∧ k ≠ 5 ∧ k ≠ 6) by omega) with rfl | rfl | rfl | rfl | rfl | rfl | ⟨k1, k2, k3, k4, k5, k6⟩
  · go_enter Try.func17, Try.ntmps17
    go_wp2_with (go_at_call 24; refine (lin_any _ _ _ _).mono ?_; rintro e w' ⟨rfl, rfl⟩)
    go_ret
    exact ⟨rfl, (Grw.refl _).alloc _⟩
  · go_enter Try.func17, Try.ntmps17
    go_wp2_with (go_at_call 24; refine (lin_any _ _ _ _).mono ?_; rintro e w' ⟨rfl, rfl⟩)
    go_ret
    exact ⟨rfl, (Grw.refl _).alloc _⟩
  · go_enter Try.func17, Try.ntmps17
    go_wp2_with (go_at_call 24; refine (lin_any _ _ _ _).mono ?_; rintro e w' ⟨rfl, rfl⟩)
    go_ret
    exact ⟨rfl, (Grw.refl _).alloc _⟩
  · go_enter Try.func17, Try.ntmps17
    go_wp2_with (go_at_call 24; refine (lin_any _ _ _ _).mono ?_; rintro e w' ⟨rfl, rfl⟩)
    go_ret
    exact ⟨rfl, (Grw.refl _).alloc _⟩
  · go_enter Try.func17, Try.ntmps17
    go_wp2_with (go_at_call 24; refine (lin_any _ _ _ _).mono ?_; rintro e w' ⟨rfl, rfl⟩)
    go_ret
    exact ⟨rfl, (Grw.refl _).alloc _⟩
  · go_enter Try.func17, Try.ntmps17
    go_wp2_with (go_at_call 24; refine (lin_any _ _ _ _).mono ?_; rintro e w' ⟨rfl, rfl⟩)
    go_ret
    exact ⟨rfl, (Grw.refl _).alloc _⟩
  · have HN := Lib.hid (show vnB k = ⟨#[]⟩ by unfold vnB; rw [if_neg k1, if_neg k2, if_neg k3, if_neg k4, if_neg k5, if_neg k6])
    have HI := Lib.hid (show inB k 1 6 = false from inB_no (by omega))
    clear k1 k2 k3 k4 k5 k6
    go_enter Try.func17, Try.ntmps17
    go_wp2_with fail
    refine (lin_any _ _ _ _).mono ?_
    rw [HI.out]
    rintro e w' ⟨rfl, rfl⟩
    go_wp2
    go_ret
    exact ⟨by rw [HN.out]; rfl, Grw.refl _⟩

set_option maxRecDepth 100000 in
set_option maxHeartbeats 2000000 in
theorem vn_impl (k : Int) (w : World) : Calls Try.prog 18 #[.int .i64 k] w fun e w' => e = .returned (.string (vnB k)) ∧ Grw w w' := by
  rcases (show k = 1 ∨ k = 2 ∨ k = 3 ∨ k = 4 ∨ k = 5 ∨ k = 6 ∨ (k ≠ 1 ∧ k ≠ 2 ∧ k ≠ 3 ∧ k ≠ 4 ∧ k ≠ 5 ∧ k ≠ 6) by omega) with rfl | rfl | rfl | rfl | rfl | rfl | ⟨k1, k2, k3, k4, k5, k6⟩
  · go_enter Try.func18, Try.ntmps18
    go_wp2
    go_ret
    exact ⟨rfl, Grw.refl _⟩
  · go_enter Try.func18, Try.ntmps18
    go_wp2
    go_ret
    exact ⟨rfl, Grw.refl _⟩
  · go_enter Try.func18, Try.ntmps18
    go_wp2
    go_ret
    exact ⟨rfl, Grw.refl _⟩
  · go_enter Try.func18, Try.ntmps18
    go_wp2
    go_ret
    exact ⟨rfl, Grw.refl _⟩
  · go_enter Try.func18, Try.ntmps18
    go_wp2
    go_ret
    exact ⟨rfl, Grw.refl _⟩
  · go_enter Try.func18, Try.ntmps18
    go_wp2
    go_ret
    exact ⟨rfl, Grw.refl _⟩
  · have HN := Lib.hid (show vnB k = ⟨#[]⟩ by unfold vnB; rw [if_neg k1, if_neg k2, if_neg k3, if_neg k4, if_neg k5, if_neg k6])
    have e1 : (k == 1) = false := beq_eq_false_iff_ne.2 k1
    have e2 : (k == 2) = false := beq_eq_false_iff_ne.2 k2
    have e3 : (k == 3) = false := beq_eq_false_iff_ne.2 k3
    have e4 : (k == 4) = false := beq_eq_false_iff_ne.2 k4
    have e5 : (k == 5) = false := beq_eq_false_iff_ne.2 k5
    have e6 : (k == 6) = false := beq_eq_false_iff_ne.2 k6
    clear k1 k2 k3 k4 k5 k6
    go_enter Try.func18, Try.ntmps18
    go_wp2
    go_ret
    exact ⟨by rw [HN.out]; rfl, Grw.refl _⟩

/-- CanGuess. -/
def cgB (kd : Int) (h p f g : ByteArray) : Bool := if isRq kd h p f g = true then if kd = 1 then false else if f = h then true else false else false
set_option maxRecDepth 100000 in
set_option maxHeartbeats 2000000 in
theorem cg_spec (kd : Int) (h p f g : ByteArray) (ok : RqOk h p f g) (w : World) :
    Calls Try.prog 21 #[.agg #[.int .i64 kd, .string h, .string p, .string f, .string g]] w fun e w' => e = .returned (.bool (cgB kd h p f g)) ∧ Below w.heap.size w w' := by
  obtain ⟨W0, hW⟩ : ∃ W, (w.alloc (.cells #[.int .i64 kd, .string h, .string p, .string f, .string g] 30)) = W := ⟨_, rfl⟩
  have HB := Lib.hid (show Below w.heap.size w W0 by rw [← hW]; exact ((Below.refl w.heap.size w).alloc (by first | (simp; done) | (simp; omega)) _))
  have q_q0 : W0.cell? ⟨w.heap.size, 0, none⟩ = some (.int .i64 kd) := by rw [← hW]; simp
  have q_q1 : W0.cell? ⟨w.heap.size, 1, none⟩ = some (.string h) := by rw [← hW]; simp
  have q_q2 : W0.cell? ⟨w.heap.size, 2, none⟩ = some (.string p) := by rw [← hW]; simp
  have q_q3 : W0.cell? ⟨w.heap.size, 3, none⟩ = some (.string f) := by rw [← hW]; simp
  have q_q4 : W0.cell? ⟨w.heap.size, 4, none⟩ = some (.string g) := by rw [← hW]; simp
  have HW := Lib.hid hW; clear hW
  have HI := Lib.hid (fun X => isRq_spec kd h p f g ok X); clear ok
  go_enter Try.func21, Try.ntmps21
  go_wp2_with fail
  rw [HW.out]
  refine (HI.out _).mono ?_
  rintro e w1 ⟨rfl, hb⟩
  have hbx := hb
  replace q_q0 := (hbx.cell (show (⟨w.heap.size, 0, none⟩ : Addr).block < _ from World.block_lt_of_cell? _ _ q_q0)).trans q_q0
  replace q_q1 := (hbx.cell (show (⟨w.heap.size, 1, none⟩ : Addr).block < _ from World.block_lt_of_cell? _ _ q_q1)).trans q_q1
  replace q_q2 := (hbx.cell (show (⟨w.heap.size, 2, none⟩ : Addr).block < _ from World.block_lt_of_cell? _ _ q_q2)).trans q_q2
  replace q_q3 := (hbx.cell (show (⟨w.heap.size, 3, none⟩ : Addr).block < _ from World.block_lt_of_cell? _ _ q_q3)).trans q_q3
  replace q_q4 := (hbx.cell (show (⟨w.heap.size, 4, none⟩ : Addr).block < _ from World.block_lt_of_cell? _ _ q_q4)).trans q_q4
  replace HB := Lib.hid (HB.out.trans (hbx.mono HB.out.size)); clear hbx hb
  cases e1 : isRq kd h p f g with
  | false =>
    have He1 := Lib.hid e1; clear e1
    go_wp2_with fail
    go_ret
    exact ⟨ret_b (by unfold cgB; rw [if_neg (by rw [He1.out]; exact Bool.false_ne_true)]), HB.out⟩
  | true =>
    have He1 := Lib.hid e1; clear e1
    by_cases e2 : kd = 1
    · have He2 := Lib.hid e2
      have x1 : (kd == 1) = true := beq_iff_eq.2 e2
      have x2 : (kd != 1) = false := by rw [bne, x1]; rfl
      clear e2
      go_wp2_with fail
      go_ret
      exact ⟨ret_b (by unfold cgB; rw [if_pos He1.out, if_pos He2.out]), HB.out⟩
    · have He2 := Lib.hid e2
      have x1 : (kd == 1) = false := beq_eq_false_iff_ne.2 e2
      have x2 : (kd != 1) = true := by rw [bne, x1]; rfl
      clear e2
      by_cases e3 : f = h
      · have He3 := Lib.hid e3
        have x3 : (h.toList == f.toList) = true := beqL_yes e3.symm
        clear e3
        go_wp2_with fail
        go_ret
        exact ⟨ret_b (by unfold cgB; rw [if_pos He1.out, if_neg He2.out, if_pos He3.out]), HB.out⟩
      · have He3 := Lib.hid e3
        have x3 : (h.toList == f.toList) = false := beqL_no (fun h => e3 h.symm)
        clear e3
        go_wp2_with fail
        go_ret
        exact ⟨ret_b (by unfold cgB; rw [if_pos He1.out, if_neg He2.out, if_neg He3.out]), HB.out⟩

set_option maxRecDepth 100000 in
set_option maxHeartbeats 2000000 in
theorem cg_impl (kd : Int) (h p f g : ByteArray) (ok : RqOk h p f g) (w : World) :
    Calls Try.prog 22 #[.agg #[.int .i64 kd, .string h, .string p, .string f, .string g]] w fun e w' => e = .returned (.bool (cgB kd h p f g)) ∧ Below w.heap.size w w' := by
  obtain ⟨W0, hW⟩ : ∃ W, (w.alloc (.cells #[.int .i64 kd, .string h, .string p, .string f, .string g] 30)) = W := ⟨_, rfl⟩
  have HB := Lib.hid (show Below w.heap.size w W0 by rw [← hW]; exact ((Below.refl w.heap.size w).alloc (by first | (simp; done) | (simp; omega)) _))
  have q_q0 : W0.cell? ⟨w.heap.size, 0, none⟩ = some (.int .i64 kd) := by rw [← hW]; simp
  have q_q1 : W0.cell? ⟨w.heap.size, 1, none⟩ = some (.string h) := by rw [← hW]; simp
  have q_q2 : W0.cell? ⟨w.heap.size, 2, none⟩ = some (.string p) := by rw [← hW]; simp
  have q_q3 : W0.cell? ⟨w.heap.size, 3, none⟩ = some (.string f) := by rw [← hW]; simp
  have q_q4 : W0.cell? ⟨w.heap.size, 4, none⟩ = some (.string g) := by rw [← hW]; simp
  have HW := Lib.hid hW; clear hW
  have HI := Lib.hid (fun X => isRq_impl kd h p f g ok X); clear ok
  go_enter Try.func22, Try.ntmps22
  go_wp2_with fail
  rw [HW.out]
  refine (HI.out _).mono ?_
  rintro e w1 ⟨rfl, hb⟩
  have hbx := hb
  replace q_q0 := (hbx.cell (show (⟨w.heap.size, 0, none⟩ : Addr).block < _ from World.block_lt_of_cell? _ _ q_q0)).trans q_q0
  replace q_q1 := (hbx.cell (show (⟨w.heap.size, 1, none⟩ : Addr).block < _ from World.block_lt_of_cell? _ _ q_q1)).trans q_q1
  replace q_q2 := (hbx.cell (show (⟨w.heap.size, 2, none⟩ : Addr).block < _ from World.block_lt_of_cell? _ _ q_q2)).trans q_q2
  replace q_q3 := (hbx.cell (show (⟨w.heap.size, 3, none⟩ : Addr).block < _ from World.block_lt_of_cell? _ _ q_q3)).trans q_q3
  replace q_q4 := (hbx.cell (show (⟨w.heap.size, 4, none⟩ : Addr).block < _ from World.block_lt_of_cell? _ _ q_q4)).trans q_q4
  replace HB := Lib.hid (HB.out.trans (hbx.mono HB.out.size)); clear hbx hb
  cases e1 : isRq kd h p f g with
  | false =>
    have He1 := Lib.hid e1; clear e1
    go_wp2_with fail
    go_ret
    exact ⟨ret_b (by unfold cgB; rw [if_neg (by rw [He1.out]; exact Bool.false_ne_true)]), HB.out⟩
  | true =>
    have He1 := Lib.hid e1; clear e1
    by_cases e2 : kd = 1
    · have He2 := Lib.hid e2
      have x1 : (kd == 1) = true := beq_iff_eq.2 e2
      have x2 : (kd != 1) = false := by rw [bne, x1]; rfl
      clear e2
      go_wp2_with fail
      go_ret
      exact ⟨ret_b (by unfold cgB; rw [if_pos He1.out, if_pos He2.out]), HB.out⟩
    · have He2 := Lib.hid e2
      have x1 : (kd == 1) = false := beq_eq_false_iff_ne.2 e2
      have x2 : (kd != 1) = true := by rw [bne, x1]; rfl
      clear e2
      by_cases e3 : f = h
      · have He3 := Lib.hid e3
        have x3 : (f.toList == h.toList) = true := beqL_yes e3
        clear e3
        go_wp2_with fail
        go_ret
        exact ⟨ret_b (by unfold cgB; rw [if_pos He1.out, if_neg He2.out, if_pos He3.out]), HB.out⟩
      · have He3 := Lib.hid e3
        have x3 : (f.toList == h.toList) = false := beqL_no e3
        clear e3
        go_wp2_with fail
        go_ret
        exact ⟨ret_b (by unfold cgB; rw [if_pos He1.out, if_neg He2.out, if_neg He3.out]), HB.out⟩

/-- SameRequest. -/
def smB (h p f h' p' f' : ByteArray) : Bool := decide ((h, p) = (h', p')) && decide (f = f')
set_option maxRecDepth 100000 in
set_option maxHeartbeats 2000000 in
theorem sm_spec (kd : Int) (h p f g : ByteArray) (kd' : Int) (h' p' f' g' : ByteArray) (w : World) :
    Calls Try.prog 19 #[.agg #[.int .i64 kd, .string h, .string p, .string f, .string g], .agg #[.int .i64 kd', .string h', .string p', .string f', .string g']] w fun e w' => e = .returned (.bool (smB h p f h' p' f')) ∧ Grw w w' := by
  have HG := Lib.hid (((Grw.refl w).alloc (.cells #[.int .i64 kd, .string h, .string p, .string f, .string g] 30)).alloc (.cells #[.int .i64 kd', .string h', .string p', .string f', .string g'] 30))
  by_cases h0 : h = h'
  · have e0 : (h.toList == h'.toList) = true := beqL_yes h0
    by_cases h1 : p = p'
    · have e1 : (p.toList == p'.toList) = true := beqL_yes h1
      by_cases h2 : f = f'
      · have e2 : (f.toList == f'.toList) = true := beqL_yes h2
        have HV := Lib.hid (show smB h p f h' p' f' = true by unfold smB; simp [h0, h1, h2])
        clear h0 h1 h2
        go_enter Try.func19, Try.ntmps19
        go_wp2_with fail
        go_ret
        exact ⟨by rw [HV.out]; rfl, HG.out⟩
      · have e2 : (f.toList == f'.toList) = false := beqL_no h2
        have HV := Lib.hid (show smB h p f h' p' f' = false by unfold smB; simp [h0, h1, h2])
        clear h0 h1 h2
        go_enter Try.func19, Try.ntmps19
        go_wp2_with fail
        go_ret
        exact ⟨by rw [HV.out]; rfl, HG.out⟩
    · have e1 : (p.toList == p'.toList) = false := beqL_no h1
      have HV := Lib.hid (show smB h p f h' p' f' = false by unfold smB; simp [h0, h1])
      clear h0 h1
      go_enter Try.func19, Try.ntmps19
      go_wp2_with fail
      go_ret
      exact ⟨by rw [HV.out]; rfl, HG.out⟩
  · have e0 : (h.toList == h'.toList) = false := beqL_no h0
    have HV := Lib.hid (show smB h p f h' p' f' = false by unfold smB; simp [h0])
    clear h0
    go_enter Try.func19, Try.ntmps19
    go_wp2_with fail
    go_ret
    exact ⟨by rw [HV.out]; rfl, HG.out⟩

set_option maxRecDepth 100000 in
set_option maxHeartbeats 2000000 in
theorem sm_impl (kd : Int) (h p f g : ByteArray) (kd' : Int) (h' p' f' g' : ByteArray) (w : World) :
    Calls Try.prog 20 #[.agg #[.int .i64 kd, .string h, .string p, .string f, .string g], .agg #[.int .i64 kd', .string h', .string p', .string f', .string g']] w fun e w' => e = .returned (.bool (smB h p f h' p' f')) ∧ Grw w w' := by
  have HG := Lib.hid (((Grw.refl w).alloc (.cells #[.int .i64 kd, .string h, .string p, .string f, .string g] 30)).alloc (.cells #[.int .i64 kd', .string h', .string p', .string f', .string g'] 30))
  by_cases h0 : h = h'
  · have e0 : (h.toList == h'.toList) = true := beqL_yes h0
    by_cases h1 : p = p'
    · have e1 : (p.toList == p'.toList) = true := beqL_yes h1
      by_cases h2 : f = f'
      · have e2 : (f.toList == f'.toList) = true := beqL_yes h2
        have HV := Lib.hid (show smB h p f h' p' f' = true by unfold smB; simp [h0, h1, h2])
        clear h0 h1 h2
        go_enter Try.func20, Try.ntmps20
        go_wp2_with fail
        go_ret
        exact ⟨by rw [HV.out]; rfl, HG.out⟩
      · have e2 : (f.toList == f'.toList) = false := beqL_no h2
        have HV := Lib.hid (show smB h p f h' p' f' = false by unfold smB; simp [h0, h1, h2])
        clear h0 h1 h2
        go_enter Try.func20, Try.ntmps20
        go_wp2_with fail
        go_ret
        exact ⟨by rw [HV.out]; rfl, HG.out⟩
    · have e1 : (p.toList == p'.toList) = false := beqL_no h1
      have HV := Lib.hid (show smB h p f h' p' f' = false by unfold smB; simp [h0, h1])
      clear h0 h1
      go_enter Try.func20, Try.ntmps20
      go_wp2_with fail
      go_ret
      exact ⟨by rw [HV.out]; rfl, HG.out⟩
  · have e0 : (h.toList == h'.toList) = false := beqL_no h0
    have HV := Lib.hid (show smB h p f h' p' f' = false by unfold smB; simp [h0])
    clear h0
    go_enter Try.func20, Try.ntmps20
    go_wp2_with fail
    go_ret
    exact ⟨by rw [HV.out]; rfl, HG.out⟩

end Go.Proofs.Ytkjjiinccljhjaa
