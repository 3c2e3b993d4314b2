/- Helper contracts: DecodeInts of the program and of the model give the same: a new slice with the integers, the offset behind them, and whether all are there. Asked: the slice reads as the list named, of bytes. -/
import Derived.Test.YtemoegnijnhigaaReadB
namespace Go.Proofs.Ytemoegnijnhigaa
open Go.ChangeShapes Go.WideShapes Go.ChangeAt Go.RowKit

/-- The first m varints from o on, and the offset behind them. -/
def dec (bs : List Int) (o : Int) : Nat → Option (List Int × Int)
  | 0 => some ([], o)
  | m + 1 => match dec bs o m with
    | none => none
    | some (l, p) => match readU bs p with
      | none => none
      | some (n, k) => some (l ++ [n], p + k)
def readD (bs : List Int) (o c : Int) : Option (List Int × Int) := if (0 ≤ c ∧ c ≤ 100) ∧ 0 ≤ o ∧ o ≤ bs.length then dec bs o c.toNat else none
theorem dec_none {bs : List Int} {o : Int} {i : Nat} (h : dec bs o i = none) : ∀ j, i ≤ j → dec bs o j = none := by
  intro j
  induction j with
  | zero => intro hj; have : i = 0 := by omega
            subst this; exact h
  | succ j ih =>
    intro hj
    by_cases e : i = j + 1
    · subst e; exact h
    · simp only [dec, ih (by omega)]
theorem dec_step {bs : List Int} {o n : Int} {i k : Nat} {l : List Int} {p : Int} (h : dec bs o i = some (l, p)) (hr : readU bs p = some (n, k)) : dec bs o (i + 1) = some (l ++ [n], p + k) := by
  simp only [dec, h, hr]
theorem dec_fail {bs : List Int} {o : Int} {i : Nat} {l : List Int} {p : Int} (h : dec bs o i = some (l, p)) (hr : readU bs p = none) : dec bs o (i + 1) = none := by
  simp only [dec, h, hr]
theorem dec_len {bs : List Int} {o : Int} : ∀ (i : Nat) (l : List Int) (p : Int), dec bs o i = some (l, p) → l.length = i := by
  intro i
  induction i with
  | zero => intro l p h; simp [dec] at h; rw [h.1]; rfl
  | succ i ih =>
    intro l p h
    cases hd : dec bs o i with
    | none => rw [dec_none hd (i + 1) (by omega)] at h; cases h
    | some q =>
      obtain ⟨l', p'⟩ := q
      cases hr : readU bs p' with
      | none => rw [dec_fail hd hr] at h; cases h
      | some r =>
        obtain ⟨n, k⟩ := r
        rw [dec_step hd hr] at h
        simp only [Option.some.injEq, Prod.mk.injEq] at h
        rw [← h.1, List.length_append, ih l' p' hd]; rfl
theorem readD_len (bs : List Int) (o c : Int) : (bl (readD bs o c)).length ≤ 100 := by
  unfold readD
  split
  · cases hd : dec bs o c.toNat with
    | none => simp [bl]
    | some q => obtain ⟨l, p⟩ := q; have := dec_len _ _ _ hd; simp only [bl]; omega
  · simp [bl]

set_option maxHeartbeats 4000000 in
theorem specDec_any (v : Value) (hi : Nat) (bs : List Int) (o c : Int) (w : World) (hr : Reads .u8 hi w v bs) (hh : hi ≤ w.heap.size) (hb : Bytes bs) (q0 : -9223372036854775808 ≤ o) (q1 : o ≤ 9223372036854775807) (hl : bs.length ≤ 1099511627776) :
    Calls Try.prog 38 #[v, .int .i64 o, .int .i64 c] w (Three .i64 3 (readD bs o c) w) := by
  obtain ⟨i0, hi0, hz0, hz1, hz2⟩ := info_parts info64
  have HR := Lib.hid hr; have HBY := Lib.hid hb
  obtain ⟨a, cap, rfl, h1, h2, -, -⟩ := hr
  clear hb
  have HM := Lib.hid (Mine.empty .i64 3 w w w.heap.size (Below.refl _ _) (Nat.le_refl _))
  by_cases hc : 0 ≤ c ∧ c ≤ 100
  · have e1 : inB c 0 100 = true := inB_yes hc.1 hc.2
    by_cases ho : 0 ≤ o ∧ o ≤ bs.length
    · have e2 : inB o 0 bs.length = true := inB_yes ho.1 ho.2
      have hrd : readD bs o c = dec bs o c.toNat := by unfold readD; rw [if_pos ⟨hc, ho⟩]
      have HRD := Lib.hid hrd; clear hrd
      obtain ⟨m, rfl⟩ := Int.eq_ofNat_of_zero_le hc.1
      have hm : m ≤ 100 := by omega
      rw [Int.toNat_natCast] at HRD
      obtain ⟨ho1, ho2⟩ := ho
      clear hc
      go_enter Try.func38, Try.ntmps38
      go_wp2_with (go_at_call 56; refine (lin_any _ _ _ _).mono ?_; rintro e w' ⟨rfl, rfl⟩)
      go_loopw [9, 1, 10] (fun v s i wr => ∃ (k : Nat) (l : List Int) (p : Int), k ≤ m ∧ i = .int .i64 k ∧ s = .int .i64 p ∧ 0 ≤ p ∧ p ≤ bs.length ∧ Mine .i64 3 w.heap.size w wr v l ∧ dec bs o k = some (l, p)) (fun _ _ i _ => m - (intOf i).toNat)
      case atStart => exact ⟨0, [], o, Nat.zero_le _, rfl, rfl, ho1, ho2, HM.out, rfl⟩
      case round =>
        obtain ⟨k, l, p, hk, rfl, rfl, p0, p1, hmine, hdec⟩ := hrel
        have HMI := Lib.hid hmine; have HD := Lib.hid hdec; clear hmine hdec HM
        by_cases hkm : k = m
        · subst hkm
          go_wp2
          go_ret3
          exact ⟨_, by rw [HRD.out, HD.out]; rfl, by rw [HRD.out, HD.out]; exact HMI.out.own, HMI.out.below⟩
        · have hlt : (k : Int) < (m : Int) := by omega
          go_wp2_with fail
          refine (specRead_any _ hi bs p wr (HR.out.below HMI.out.below hh) HBY.out (by omega) (by omega) hl).mono ?_
          rintro e w1 ⟨he, hb1⟩
          have HM1 := Lib.hid (HMI.out.later hb1)
          clear hb1
          cases hru : readU bs p with
          | none =>
            have hnone : readD bs o m = none := by rw [HRD.out]; exact dec_none (dec_fail HD.out hru) m (by omega)
            have HN := Lib.hid hnone; clear hnone
            rw [hru] at he
            simp only [uval, uv, un, ub] at he
            subst he
            clear hru
            go_wp2
            go_ret3
            exact ⟨_, by rw [HN.out]; rfl, by rw [HN.out]; exact (Mine.empty .i64 3 w w1 w.heap.size HM1.out.below HM1.out.size).own, HM1.out.below.alloc HM1.out.size _⟩
          | some q =>
            obtain ⟨n, j⟩ := q
            obtain ⟨-, n0, n1, j0, j6, hj⟩ := readU_some HBY.out hru
            have hst := dec_step HD.out hru
            have HST := Lib.hid hst; clear hst
            rw [hru] at he
            simp only [uval, uv, un, ub] at he
            subst he
            clear hru
            have hll := dec_len _ _ _ HD.out
            go_wp2_with (at_builtin; refine wpList_app rfl _ _ 35 rfl .i64 3 i0 (.int .i64 0) 8 Try.underlying35 hi0 hz0 hz1 hz2 rfl w.heap.size w _ l rfl (HM1.out.alloc _) _ _ [n] rfl (reads_one _ _ _ rfl) (by decide) ?c3 ?_)
            case c3 => simp; omega
            intro v' w2 hm2
            have HM2 := Lib.hid hm2; clear hm2
            go_wp2
            go_roundw
            case rel => exact ⟨k + 1, l ++ [n], p + j, by omega, by go_num, rfl, by omega, by omega, HM2.out, HST.out⟩
            case measure => simp [intOf]; omega
    · have e2 : inB o 0 bs.length = false := inB_no (by omega)
      have hrd : readD bs o c = none := by unfold readD; rw [if_neg (fun h => ho h.2)]
      have HRD := Lib.hid hrd; clear hrd
      go_enter Try.func38, Try.ntmps38
      go_wp2_with (go_at_call 56; refine (lin_any _ _ _ _).mono ?_; rintro e w' ⟨rfl, rfl⟩)
      go_ret3
      exact ⟨_, by rw [HRD.out]; rfl, by rw [HRD.out]; exact HM.out.own, HM.out.below⟩
  · have e1 : inB c 0 100 = false := inB_no (by omega)
    have hrd : readD bs o c = none := by unfold readD; rw [if_neg (fun h => hc h.1)]
    have HRD := Lib.hid hrd; clear hrd
    go_enter Try.func38, Try.ntmps38
    go_wp2_with (go_at_call 56; refine (lin_any _ _ _ _).mono ?_; rintro e w' ⟨rfl, rfl⟩)
    go_ret3
    exact ⟨_, by rw [HRD.out]; rfl, by rw [HRD.out]; exact HM.out.own, HM.out.below⟩

set_option maxHeartbeats 4000000 in
theorem implDec_any (v : Value) (hi : Nat) (bs : List Int) (o c : Int) (w : World) (hr : Reads .u8 hi w v bs) (hh : hi ≤ w.heap.size) (hb : Bytes bs) (hl : bs.length ≤ 1099511627776) :
    Calls Try.prog 25 #[v, .int .i64 o, .int .i64 c] w (Three .i64 3 (readD bs o c) w) := by
  obtain ⟨i0, hi0, hz0, hz1, hz2⟩ := info_parts info64
  have HR := Lib.hid hr; have HBY := Lib.hid hb
  obtain ⟨a, cap, rfl, h1, h2, -, -⟩ := hr
  clear hb
  have HM := Lib.hid (Mine.empty .i64 3 w w w.heap.size (Below.refl _ _) (Nat.le_refl _))
  by_cases hc : 0 ≤ c ∧ c ≤ 100
  · have e1 : inB c 0 100 = true := inB_yes hc.1 hc.2
    by_cases ho : 0 ≤ o ∧ o ≤ bs.length
    · have e2 : inB o 0 bs.length = true := inB_yes ho.1 ho.2
      have hrd : readD bs o c = dec bs o c.toNat := by unfold readD; rw [if_pos ⟨hc, ho⟩]
      have HRD := Lib.hid hrd; clear hrd
      obtain ⟨m, rfl⟩ := Int.eq_ofNat_of_zero_le hc.1
      have hm : m ≤ 100 := by omega
      rw [Int.toNat_natCast] at HRD
      obtain ⟨ho1, ho2⟩ := ho
      clear hc
      go_enter Try.func25, Try.ntmps25
      go_wp2_with (go_at_call 50; refine (rin_any _ _ _ _).mono ?_; rintro e w' ⟨rfl, rfl⟩)
      go_loopw [9, 1, 26] (fun v s i wr => ∃ (k : Nat) (l : List Int) (p : Int), k ≤ m ∧ i = .int .i64 k ∧ s = .int .i64 p ∧ 0 ≤ p ∧ p ≤ bs.length ∧ Mine .i64 3 w.heap.size w wr v l ∧ dec bs o k = some (l, p)) (fun _ _ i _ => m - (intOf i).toNat)
      case atStart => exact ⟨0, [], o, Nat.zero_le _, rfl, rfl, ho1, ho2, HM.out, rfl⟩
      case round =>
        obtain ⟨k, l, p, hk, rfl, rfl, p0, p1, hmine, hdec⟩ := hrel
        have HMI := Lib.hid hmine; have HD := Lib.hid hdec; clear hmine hdec HM
        by_cases hkm : k = m
        · subst hkm
          go_wp2
          go_ret3
          exact ⟨_, by rw [HRD.out, HD.out]; rfl, by rw [HRD.out, HD.out]; exact HMI.out.own, HMI.out.below⟩
        · have hlt : (k : Int) < (m : Int) := by omega
          go_wp2_with fail
          refine (implRead_any _ hi bs p wr (HR.out.below HMI.out.below hh) (Nat.le_trans hh HMI.out.size) HBY.out hl).mono ?_
          rintro e w1 ⟨he, hb1⟩
          have HM1 := Lib.hid (HMI.out.later hb1)
          clear hb1
          cases hru : readU bs p with
          | none =>
            have hnone : readD bs o m = none := by rw [HRD.out]; exact dec_none (dec_fail HD.out hru) m (by omega)
            have HN := Lib.hid hnone; clear hnone
            rw [hru] at he
            simp only [uval, uv, un, ub] at he
            subst he
            clear hru
            go_wp2
            go_ret3
            exact ⟨_, by rw [HN.out]; rfl, by rw [HN.out]; exact (Mine.empty .i64 3 w w1 w.heap.size HM1.out.below HM1.out.size).own, HM1.out.below.alloc HM1.out.size _⟩
          | some q =>
            obtain ⟨n, j⟩ := q
            obtain ⟨-, n0, n1, j0, j6, hj⟩ := readU_some HBY.out hru
            have hst := dec_step HD.out hru
            have HST := Lib.hid hst; clear hst
            rw [hru] at he
            simp only [uval, uv, un, ub] at he
            subst he
            clear hru
            have hll := dec_len _ _ _ HD.out
            go_wp2_with (at_builtin; refine wpList_app rfl _ _ 35 rfl .i64 3 i0 (.int .i64 0) 8 Try.underlying35 hi0 hz0 hz1 hz2 rfl w.heap.size w _ l rfl (HM1.out.alloc _) _ _ [n] rfl (reads_one _ _ _ rfl) (by decide) ?c3 ?_)
            case c3 => simp; omega
            intro v' w2 hm2
            have HM2 := Lib.hid hm2; clear hm2
            go_wp2
            go_roundw
            case rel => exact ⟨k + 1, l ++ [n], p + j, by omega, by go_num, rfl, by omega, by omega, HM2.out, HST.out⟩
            case measure => simp [intOf]; omega
    · have e2 : inB o 0 bs.length = false := inB_no (by omega)
      have hrd : readD bs o c = none := by unfold readD; rw [if_neg (fun h => ho h.2)]
      have HRD := Lib.hid hrd; clear hrd
      go_enter Try.func25, Try.ntmps25
      go_wp2_with (go_at_call 50; refine (rin_any _ _ _ _).mono ?_; rintro e w' ⟨rfl, rfl⟩)
      go_ret3
      exact ⟨_, by rw [HRD.out]; rfl, by rw [HRD.out]; exact HM.out.own, HM.out.below⟩
  · have e1 : inB c 0 100 = false := inB_no (by omega)
    have hrd : readD bs o c = none := by unfold readD; rw [if_neg (fun h => hc h.1)]
    have HRD := Lib.hid hrd; clear hrd
    go_enter Try.func25, Try.ntmps25
    go_wp2_with (go_at_call 50; refine (rin_any _ _ _ _).mono ?_; rintro e w' ⟨rfl, rfl⟩)
    go_ret3
    exact ⟨_, by rw [HRD.out]; rfl, by rw [HRD.out]; exact HM.out.own, HM.out.below⟩

end Go.Proofs.Ytemoegnijnhigaa
