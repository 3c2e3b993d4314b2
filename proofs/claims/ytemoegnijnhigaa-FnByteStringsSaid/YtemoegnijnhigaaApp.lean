/- Helper contracts: AppendUvarint and AppendBytes of the program and of the model return a new slice that holds the given bytes, then the varint (and the data). Asked: the slices read as the lists named, and are no longer than 2^40. -/
import Derived.Test.YtemoegnijnhigaaVint
import Derived.Test.YtemoegnijnhigaaConcat
namespace Go.Proofs.Ytemoegnijnhigaa
open Go.ChangeShapes Go.WideShapes Go.ChangeAt Go.RowKit

theorem and127 (n : Int) : bits .and .i64 n 127 = n % 128 := by
  have h127 : (BitVec.ofInt 64 127).toNat = 2 ^ 7 - 1 := by decide
  have key : (BitVec.ofInt 64 n &&& BitVec.ofInt 64 127).toNat = (n % ((2 ^ 64 : Nat) : Int)).toNat % 2 ^ 7 := by
    rw [BitVec.toNat_and, BitVec.toNat_ofInt, h127, Nat.and_two_pow_sub_one_eq_mod]
  show IntKind.i64.wrap ((BitVec.ofInt 64 n &&& BitVec.ofInt 64 127).toNat : Nat) = n % 128
  rw [key, IntKind.wrap_i64]
  omega
theorem wraps_i64 (n : Int) (h0 : 0 ≤ n) (h1 : n < 2 ^ 62) : IntKind.i64.wrap n = n := by rw [IntKind.wrap_i64]; omega
theorem or128 (n : Int) : bits .or .i64 (n % 128) 128 = n % 128 + 128 :=
  Go.bits_join_low .i64 62 (by decide) wraps_i64 7 (n % 128) 128 (by omega) (by omega) (by omega) (by decide) (by decide) (by decide)

set_option maxHeartbeats 1000000 in
theorem specU_any (v : Value) (hi : Nat) (bs : List Int) (n0 : Int) (w : World) (hr : Reads .u8 hi w v bs) (hh : hi ≤ w.heap.size) (hl : bs.length ≤ 1099511627776) :
    Calls Try.prog 27 #[v, .int .i64 n0] w (New .u8 5 (bs ++ vint n0) w) := by
  obtain ⟨i0, hi0, hz0, hz1, hz2⟩ := info_parts info8
  have HM := Lib.hid (Mine.empty .u8 5 w w w.heap.size (Below.refl _ _) (Nat.le_refl _))
  have HR := Lib.hid (hr.below ((Below.refl w.heap.size w).alloc (Nat.le_refl _) (.cells #[] 5)) hh)
  clear hr
  by_cases hn : 0 ≤ n0 ∧ n0 ≤ 1000000000000
  · have e1 : inB n0 0 1000000000000 = true := inB_yes hn.1 hn.2
    have ev : vint n0 = vgo n0.toNat := by unfold vint; rw [if_pos hn]
    obtain ⟨hn1, hn2⟩ := hn
    have hlen := vgo_len6 (n := n0.toNat) (by omega)
    have EV := Lib.hid ev; have HL := Lib.hid hlen; clear ev hlen
    go_enter Try.func27, Try.ntmps27
    go_wp2_with (at_builtin; refine wpList_app rfl _ _ 22 rfl .u8 5 i0 (.int .u8 0) 1 Try.underlying22 hi0 hz0 hz1 hz2 rfl w.heap.size w _ [] rfl HM.out _ _ bs rfl HR.out (by decide) ?c3 ?_)
    case c3 => simp; omega
    intro v1 w1 hm1
    have HM1 := Lib.hid hm1; clear hm1
    go_wp2_with (go_at_call 56; refine (lin_any _ _ _ _).mono ?_; rintro e w' ⟨rfl, rfl⟩)
    go_loopw [5, 1] (fun v m wr => ∃ (k : Nat) (pre : List Int), (k : Int) ≤ 1000000000000 ∧ m = .int .i64 k ∧ Mine .u8 5 w.heap.size w wr v (bs ++ pre) ∧ pre ++ vgo k = vgo n0.toNat)
      (fun _ m _ => (intOf m).toNat)
    case atStart => exact ⟨n0.toNat, [], by omega, by rw [Int.toNat_of_nonneg hn1], by simpa using HM1.out, rfl⟩
    case round =>
      obtain ⟨k, pre, hk, rfl, hmine, heq⟩ := hrel
      have HMI := Lib.hid hmine; have HE := Lib.hid heq
      clear hmine heq HM HM1
      have hpl : pre.length ≤ 6 := by have h1 := HL.out; rw [← HE.out, List.length_append] at h1; omega
      have HP := Lib.hid hpl; clear hpl
      by_cases hlt : (127 : Int) < (k : Int)
      · go_wp2_with (at_builtin; refine wpList_app rfl _ _ 22 rfl .u8 5 i0 (.int .u8 0) 1 Try.underlying22 hi0 hz0 hz1 hz2 rfl w.heap.size w _ (bs ++ pre) rfl (HMI.out.alloc _) _ _ [(k : Int) % 128 + 128] rfl (reads_one _ _ _ ?c1) (by decide) ?c3 ?_)
        case c1 => rw [and127, or128]; omega
        case c3 => have := HP.out; simp; omega
        intro v' w1 hm1
        have HM1 := Lib.hid hm1; clear hm1
        go_wp2
        go_roundw
        case rel =>
          refine ⟨k / 128, pre ++ [(k : Int) % 128 + 128], by omega, by go_num, by simpa using HM1.out, ?_⟩
          rw [← HE.out, vgo_step (n := k) (by omega)]
          simp
        case measure => simp [intOf]; omega
      · have hk3 : (k : Int) < 256 := by omega
        go_wp2_with (at_builtin; refine wpList_app rfl _ _ 22 rfl .u8 5 i0 (.int .u8 0) 1 Try.underlying22 hi0 hz0 hz1 hz2 rfl w.heap.size w _ (bs ++ pre) rfl (HMI.out.alloc _) _ _ [(k : Int)] rfl (reads_one _ _ _ rfl) (by decide) ?c3 ?_)
        case c3 => have := HP.out; simp; omega
        intro v' w1 hm1
        have HM1 := Lib.hid hm1; clear hm1
        go_wp2
        go_ret
        have h2 := HE.out
        rw [vgo_small (n := k) (by omega)] at h2
        rw [EV.out, ← h2]
        exact HM1.out.new
  · have e1 : inB n0 0 1000000000000 = false := inB_no (by omega)
    have ev : vint n0 = [] := by unfold vint; rw [if_neg hn]
    have EV := Lib.hid ev; clear ev
    go_enter Try.func27, Try.ntmps27
    go_wp2_with (at_builtin; refine wpList_app rfl _ _ 22 rfl .u8 5 i0 (.int .u8 0) 1 Try.underlying22 hi0 hz0 hz1 hz2 rfl w.heap.size w _ [] rfl HM.out _ _ bs rfl HR.out (by decide) ?c3 ?_)
    case c3 => simp; omega
    intro v1 w1 hm1
    have HM1 := Lib.hid hm1; clear hm1
    go_wp2_with (go_at_call 56; refine (lin_any _ _ _ _).mono ?_; rintro e w' ⟨rfl, rfl⟩)
    go_ret
    rw [EV.out, List.append_nil]
    exact HM1.out.new

set_option maxHeartbeats 1000000 in
theorem specB_any (v u : Value) (hi hi' : Nat) (bs ds : List Int) (w : World) (hr : Reads .u8 hi w v bs) (hh : hi ≤ w.heap.size) (hl : bs.length ≤ 1099511627776) (hu : Reads .u8 hi' w u ds) (hh' : hi' ≤ w.heap.size) (hl' : ds.length ≤ 1099511627776) :
    Calls Try.prog 32 #[v, u] w (New .u8 5 (bs ++ (vint ds.length ++ ds)) w) := by
  obtain ⟨i0, hi0, hz0, hz1, hz2⟩ := info_parts info8
  have HR := Lib.hid hr; have HU := Lib.hid hu
  obtain ⟨a, cap, rfl, h1, h2, h3, h4⟩ := hu
  clear h3 h4 hr
  go_enter Try.func32, Try.ntmps32
  go_wp2_with fail
  refine (specU_any v hi bs _ _ HR.out hh hl).mono ?_
  rintro e w1 ⟨v1, rfl, ho1, hb1⟩
  have HM1 := Lib.hid (show Mine .u8 5 w.heap.size w w1 v1 (bs ++ vint ds.length) from ⟨ho1.1, hb1, hb1.size⟩)
  have HU1 := Lib.hid (HU.out.below hb1 hh')
  clear ho1 hb1
  have hvl := vint_len ds.length
  have HV := Lib.hid hvl; clear hvl
  go_wp2_with (at_builtin; refine wpList_app rfl _ _ 22 rfl .u8 5 i0 (.int .u8 0) 1 Try.underlying22 hi0 hz0 hz1 hz2 rfl w.heap.size w _ (bs ++ vint ds.length) rfl HM1.out _ _ ds rfl HU1.out (by decide) ?c3 ?_)
  case c3 => have := HV.out; simp; omega
  intro v2 w2 hm2
  have HM2 := Lib.hid hm2; clear hm2
  go_wp2
  go_ret
  exact HM2.out.new

set_option maxHeartbeats 1000000 in
theorem implU_any (v : Value) (hi : Nat) (bs : List Int) (n0 : Int) (w : World) (hr : Reads .u8 hi w v bs) (hh : hi ≤ w.heap.size) (hl : bs.length ≤ 1099511627776) :
    Calls Try.prog 15 #[v, .int .i64 n0] w (New .u8 5 (bs ++ vint n0) w) := by
  have HR := Lib.hid hr
  obtain ⟨a, cap, rfl, h1, h2, h3, h4⟩ := hr
  clear h3 h4
  go_enter Try.func15, Try.ntmps15
  go_wp2_with fail
  refine (varint_any n0 _).mono ?_
  rintro e w1 ⟨v1, rfl, ho1, hb1⟩
  have HR1 := Lib.hid (HR.out.below hb1 hh)
  have HO1 := Lib.hid ho1.reads
  have HB1 := Lib.hid hb1
  obtain ⟨a1, cap1, rfl, _, _, _, _⟩ := ho1.reads
  clear ho1 hb1
  have HV := Lib.hid (vint_len n0)
  go_wp2_with fail
  have hb2 : Below w.heap.size w _ := HB1.out.alloc HB1.out.size (.cells #[Value.slice a bs.length cap, Value.slice a1 (vint n0).length cap1] 22)
  refine (concat_any w1.heap.size 2 w1.heap.size (fun j => match j with | 0 => .slice a bs.length cap | _ => .slice a1 (vint n0).length cap1) (fun j => match j with | 0 => bs | _ => vint n0) _ (by simp) (by omega) ?h1 ?h2 (by simp) ?h3).mono ?_
  case h1 => intro j hj; match j, hj with
    | 0, _ => simp
    | 1, _ => simp
  case h2 =>
    have hbw : Below w1.heap.size w1 (w1.alloc (.cells #[Value.slice a bs.length cap, Value.slice a1 (vint n0).length cap1] 22)) := (Below.refl _ _).alloc (Nat.le_refl _) _
    intro j hj; match j, hj with
    | 0, _ => exact (HR1.out.mono (Nat.le_trans hh HB1.out.size)).below hbw (Nat.le_refl _)
    | 1, _ => exact HO1.out.below hbw (Nat.le_refl _)
  case h3 => have := HV.out; simp [cat]; omega
  rintro e w2 ⟨v2, rfl, ho2, hbe2⟩
  have HO2 := Lib.hid ho2; have HBE := Lib.hid (hb2.trans (hbe2.mono hb2.size)); have HS := Lib.hid hb2.size
  clear ho2 hbe2 hb2
  go_wp2
  go_ret
  exact ⟨_, rfl, by simpa [cat] using HO2.out.mono HS.out (Nat.le_refl _), HBE.out⟩

set_option maxHeartbeats 1000000 in
theorem implB_any (v u : Value) (hi hi' : Nat) (bs ds : List Int) (w : World) (hr : Reads .u8 hi w v bs) (hh : hi ≤ w.heap.size) (hl : bs.length ≤ 1099511627776) (hu : Reads .u8 hi' w u ds) (hh' : hi' ≤ w.heap.size) (hl' : ds.length ≤ 1099511627776) :
    Calls Try.prog 21 #[v, u] w (New .u8 5 (bs ++ (vint ds.length ++ ds)) w) := by
  have HR := Lib.hid hr; have HU := Lib.hid hu
  obtain ⟨a, cap, rfl, h1, h2, h3, h4⟩ := hr
  obtain ⟨a2, cap2, rfl, h1', h2', h3', h4'⟩ := hu
  clear h3 h4 h3' h4'
  go_enter Try.func21, Try.ntmps21
  go_wp2_with fail
  refine (varint_any _ _).mono ?_
  rintro e w1 ⟨v1, rfl, ho1, hb1⟩
  have HR1 := Lib.hid (HR.out.below hb1 hh)
  have HU1 := Lib.hid (HU.out.below hb1 hh')
  have HO1 := Lib.hid ho1.reads
  have HB1 := Lib.hid hb1
  obtain ⟨a1, cap1, rfl, _, _, _, _⟩ := ho1.reads
  clear ho1 hb1
  have HV := Lib.hid (vint_len ds.length)
  go_wp2_with fail
  have hb2 : Below w.heap.size w _ := HB1.out.alloc HB1.out.size (.cells #[Value.slice a bs.length cap, Value.slice a1 (vint ds.length).length cap1, Value.slice a2 ds.length cap2] 22)
  refine (concat_any w1.heap.size 3 w1.heap.size (fun j => match j with | 0 => .slice a bs.length cap | 1 => .slice a1 (vint ds.length).length cap1 | _ => .slice a2 ds.length cap2) (fun j => match j with | 0 => bs | 1 => vint ds.length | _ => ds) _ (by simp) (by omega) ?h1 ?h2 (by simp) ?h3).mono ?_
  case h1 => intro j hj; match j, hj with
    | 0, _ => simp
    | 1, _ => simp
    | 2, _ => simp
  case h2 =>
    have hbw : Below w1.heap.size w1 (w1.alloc (.cells #[Value.slice a bs.length cap, Value.slice a1 (vint ds.length).length cap1, Value.slice a2 ds.length cap2] 22)) := (Below.refl _ _).alloc (Nat.le_refl _) _
    intro j hj; match j, hj with
    | 0, _ => exact (HR1.out.mono (Nat.le_trans hh HB1.out.size)).below hbw (Nat.le_refl _)
    | 1, _ => exact HO1.out.below hbw (Nat.le_refl _)
    | 2, _ => exact (HU1.out.mono (Nat.le_trans hh' HB1.out.size)).below hbw (Nat.le_refl _)
  case h3 => have := HV.out; simp [cat]; omega
  rintro e w2 ⟨v2, rfl, ho2, hbe2⟩
  have HO2 := Lib.hid ho2; have HBE := Lib.hid (hb2.trans (hbe2.mono hb2.size)); have HS := Lib.hid hb2.size
  clear ho2 hbe2 hb2
  go_wp2
  go_ret
  exact ⟨_, rfl, by simpa [cat] using HO2.out.mono HS.out (Nat.le_refl _), HBE.out⟩
end Go.Proofs.Ytemoegnijnhigaa
