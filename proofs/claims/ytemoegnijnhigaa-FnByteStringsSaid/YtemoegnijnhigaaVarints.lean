/- The walk of the law FnVarints: it returns true, and writes nothing that was there. -/
import Derived.Test.YtemoegnijnhigaaRound
import Derived.Test.YtemoegnijnhigaaDrawP2
import Derived.Deep.DeepCutAuto
import Derived.Deep.RegionHeld3
namespace Go.Proofs.Ytemoegnijnhigaa
open Go.ChangeShapes Go.WideShapes Go.ChangeAt Go.RowKit

theorem big_yes (a : Option Addr) (len cap : Nat) (w : World) (h : (1048576 : Int) < (len : Int)) :
    Calls Try.prog 13 #[.slice a len cap] w fun e w' => e = .returned (.bool true) ∧ w = w' := by
  go_enter Try.func13, Try.ntmps13
  go_wp2
  go_ret
  exact ⟨rfl, rfl⟩
theorem big_no (a : Option Addr) (len cap : Nat) (w : World) (h : ¬ (1048576 : Int) < (len : Int)) :
    Calls Try.prog 13 #[.slice a len cap] w fun e w' => e = .returned (.bool false) ∧ w = w' := by
  go_enter Try.func13, Try.ntmps13
  go_wp2
  go_ret
  exact ⟨rfl, rfl⟩
theorem codeOk_later {w w' : World} {sv : Value} {len : Nat} (h : CodeOk w.heap.size w sv len) (hb : Below w.heap.size w w') : CodeOk w'.heap.size w' sv len := by
  obtain ⟨a, cap, e, h1, h2⟩ := h
  refine ⟨a, cap, e, h1, ?_⟩
  rcases h2 with h2 | ⟨blk, off, e2, hlt, hc⟩
  · exact Or.inl h2
  · refine Or.inr ⟨blk, off, e2, Nat.lt_of_lt_of_le hlt hb.size, fun j hj => ?_⟩
    obtain ⟨n, n0, n1, hn⟩ := hc j hj
    exact ⟨n, n0, n1, by rw [hb.cell hlt]; exact hn⟩

theorem varints_big (a : Option Addr) (len cap : Nat) (w : World) (h : (1048576 : Int) < (len : Int)) :
    Calls Try.prog 3 #[.slice a len cap] w fun e w' => e = .returned (.bool true) ∧ Below w.heap.size w w' := by
  go_enter Try.func3, Try.ntmps3
  go_wp2_with (go_at_call 13; refine (big_yes _ _ _ _ h).mono ?_; rintro e w' ⟨rfl, rfl⟩)
  go_ret
  exact ⟨rfl, Below.refl _ _⟩

set_option maxRecDepth 100000 in
set_option maxHeartbeats 4000000 in
theorem walkVarints (a0 : Option Addr) (cap : Nat) (len : Nat) (w : World) (hc : CodeOk w.heap.size w (.slice a0 len cap) len) :
    Calls Try.prog 3 #[.slice a0 len cap] w fun e w' => e = .returned (.bool true) ∧ Below w.heap.size w w' := by
  have hlen : ¬ (1048576 : Int) < (len : Int) := by obtain ⟨_, _, _, h, _⟩ := hc; omega
  have HC := Lib.hid hc; clear hc
  go_enter Try.func3, Try.ntmps3
  go_wp2_with (go_at_call 13; refine (big_no _ _ _ _ hlen).mono ?_; rintro e w' ⟨rfl, rfl⟩)
  refine (drawAU_any _ len _ HC.out).mono ?_
  rintro e w1 ⟨v, bs, n, rfl, hown, hbs, hbl, n0, n1, hb1⟩
  have HB1 := Lib.hid hb1; have HO1 := Lib.hid hown; have HBS := Lib.hid hbs; have HBL := Lib.hid hbl
  clear hb1 hown hbs hbl
  go_wp2_with fail
  refine (implU_any v w1.heap.size bs n w1 HO1.out.reads (Nat.le_refl _) (by have := HBL.out; omega)).mono ?_
  rintro e w2 ⟨x, rfl, hox, hb2⟩
  obtain ⟨X, hX⟩ : ∃ X, bs ++ vint n = X := ⟨_, rfl⟩
  rw [hX] at hox
  have hXb : Bytes X := by
    rw [← hX]; intro z hz
    rcases List.mem_append.1 hz with h | h
    · exact HBS.out z h
    · exact vint_bytes n z h
  have hXl : X.length ≤ 26 := by have h1 := vint_len n; have h2 := HBL.out; rw [← hX, List.length_append]; omega
  have HX := Lib.hid hX; have HXB := Lib.hid hXb; have HXL := Lib.hid hXl
  have HOX := Lib.hid hox
  have HOV := Lib.hid (HO1.out.later hb2)
  have HB2 := Lib.hid (HB1.out.trans (hb2.mono HB1.out.size))
  clear hX hXb hXl hox hb2
  obtain ⟨av, cv, rfl, -⟩ := HOV.out.reads
  obtain ⟨ax, cx, rfl, -⟩ := HOX.out.reads
  go_wp2_with fail
  refine (implRead_any _ w2.heap.size X bs.length w2 HOX.out.reads (Nat.le_refl _) HXB.out (by have := HXL.out; omega)).mono ?_
  rintro e w3 ⟨he, hb3⟩
  have HOX3 := Lib.hid (HOX.out.later hb3); have HOV3 := Lib.hid (HOV.out.later hb3)
  have HB3 := Lib.hid (HB2.out.trans (hb3.mono HB2.out.size))
  clear hb3
  obtain ⟨q1, q2, q3, hq⟩ : ∃ q1 q2 q3, uval bs.length (readU X bs.length) = .tuple #[.int .i64 q1, .int .i64 q2, .bool q3] := ⟨_, _, _, rfl⟩
  rw [hq] at he
  subst he
  have HQ := Lib.hid hq; clear hq
  obtain ⟨bl, hbl⟩ : ∃ bl, bs.length = bl := ⟨_, rfl⟩
  obtain ⟨xl, hxl⟩ : ∃ xl, X.length = xl := ⟨_, rfl⟩
  have HBLE := Lib.hid hbl; have HXLE := Lib.hid hxl
  rw [hbl, hxl]
  rw [hbl] at HOV3 HQ
  rw [hxl] at HOX3
  clear hbl hxl
  go_upto_region 6 with (fail)
  go_cut [40] (fun t wx => t = .bool (!inB n 0 1000000000000) ∧ wx = w3)
  case first =>
    by_cases h0 : n < 0
    · have hi : inB n 0 1000000000000 = false := inB_no (by omega)
      go_wp2_with fail
      go_meet
      exact ⟨by rw [hi]; rfl, rfl⟩
    · by_cases h1 : (1000000000000 : Int) < n
      · have hi : inB n 0 1000000000000 = false := inB_no (by omega)
        go_wp2_with fail
        go_meet
        exact ⟨by rw [hi]; rfl, rfl⟩
      · have hi : inB n 0 1000000000000 = true := inB_yes (by omega) (by omega)
        go_wp2_with fail
        go_meet
        exact ⟨by rw [hi]; rfl, rfl⟩
  case rest =>
    obtain ⟨rfl, rfl⟩ := hcut
    go_upto_if 40 with (fail)
    go_cut [] (fun wx => Below w.heap.size w wx)
    case first =>
      have hq := HQ.out
      by_cases hin : 0 ≤ n ∧ n ≤ 1000000000000
      · have hi : inB n 0 1000000000000 = true := inB_yes hin.1 hin.2
        have hX := HX.out
        have hru : readU X bl = some (n, (vint n).length) := by
          have h := readU_app bs [] hin.1 hin.2
          rw [List.append_nil, hX, HBLE.out] at h; exact h
        rw [hru] at hq
        simp only [uval, uv, un, ub, Value.tuple.injEq, Array.mk.injEq, List.cons.injEq, Value.int.injEq, Value.bool.injEq, true_and, and_true] at hq
        obtain ⟨e1, e2, e3⟩ := hq
        have e4 : q2 = (xl : Int) := by
          rw [← e2, ← HXLE.out, ← hX, List.length_append, ← HBLE.out]; omega
        subst e1 e3 e4
        rw [hi]
        clear HQ hX hru e2 hi hin
        go_wp2_with fail
        go_meet
        exact HB3.out
      · have hi : inB n 0 1000000000000 = false := inB_no (by omega)
        have ev : vint n = [] := by unfold vint; rw [if_neg hin]
        have hX : X = bs := by rw [← HX.out, ev, List.append_nil]
        have hru : readU X bl = none := by rw [hX, ← HBLE.out]; exact readU_end bs
        rw [hru] at hq
        simp only [uval, uv, un, ub, Value.tuple.injEq, Array.mk.injEq, List.cons.injEq, Value.int.injEq, Value.bool.injEq, true_and, and_true] at hq
        obtain ⟨e1, e2, e3⟩ := hq
        subst e1 e2 e3
        rw [hi]
        have HXE := Lib.hid hX
        clear HQ hX hru hi hin ev
        go_wp2_with fail
        refine (same8_any _ _ w2.heap.size w1.heap.size X _ ?_ ?_).mono ?_
        · have h := HOX3.out.reads
          exact h
        · have h := HOV3.out.reads
          rw [← HXE.out] at h
          exact h
        rintro e w4 ⟨rfl, hs⟩
        have HB4 := Lib.hid (HB3.out.trans (hs.below _)); clear hs
        go_wp2_with fail
        go_meet
        exact HB4.out
    case rest =>
      have HBC := Lib.hid hcut
      clear hcut HB1 HB2 HB3 HO1 HOV HOV3 HOX HOX3 HX HXB HXL HQ HBLE HXLE HBS HBL
      go_wp2_with fail
      refine (drawRU_any _ len _ (codeOk_later HC.out HBC.out)).mono ?_
      rintro e w5 ⟨y, ys, o, rfl, hown, hyb, hyl, o0, o1, hb5⟩
      have HOY := Lib.hid hown; have HYB := Lib.hid hyb; have HYL := Lib.hid hyl
      have HB5 := Lib.hid (HBC.out.trans (hb5.mono HBC.out.size))
      clear hown hyb hyl hb5 HBC
      obtain ⟨ay, cy, rfl, hcy, -⟩ := HOY.out.reads
      go_wp2_with fail
      refine (implRead_any _ w5.heap.size ys o w5 HOY.out.reads (Nat.le_refl _) HYB.out (by have := HYL.out; omega)).mono ?_
      rintro e w6 ⟨he, hb6⟩
      have HOY6 := Lib.hid (HOY.out.later hb6)
      have HB6 := Lib.hid (HB5.out.trans (hb6.mono HB5.out.size))
      have hs56 : w5.heap.size ≤ w6.heap.size := hb6.size
      have HS56 := Lib.hid hs56
      clear hb6 hs56
      cases hru : readU ys o with
      | none =>
        rw [hru] at he
        simp only [uval, uv, un, ub] at he
        subst he
        have HRU := Lib.hid hru; clear hru
        go_wp2_with fail
        refine (specRead_any _ w5.heap.size ys o w6 HOY6.out.reads HYB.out o0 o1 (by have := HYL.out; omega)).mono ?_
        rintro e w7 ⟨he, hb7⟩
        have HB7 := Lib.hid (HB6.out.trans (hb7.mono HB6.out.size))
        clear hb7
        rw [HRU.out] at he
        simp only [uval, uv, un, ub] at he
        subst he
        go_wp2_with fail
        go_ret
        exact ⟨rfl, HB7.out⟩
      | some q =>
        obtain ⟨m, j⟩ := q
        obtain ⟨-, m0, m1, j0, j6, hj⟩ := readU_some HYB.out hru
        have oz := (readU_some HYB.out hru).1
        obtain ⟨p, rfl⟩ := Int.eq_ofNat_of_zero_le oz
        have hvi := readU_inv HYB.out hru
        rw [Int.toNat_natCast] at hvi
        rw [hru] at he
        simp only [uval, uv, un, ub] at he
        subst he
        obtain ⟨yl, hyl⟩ : ∃ yl, ys.length = yl := ⟨_, rfl⟩
        have HYLE := Lib.hid hyl
        obtain ⟨q, hq⟩ : ∃ q : Nat, p + j = q := ⟨_, rfl⟩
        have hqi : (p : Int) + (j : Int) = (q : Int) := by omega
        rw [hyl] at hcy hj HOY6
        rw [hyl, hqi]
        have hql : q ≤ yl := by omega
        have hpq : p < q := by omega
        cases ay with
        | none => exfalso; have h := (HOY.out.reads.nil).1; rw [h] at hyl; simp at hyl; omega
        | some ad =>
        have HCUT := Lib.hid (fun (w' : World) (h : Below w6.heap.size w6 w') => show Reads .u8 w6.heap.size w' (.slice (some (ad.add p)) (q - p) (cy - p)) (vint m) by
          have h1 := reads_cut (m := j) (s := p) ((HOY6.out.reads.mono HS56.out).below h (Nat.le_refl _)) (by rw [HYLE.out]; omega)
          rw [cut_eq, ← hvi, show j = q - p by omega] at h1; exact h1)
        have hcp : ¬ cy = p := by omega
        have hd1 : (p : Int) < (q : Int) := by omega
        have hd2 : (q : Int) ≤ (yl : Int) := by omega
        have hd3 : (0 : Int) ≤ (p : Int) := by omega
        have hd4 : (p : Int) ≤ (q : Int) := by omega
        have hd5 : (q : Int) ≤ (cy : Int) := by omega
        have hd6 : p ≤ q := by omega
        have hd7 : q ≤ cy := by omega
        clear hvi hyl hru hqi hq hj j0 j6 oz
        go_wp2_with fail
        have HALL := Lib.hid (fun (o : Obj) (wA : World) (h : Below (w6.alloc o).drew.heap.size (w6.alloc o).drew wA) => show Below w6.heap.size w6 wA from ((Below.refl _ w6).alloc (Nat.le_refl _) o).drew.trans (h.mono (by show w6.heap.size ≤ (w6.alloc o).heap.size; simp)))
        go_region_held3 (fun _ => True) (trivial) (first
          | (go_at_call 15; refine (implU_any _ 0 [] m _ (reads_empty _ _ _ _) (Nat.zero_le _) (by simp)).mono ?_; rintro e wA ⟨vA, rfl, hoA, hbA⟩)
          | (go_at_call 17; refine (same8_any _ _ _ _ (vint m) _ hoA.reads (HCUT.out _ (HALL.out _ _ hbA))).mono ?_; rintro e wB ⟨rfl, hsB⟩))
        all_goals go_wp2_with fail
        all_goals go_ret
        all_goals exact ⟨rfl, (HB6.out.trans ((HALL.out _ _ hbA).mono (Nat.le_trans HB5.out.size HS56.out))).trans (hsB.below _)⟩

theorem varints_all (a : Option Addr) (len cap : Nat) (zs : List Int) (w : World) (h : IsRow .u8 w a len cap zs) :
    Calls Try.prog 3 #[.slice a len cap] w fun e w' => e = .returned (.bool true) ∧ Below w.heap.size w w' := by
  by_cases hb : (1048576 : Int) < (len : Int)
  · exact varints_big a len cap w hb
  · exact walkVarints a cap len w (code_of_row h (by omega))
end Go.Proofs.Ytemoegnijnhigaa
