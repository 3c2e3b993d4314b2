/- The walk of the law FnKeyedHash: it returns true, and writes nothing that was there. -/
import Derived.Test.YtlehahpgdafnoaaKeyedLaw
namespace Go.Proofs.Ytlehahpgdafnoaa
open Go.ChangeShapes Go.WideShapes Go.ChangeAt Go.RowKit

theorem keyed_big (a : Option Addr) (len cap : Nat) (w : World) (h : (1048576 : Int) < (len : Int)) :
    Calls Try.prog 4 #[.slice a len cap] w fun e w' => e = .returned (.bool true) ∧ Below w.heap.size w w' := by
  go_enter Try.func4, Try.ntmps4
  go_wp2_with (go_at_call 12; refine (big_yes _ _ _ _ h).mono ?_; rintro e w' ⟨rfl, rfl⟩)
  go_ret
  exact ⟨rfl, Below.refl _ _⟩

set_option maxRecDepth 100000 in
set_option maxHeartbeats 4000000 in
theorem walkKeyed (a0 : Option Addr) (cap : Nat) (len : Nat) (w : World) (hc : CodeOk w.heap.size w (.slice a0 len cap) len) :
    Calls Try.prog 4 #[.slice a0 len cap] w fun e w' => e = .returned (.bool true) ∧ Below w.heap.size w w' := by
  obtain ⟨i0, hi0, hz0, hz1, hz2⟩ := info_parts info64
  have hlen : ¬ (1048576 : Int) < (len : Int) := by obtain ⟨_, _, _, h, _⟩ := hc; omega
  have HC := Lib.hid hc; clear hc
  go_enter Try.func4, Try.ntmps4
  go_wp2_with (go_at_call 12; refine (big_no _ _ _ _ hlen).mono ?_; rintro e w' ⟨rfl, rfl⟩)
  refine (drawKH_any _ len _ HC.out).mono ?_
  rintro e w1 ⟨k, v, zs, rfl, hk, hown, hzb, hzl, hb1⟩
  have HB1 := Lib.hid hb1; have HO1 := Lib.hid hown; have HZB := Lib.hid hzb; have HZL := Lib.hid hzl
  clear hb1 hown hzb hzl hk
  go_wp2_with fail
  refine (implKH_any k _ w1.heap.size zs w1 HO1.out.reads (Nat.le_refl _) (by have := HZL.out; omega)).mono ?_
  rintro e w2 ⟨rfl, hb2⟩
  obtain ⟨hq0, hq1⟩ := kh_bd k zs
  obtain ⟨q, hq⟩ : ∃ q, kh k zs = q := ⟨_, rfl⟩
  rw [hq] at hq0 hq1 ⊢
  have HQ := Lib.hid hq; clear hq
  have hd0 : decide (q < 0) = false := decide_eq_false (by omega)
  have hd1 : decide (2147483647 ≤ q) = false := decide_eq_false (by omega)
  have HO2 := Lib.hid (HO1.out.later hb2); have HB2 := Lib.hid (HB1.out.trans (hb2.mono HB1.out.size)); have HS2 := Lib.hid hb2.size
  clear hb2
  obtain ⟨av, cv, rfl, -⟩ := HO2.out.reads
  have HM2 := Lib.hid (Mine.lit (k := .i64) (e := 3) k (Below.refl w2.heap.size w2) (Nat.le_refl _))
  have HR2 := Lib.hid (HO2.out.reads.below ((Below.refl w2.heap.size w2).alloc (Nat.le_refl _) (.cells #[.int .i64 k] 3)) HS2.out)
  go_wp2_with (at_builtin; go_loud (refine wpList_app_g (by rfl) _ _ 28 rfl .i64 3 i0 (.int .i64 0) 8 Try.underlying28 hi0 hz0 hz1 hz2 rfl w2.heap.size w2 _ [k] rfl HM2.out _ _ zs rfl HR2.out (by decide) ?c3 ?_))
  case c3 => have := HZL.out; simp; omega
  intro v3 w3 hm3
  have HM3 := Lib.hid hm3; clear hm3
  go_wp2_with (at_builtin; refine wpList_app_g (by rfl) _ _ 28 rfl .i64 3 i0 (.int .i64 0) 8 Try.underlying28 hi0 hz0 hz1 hz2 rfl w2.heap.size w2 _ (k :: zs) rfl (HM3.out.alloc _) _ _ [k] rfl (reads_one _ _ _ rfl) (by decide) ?c4 ?_)
  case c4 => have := HZL.out; simp; omega
  intro v4 w4 hm4
  have HM4 := Lib.hid hm4; clear hm4
  go_wp2_with fail
  refine (implHash_any _ w4.heap.size (k :: (zs ++ [k])) w4 HM4.out.own.reads).mono ?_
  rintro e w5 ⟨rfl, rfl⟩
  have HK := Lib.hid (show kh k zs = hashL (k :: (zs ++ [k])) (k :: (zs ++ [k])).length from rfl)
  rw [← HK.out, HQ.out]
  have HO4 := Lib.hid (HO2.out.later HM4.out.below); have HB4 := Lib.hid (HB2.out.trans (HM4.out.below.mono HB2.out.size)); have HS4 := Lib.hid HM4.out.size
  clear HM2 HR2 HM3 HM4 HK
  go_upto_if 40 with (fail)
  obtain ⟨n, hn⟩ : ∃ n, zs.length = n := ⟨_, rfl⟩
  have HN := Lib.hid hn
  rw [hn] at HO4 ⊢
  clear HO1 HO2 HB1 HB2 HS2 hd0 hd1 hn
  go_cut [] (fun wx => Below w.heap.size w wx)
  case first =>
    by_cases hz : (0 : Int) < (n : Int)
    · have HM4 := Lib.hid (Mine.empty .i64 3 w4 w4 w4.heap.size (Below.refl _ _) (Nat.le_refl _))
      have HR4 := Lib.hid (show Reads .i64 w1.heap.size (w4.alloc (.cells #[] 3)) (.slice av n cv) zs from (HO4.out.later ((Below.refl w4.heap.size w4).alloc (Nat.le_refl _) (.cells #[] 3))).reads)
      go_wp2_with (at_builtin; refine wpList_app rfl _ _ 28 rfl .i64 3 i0 (.int .i64 0) 8 Try.underlying28 hi0 hz0 hz1 hz2 rfl w4.heap.size w4 _ [] rfl HM4.out _ _ zs rfl HR4.out (by decide) ?c5 ?_)
      case c5 => have := HZL.out; simp; omega
      intro v5 w5 hm5
      have HM5 := Lib.hid (show Mine .i64 3 w4.heap.size w4 w5 v5 zs from hm5); clear hm5 HM4 HR4
      obtain ⟨g, cp, hv5, hg, hcp⟩ : ∃ g cp, v5 = .slice (some ⟨g, 0, none⟩) n cp ∧ w4.heap.size ≤ g ∧ n ≤ cp := by
        have h5 := HM5.out.row
        rw [HN.out] at h5
        rcases h5.2 with ⟨_, h0⟩ | ⟨g, cp, cur, h1, h2, _, h4, _⟩
        · omega
        · exact ⟨g, cp, h1, h2, h4⟩
      subst hv5
      have HCO := Lib.hid (codeOk_later HC.out (HB4.out.trans (HM5.out.below.mono HB4.out.size)))
      go_wp2_with fail
      refine (at_any a0 cap len 0 w5 HCO.out (by omega) (by omega)).mono ?_
      rintro e w6 ⟨⟨x0, rfl, x00, x01⟩, rfl⟩
      obtain ⟨i, hi⟩ : ∃ i : Nat, x0 % (n : Int) = i := ⟨(x0 % (n : Int)).toNat, by rw [Int.toNat_of_nonneg (Int.emod_nonneg _ (by omega))]⟩
      have hin : (i : Int) < (n : Int) := by rw [← hi]; exact Int.emod_lt_of_pos _ hz
      have hit : x0.tmod (n : Int) = i := by rw [Int.tmod_eq_emod_of_nonneg x00]; exact hi
      have hnz : ¬ (n : Int) = 0 := by omega
      obtain ⟨z, hzz⟩ : ∃ z, zs.getD i 0 = z := ⟨_, rfl⟩
      have hzw : Word z := by rw [← hzz, List.getD_eq_getElem?_getD, List.getElem?_eq_getElem (by have := HN.out; omega)]; exact HZB.out _ (List.getElem_mem _)
      obtain ⟨zw0, zw1⟩ := hzw
      have HZ := Lib.hid hzz
      have hrow : w5.ownsRow w4.heap.size 3 1 (.slice (some ⟨g, 0, none⟩) n cp) n (zs.map (.int .i64)) := by have h5 := HM5.out.row; rw [HN.out] at h5; exact h5
      have HROW := Lib.hid hrow
      have c1 : w5.cell? ⟨g, i, none⟩ = some (.int .i64 z) := by
        rw [hrow.cellAt i (by omega), List.getElem?_map, getD_at (by have := HN.out; omega), hzz]; rfl
      have f1 : w5.frozen? ⟨g, i, none⟩ = false := hrow.frozenAt i
      have hwz : IntKind.i64.wrap (z + 1) = z + 1 := by rw [IntKind.wrap_i64]; omega
      have hd1 : (0 : Int) ≤ (i : Int) := by omega
      have hd2 : i < n := by omega
      have hd3 : ¬ (n : Int) ≤ (i : Int) := by omega
      have hd4 : ¬ (i : Int) < 0 := by omega
      have HCD := Lib.hid (show CodeOk w5.drew.heap.size w5.drew (.slice a0 len cap) len from HCO.out)
      clear hzz hrow
      go_upto_region 10 with (fail)
      clear hi hit hnz
      go_region_with (first
        | (go_at_call 20; refine (at_any a0 cap len 1 _ HCD.out (by omega) (by omega)).mono ?_; rintro e wq ⟨⟨x1, rfl, x10, x11⟩, rfl⟩; have hw2 : IntKind.i64.wrap (z + 1 + x1) = z + 1 + x1 := by rw [IntKind.wrap_i64]; omega)
        | (go_at_call 21; refine (mod_spec _ _ _).mono ?_; rintro e wq ⟨rfl, rfl⟩))
      all_goals
        obtain ⟨y, hy⟩ : ∃ y, modI (z + 1 + x1) 2147483647 = y := ⟨_, rfl⟩
        have hyd : modI y 2147483647 ≠ modI (zs.getD i 0) 2147483647 := by rw [HZ.out, ← hy]; exact mod_moved x10 x11
        have hkn := kh_ne (k := k) (zs := zs) (i := i) (y := y) (by have := HN.out; omega) hyd
        rw [HQ.out] at hkn
        rw [hy]
        have hst := HROW.out.stored i (.int .i64 y)
        have hown : Own .i64 3 w4.heap.size w5.heap.size (w5.setCell ⟨g, i, none⟩ (.int .i64 y)).drew (.slice (some ⟨g, 0, none⟩) n cp) (zs.set i y) := by
          refine ⟨?_, fun b hb => by cases hb; exact (HROW.out.lt g rfl).2⟩
          rw [List.length_set, HN.out, List.map_set]
          exact hst.1
        have hbel : Below w4.heap.size w4 (w5.setCell ⟨g, i, none⟩ (.int .i64 y)).drew := (HM5.out.below.setCell (p := ⟨g, i, none⟩) hg _).drew
        have hsz : w5.heap.size ≤ (w5.setCell ⟨g, i, none⟩ (.int .i64 y)).drew.heap.size := hst.2.size
        obtain ⟨wN, hwN⟩ : ∃ wN, (w5.setCell ⟨g, i, none⟩ (.int .i64 y)).drew = wN := ⟨_, rfl⟩
        rw [hwN] at hown hbel hsz ⊢
        have HOW := Lib.hid hown; have HBL := Lib.hid hbel; have HSZ := Lib.hid hsz; have HKN := Lib.hid hkn
        clear hown hbel hsz hkn hst hyd hy hwN c1 f1 hw2 hwz
        go_wp2_with fail
        refine (implKH_any k _ w5.heap.size (zs.set i y) wN HOW.out.reads HSZ.out (by rw [List.length_set]; have := HZL.out; omega)).mono ?_
        rintro e w6 ⟨rfl, hb6⟩
        have HB6 := Lib.hid ((HB4.out.trans (HBL.out.mono HB4.out.size)).trans (hb6.mono (Nat.le_trans HB4.out.size HBL.out.size)))
        obtain ⟨q', hq'⟩ : ∃ q', kh k (zs.set i y) = q' := ⟨_, rfl⟩
        rw [hq']
        have hne : ¬ q' = q := by rw [← hq']; exact HKN.out
        clear hq' hb6
        go_wp2_with fail
        go_meet
        exact HB6.out
    · have hz0 : decide ((0 : Int) < (n : Int)) = false := decide_eq_false hz
      go_wp2_with fail
      go_meet
      exact HB4.out
  case rest =>
    have HBC := Lib.hid hcut
    clear hcut HB4 HO4 HS4 HN HQ HZB HZL hq0 hq1
    go_wp2_with fail
    refine (drawDS_any _ len _ (codeOk_later HC.out HBC.out)).mono ?_
    rintro e w7 ⟨k2, s2, rfl, -, hs2, hb7⟩
    have HB7 := Lib.hid (HBC.out.trans (hb7.mono HBC.out.size)); have HSS := Lib.hid hs2; clear hb7 hs2
    go_wp2_with fail
    refine (implDer_any k2 s2 w7 (by have := HSS.out; omega)).mono ?_
    rintro e w8 ⟨rfl, hb8⟩
    have HB8 := Lib.hid (HB7.out.trans (hb8.mono HB7.out.size)); clear hb8
    have hin : inB (derive k2 s2) 1 2147483646 = true := inB_yes (derive_bd k2 s2).1 (derive_bd k2 s2).2
    go_wp2_with fail
    refine (implVK_any _ _).mono ?_
    rintro e w9 ⟨rfl, rfl⟩
    rw [hin]
    go_wp2_with fail
    go_ret
    exact ⟨rfl, HB8.out⟩

theorem keyed_all (a : Option Addr) (len cap : Nat) (zs : List Int) (w : World) (h : IsRow .u8 w a len cap zs) :
    Calls Try.prog 4 #[.slice a len cap] w fun e w' => e = .returned (.bool true) ∧ Below w.heap.size w w' := by
  by_cases hb : (1048576 : Int) < (len : Int)
  · exact keyed_big a len cap w hb
  · exact walkKeyed a cap len w (code_of_row h (by omega))
end Go.Proofs.Ytlehahpgdafnoaa
