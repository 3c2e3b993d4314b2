/- Helper contracts over the draws of chapter 2's laws: whatever the bytes, what is drawn is in range, and nothing that lay in memory before is written. -/
import Derived.Test.YtemoegnijnhigaaDrawB
namespace Go.Proofs.Ytemoegnijnhigaa
open Go.ChangeShapes Go.WideShapes Go.ChangeAt Go.RowKit

/-- A new slice of at most 20 bytes, and an integer. -/
def DrawnBI (w : World) (en : Ending) (w' : World) : Prop :=
  ∃ v zs n, en = .returned (.tuple #[v, .int .i64 n]) ∧ Own .u8 5 w.heap.size w'.heap.size w' v zs ∧ Bytes zs ∧ zs.length ≤ 20 ∧ -9223372036854775808 ≤ n ∧ n ≤ 9223372036854775807 ∧ Below w.heap.size w w'
/-- Two new slices of at most 20 bytes. -/
def DrawnBB (w : World) (en : Ending) (w' : World) : Prop :=
  ∃ v zs u ys, en = .returned (.tuple #[v, u]) ∧ Own .u8 5 w.heap.size w'.heap.size w' v zs ∧ Bytes zs ∧ zs.length ≤ 20 ∧ Own .u8 5 w.heap.size w'.heap.size w' u ys ∧ Bytes ys ∧ ys.length ≤ 20 ∧ Below w.heap.size w w'

set_option maxHeartbeats 1000000 in
theorem drawAU_any (sv : Value) (len : Nat) (w : World) (hc : CodeOk w.heap.size w sv len) :
    Calls Try.prog 14 #[sv] w (DrawnBI w) := by
  go_enter Try.func14, Try.ntmps14
  go_wp2_with fail
  refine (new_any sv len _ hc).mono ?_
  rintro e w1 ⟨rfl, hc1, hb1⟩
  have HC1 := Lib.hid hc1; have HB1 := Lib.hid hb1; clear hc1 hb1 hc
  go_wp2_with fail
  refine (below_any _ sv len 3 _ HC1.out).mono ?_
  rintro e w2 ⟨x, rfl, x0, x1, x2, hc2, ho2⟩
  have hx := x1 (by omega)
  have HC2 := Lib.hid hc2; have HK2 := Lib.hid ho2.kept; clear hc2 ho2 x1
  go_wp2_with fail
  refine (bytes_any _ sv len x 3 _ HC2.out (by omega) (by omega)).mono ?_
  rintro e w3 ⟨v, zs, rfl, hown, hzb, hzl, hc3, hk3⟩
  have HC3 := Lib.hid hc3; have HK3 := Lib.hid hk3; have HO := Lib.hid hown; have HZB := Lib.hid hzb; have HZL := Lib.hid hzl; clear hc3 hk3 hown hzb hzl
  go_wp2_with fail
  refine (one_any _ sv len _ HC3.out).mono ?_
  rintro e w4 ⟨n, rfl, n0, n1, hc4, hk4⟩
  have HK4 := Lib.hid hk4; clear hc4 hk4
  go_wp2
  go_ret2
  have hs2 := HK2.out.size
  have hs3 := HK3.out.size
  have hs4 := HK4.out.size
  have hs1 := HB1.out.size
  have hcl := HC1.out.lt
  exact ⟨v, zs, n, rfl, (own_kept HO.out HK4.out (Or.inl (by omega))).mono (by omega) (by omega), HZB.out, by have := HZL.out; omega, n0, n1, HB1.out.trans (((HK2.out.trans HK3.out).trans HK4.out).below hs1)⟩

set_option maxHeartbeats 1000000 in
theorem drawAB_any (sv : Value) (len : Nat) (w : World) (hc : CodeOk w.heap.size w sv len) :
    Calls Try.prog 20 #[sv] w (DrawnBB w) := by
  go_enter Try.func20, Try.ntmps20
  go_wp2_with fail
  refine (new_any sv len _ hc).mono ?_
  rintro e w1 ⟨rfl, hc1, hb1⟩
  have HC1 := Lib.hid hc1; have HB1 := Lib.hid hb1; clear hc1 hb1 hc
  go_wp2_with fail
  refine (below_any _ sv len 3 _ HC1.out).mono ?_
  rintro e w2 ⟨x, rfl, x0, x1, x2, hc2, ho2⟩
  have hx := x1 (by omega)
  have HC2 := Lib.hid hc2; have HK2 := Lib.hid ho2.kept; clear hc2 ho2 x1
  go_wp2_with fail
  refine (bytes_any _ sv len x 3 _ HC2.out (by omega) (by omega)).mono ?_
  rintro e w3 ⟨v, zs, rfl, hown, hzb, hzl, hc3, hk3⟩
  have HC3 := Lib.hid hc3; have HK3 := Lib.hid hk3; have HO := Lib.hid hown; have HZB := Lib.hid hzb; have HZL := Lib.hid hzl; clear hc3 hk3 hown hzb hzl
  go_wp2_with fail
  refine (below_any _ sv len 6 _ HC3.out).mono ?_
  rintro e w4 ⟨y, rfl, y0, y1, y2, hc4, ho4⟩
  have hy := y1 (by omega)
  have HC4 := Lib.hid hc4; have HK4 := Lib.hid ho4.kept; clear hc4 ho4 y1
  go_wp2_with fail
  refine (bytes_any _ sv len y 6 _ HC4.out (by omega) (by omega)).mono ?_
  rintro e w5 ⟨u, ys, rfl, hown, hzb, hzl, hc5, hk5⟩
  have HK5 := Lib.hid hk5; have HO5 := Lib.hid hown; have HYB := Lib.hid hzb; have HYL := Lib.hid hzl; clear hc5 hk5 hown hzb hzl
  go_wp2
  go_ret2
  have hs1 := HB1.out.size
  have hs2 := HK2.out.size
  have hs3 := HK3.out.size
  have hs4 := HK4.out.size
  have hs5 := HK5.out.size
  have hcl := HC1.out.lt
  exact ⟨v, zs, u, ys, rfl, (own_kept HO.out (HK4.out.trans HK5.out) (Or.inl (by omega))).mono (by omega) (by omega), HZB.out, by have := HZL.out; omega, HO5.out.mono (by omega) (Nat.le_refl _), HYB.out, by have := HYL.out; omega, HB1.out.trans ((((HK2.out.trans HK3.out).trans HK4.out).trans HK5.out).below hs1)⟩

set_option maxHeartbeats 2000000 in
theorem drawRU_any (sv : Value) (len : Nat) (w : World) (hc : CodeOk w.heap.size w sv len) :
    Calls Try.prog 18 #[sv] w (DrawnBI w) := by
  obtain ⟨i0, hi0, hz0, hz1, hz2⟩ := info_parts info8
  go_enter Try.func18, Try.ntmps18
  go_wp2_with fail
  refine (new_any sv len _ hc).mono ?_
  rintro e w1 ⟨rfl, hc1, hb1⟩
  have HC1 := Lib.hid hc1; have HB1 := Lib.hid hb1; clear hc1 hb1 hc
  go_wp2_with fail
  refine (once_any _ sv len 2 _ HC1.out).mono ?_
  rintro e w2 ⟨x, rfl, hc2, hk2⟩
  have HC2 := Lib.hid hc2; have HK2 := Lib.hid hk2; clear hc2 hk2
  have hcl : w.heap.size < w1.heap.size := HC1.out.lt
  have HCL := Lib.hid hcl; clear hcl
  cases x
  · go_wp2_with fail
    refine (below_any _ sv len 8 _ (HC2.out.alloc _)).mono ?_
    rintro e w3 ⟨y, rfl, y0, y1, y2, hc3, ho3⟩
    have hy := y1 (by omega)
    have HC3 := Lib.hid hc3; have HO3 := Lib.hid ho3; clear hc3 ho3 y1
    have hM := (Mine.empty .u8 5 w2 w2 w2.heap.size (Below.refl _ _) (Nat.le_refl _)).own
    have hM3 := own_kept hM HO3.out.kept (Or.inl (by have h1 := HCL.out; have h2 := HK2.out.size; omega))
    have hK3 : Kept w.heap.size w1 w3 := (kept_below HK2.out ((Below.refl w2.heap.size w2).alloc (Nat.le_refl _) (.cells #[] 5)) HK2.out.size).trans HO3.out.kept
    have HM3 := Lib.hid hM3; have HK3 := Lib.hid hK3
    have hs3 : w2.heap.size ≤ w3.heap.size := by rw [HO3.out.size]; simp
    have HS3 := Lib.hid hs3
    clear hM hM3 hK3 hs3
    obtain ⟨m, rfl⟩ := Int.eq_ofNat_of_zero_le y0
    go_wp2
    go_loopw [5, 6] (fun v i wr => ∃ (k : Nat) (zs : List Int), k ≤ m ∧ i = .int .i64 k ∧ zs.length + k = m ∧ Bytes zs ∧ wr.ownsRow w2.heap.size 5 1 v zs.length (zs.map (.int .u8)) ∧ w2.heap.size ≤ wr.heap.size ∧ Cur w.heap.size sv len wr ∧ Kept w.heap.size w1 wr) (fun _ i _ => (intOf i).toNat)
    case atStart => exact ⟨m, [], Nat.le_refl _, rfl, by simp, (fun z hz => by cases hz), HM3.out.1, HS3.out, HC3.out, HK3.out⟩
    case round =>
      obtain ⟨k, zs, hk, rfl, hz, hzb, hown, hsz, hcur, hkept⟩ := hrel
      have HZ := Lib.hid hz; have HZB := Lib.hid hzb; have HO := Lib.hid hown; have HS := Lib.hid hsz; have HCU := Lib.hid hcur; have HK := Lib.hid hkept
      clear hz hzb hown hsz hcur hkept HC3 HM3 HK3 HS3
      by_cases hlt : (0 : Int) < (k : Int)
      · go_wp2_with fail
        refine (int_any _ sv len _ 5 5 _ (HCU.out.alloc _) (by have h1 := HCU.out.lt; omega) (by omega) (by omega) ?_).mono ?_
        · exact cells_int _ _ _ _ (by rfl) (by simp [intCell])
        rintro e w4 ⟨x, rfl, hx0, hx1, hc4, hk4⟩
        have HC4 := Lib.hid hc4; have HK4 := Lib.hid hk4; clear hc4 hk4
        have hbl : w.heap.size < w2.heap.size := by have h1 := HCL.out; have h2 := HK2.out.size; omega
        have hown1 := own_kept (lo := w2.heap.size) (hi := wr.heap.size) ⟨HO.out, fun g hg => (HO.out.lt g hg).2⟩ ((Kept.alloc w.heap.size wr _).trans HK4.out) (Or.inl hbl)
        have hs4 : wr.heap.size ≤ w4.heap.size := ((Kept.alloc w.heap.size wr _).trans HK4.out).size
        have HM1 := Lib.hid (show Mine .u8 5 w2.heap.size w4 w4 u5 zs from ⟨hown1.1, Below.refl _ _, Nat.le_trans HS.out hs4⟩)
        have HBL := Lib.hid hbl
        clear hown1 hs4 hbl
        go_wp2_with (at_builtin; refine wpList_app rfl _ _ 22 rfl .u8 5 i0 (.int .u8 0) 1 Try.underlying22 hi0 hz0 hz1 hz2 rfl w2.heap.size w4 _ zs rfl (HM1.out.alloc _) _ _ [x % 256] rfl (reads_one _ _ _ ?cx) (by decide) ?c3 ?_)
        case cx => rfl
        case c3 => have := HZ.out; simp; omega
        intro v' w5 hm5
        have HM5 := Lib.hid hm5; clear hm5
        go_wp2
        go_roundw
        case rel => exact ⟨k - 1, zs ++ [x % 256], by omega, by go_num, by rw [List.length_append]; have := HZ.out; simp; omega, (fun z hz => by
            rcases List.mem_append.1 hz with h | h
            · exact HZB.out z h
            · simp at h; omega), HM5.out.row, HM5.out.size, cur_below HC4.out HM5.out.below HBL.out, kept_below (HK.out.trans ((Kept.alloc w.heap.size wr _).trans HK4.out)) HM5.out.below (by have := HK2.out.size; omega)⟩
        case measure => simp [intOf]; omega
      · go_wp2_with fail
        refine (below_any _ sv len 4 _ HCU.out).mono ?_
        rintro e w4 ⟨x, rfl, hx0, hx1, hx2, hc4, ho4⟩
        have hx := hx1 (by omega)
        have HK4 := Lib.hid ho4.kept; clear hc4 ho4 hx1
        go_wp2
        go_ret2
        have h1 := HCL.out
        have h2 := HK2.out.size
        have h4 := HK4.out.size
        have hown := own_kept (lo := w2.heap.size) (hi := wr.heap.size) ⟨HO.out, fun g hg => (HO.out.lt g hg).2⟩ HK4.out (Or.inl (by omega))
        exact ⟨_, zs, _, rfl, hown.mono (by omega) h4, HZB.out, by have := HZ.out; omega, by omega, by omega, HB1.out.trans ((HK.out.trans HK4.out).below HB1.out.size)⟩
  · go_wp2_with fail
    refine (bytes_any _ sv len 1 1 _ HC2.out (by omega) (by omega)).mono ?_
    rintro e w3 ⟨v, zs, rfl, hown, hzb, hzl, hc3, hk3⟩
    have HC3 := Lib.hid hc3; have HK3 := Lib.hid hk3; have HO := Lib.hid hown; have HZB := Lib.hid hzb; have HZL := Lib.hid hzl; clear hc3 hk3 hown hzb hzl
    go_wp2_with fail
    refine (num_any _ sv len _ HC3.out).mono ?_
    rintro e w4 ⟨n, rfl, n0, n1, hc4, hk4⟩
    have HK4 := Lib.hid hk4; clear hc4 hk4
    have hown4 := own_kept HO.out HK4.out (Or.inl (by have h1 := HCL.out; have h2 := HK2.out.size; omega))
    have HO4 := Lib.hid hown4; clear hown4
    go_wp2_with fail
    refine (specU_any v w3.heap.size zs n w4 HO4.out.reads HK4.out.size (by have := HZL.out; omega)).mono ?_
    rintro e w5 ⟨v5, rfl, ho5, hb5⟩
    have HO5 := Lib.hid ho5; have HB5 := Lib.hid hb5; clear ho5 hb5
    go_wp2
    go_ret2
    have h1 := HB1.out.size
    have h2 := HK2.out.size
    have h3 := HK3.out.size
    have h4 := HK4.out.size
    refine ⟨v5, _, 1, rfl, HO5.out.mono (by omega) (Nat.le_refl _), ?_, ?_, by omega, by omega, (HB1.out.trans (((HK2.out.trans HK3.out).trans HK4.out).below h1)).trans (HB5.out.mono (by omega))⟩
    · intro z hz
      rcases List.mem_append.1 hz with h | h
      · exact HZB.out z h
      · exact vint_bytes n z h
    · have := vint_len n; have := HZL.out; rw [List.length_append]; omega
end Go.Proofs.Ytemoegnijnhigaa
