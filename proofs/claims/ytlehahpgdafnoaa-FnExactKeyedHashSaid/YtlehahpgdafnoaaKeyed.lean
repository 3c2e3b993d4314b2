/- Helper contracts: KeyedHash, IsValidKey and BytesToInts of the program and of the model answer alike. Asked: the slices read as the lists named, and are no longer than 2^40. -/
import Derived.Test.YtlehahpgdafnoaaHash
namespace Go.Proofs.Ytlehahpgdafnoaa
open Go.ChangeShapes Go.WideShapes Go.ChangeAt Go.RowKit

/-- The keyed hash: the fold of the key, the numbers, the key. -/
def kh (k : Int) (zs : List Int) : Int := hashL (k :: (zs ++ [k])) (k :: (zs ++ [k])).length
theorem kh_bd (k : Int) (zs : List Int) : 0 ≤ kh k zs ∧ kh k zs < 2147483647 := hashL_bd _ _

/-- A literal of one number is the call's own. -/
theorem Mine.lit {k : IntKind} {e : TypeId} {w0 w : World} {B : Nat} (x : Int) (hb : Below B w0 w) (hB : B ≤ w.heap.size) : Mine k e B w0 (w.alloc (.cells #[.int k x] e)) (.slice (some ⟨w.heap.size, 0, none⟩) 1 1) [x] :=
  ⟨World.ownsRow_lit (base := B) (e := e) (size := 1) w #[.int k x] 1 hB (by decide) rfl, hb.alloc hB _, by simp; omega⟩

set_option maxHeartbeats 1000000 in
theorem specKH_any (k : Int) (v : Value) (hi : Nat) (zs : List Int) (w : World) (hr : Reads .i64 hi w v zs) (hh : hi ≤ w.heap.size) (hl : zs.length ≤ 1099511627776) :
    Calls Try.prog 28 #[.int .i64 k, v] w fun e w' => e = .returned (.int .i64 (kh k zs)) ∧ Below w.heap.size w w' := by
  obtain ⟨i0, hi0, hz0, hz1, hz2⟩ := info_parts info64
  have HM := Lib.hid (Mine.lit (k := .i64) (e := 3) k (Below.refl w.heap.size w) (Nat.le_refl _))
  have HR := Lib.hid (hr.below ((Below.refl w.heap.size w).alloc (Nat.le_refl _) (.cells #[.int .i64 k] 3)) hh)
  have HK := Lib.hid (show kh k zs = hashL (k :: (zs ++ [k])) (k :: (zs ++ [k])).length from rfl)
  clear hr
  go_enter Try.func28, Try.ntmps28
  go_wp2_with (at_builtin; refine wpList_app rfl _ _ 28 rfl .i64 3 i0 (.int .i64 0) 8 Try.underlying28 hi0 hz0 hz1 hz2 rfl w.heap.size w _ [k] rfl HM.out _ _ zs rfl HR.out (by decide) ?c3 ?_)
  case c3 => simp; omega
  intro v1 w1 hm1
  have HM1 := Lib.hid hm1; clear hm1
  go_wp2_with (at_builtin; refine wpList_app rfl _ _ 28 rfl .i64 3 i0 (.int .i64 0) 8 Try.underlying28 hi0 hz0 hz1 hz2 rfl w.heap.size w _ (k :: zs) rfl (HM1.out.alloc _) _ _ [k] rfl (reads_one _ _ _ rfl) (by decide) ?c4 ?_)
  case c4 => simp; omega
  intro v2 w2 hm2
  have HM2 := Lib.hid hm2; clear hm2
  go_wp2_with fail
  refine (specHash_any _ w2.heap.size (k :: (zs ++ [k])) w2 HM2.out.own.reads).mono ?_
  rintro e w3 ⟨rfl, rfl⟩
  rw [← HK.out]
  go_wp2
  go_ret
  exact ⟨rfl, HM2.out.below⟩

set_option maxHeartbeats 1000000 in
theorem implKH_any (k : Int) (v : Value) (hi : Nat) (zs : List Int) (w : World) (hr : Reads .i64 hi w v zs) (hh : hi ≤ w.heap.size) (hl : zs.length ≤ 1099511627776) :
    Calls Try.prog 18 #[.int .i64 k, v] w fun e w' => e = .returned (.int .i64 (kh k zs)) ∧ Below w.heap.size w w' := by
  have HR := Lib.hid hr
  obtain ⟨a, cap, rfl, h1, h2, h3, h4⟩ := hr
  clear h3 h4
  have HK := Lib.hid (show kh k zs = hashL (k :: (zs ++ [k])) (k :: (zs ++ [k])).length from rfl)
  obtain ⟨w1, hw1⟩ : ∃ w1, w.alloc (.cells #[.int .i64 k] 3) = w1 := ⟨_, rfl⟩
  obtain ⟨w2, hw2⟩ : ∃ w2, w1.alloc (.cells #[.int .i64 k] 3) = w2 := ⟨_, rfl⟩
  have hs1 : w1.heap.size = w.heap.size + 1 := by rw [← hw1]; simp
  have hs2 : w2.heap.size = w1.heap.size + 1 := by rw [← hw2]; simp
  have hb1 : Below w.heap.size w w1 := by rw [← hw1]; exact (Below.refl _ _).alloc (Nat.le_refl _) _
  have hb2 : Below w1.heap.size w1 w2 := by rw [← hw2]; exact (Below.refl _ _).alloc (Nat.le_refl _) _
  have hr1 : Reads .i64 w1.heap.size w2 (.slice (some ⟨w.heap.size, 0, none⟩) 1 1) [k] := by
    have h := reads_one .i64 3 w (rfl : k = k)
    rw [hw1, ← hs1] at h
    exact h.below hb2 (Nat.le_refl _)
  have hr2 : Reads .i64 w2.heap.size w2 (.slice (some ⟨w1.heap.size, 0, none⟩) 1 1) [k] := by
    have h := reads_one .i64 3 w1 (rfl : k = k)
    rw [hw2, ← hs2] at h
    exact h
  have hrz : Reads .i64 w.heap.size w2 (.slice a zs.length cap) zs := (HR.out.mono hh).below (hb1.trans (hb2.mono (by omega))) (Nat.le_refl _)
  have HW1 := Lib.hid hw1; have HW2 := Lib.hid hw2; have HS1 := Lib.hid hs1; have HS2 := Lib.hid hs2
  have HB2 := Lib.hid (hb1.trans (hb2.mono (by omega))); have HR1 := Lib.hid hr1; have HR2 := Lib.hid hr2; have HRZ := Lib.hid hrz
  clear hw1 hw2 hs1 hs2 hb1 hb2 hr1 hr2 hrz
  go_enter Try.func18, Try.ntmps18
  go_wp2_with fail
  have e1 : w.heap.size + 1 = w1.heap.size := HS1.out.symm
  have e2 : w1.heap.size + 1 = w2.heap.size := HS2.out.symm
  rw [HW1.out, HW2.out, e1, e2]
  clear e1 e2
  have hbw : Below w2.heap.size w2 (w2.alloc (.cells #[Value.slice (some ⟨w.heap.size, 0, none⟩) 1 1, Value.slice a zs.length cap, Value.slice (some ⟨w1.heap.size, 0, none⟩) 1 1] 28)) := (Below.refl _ _).alloc (Nat.le_refl _) _
  refine (concatI_any w2.heap.size 3 w2.heap.size (fun j => match j with | 0 => .slice (some ⟨w.heap.size, 0, none⟩) 1 1 | 1 => .slice a zs.length cap | _ => .slice (some ⟨w1.heap.size, 0, none⟩) 1 1) (fun j => match j with | 0 => [k] | 1 => zs | _ => [k]) _ (by simp) (by omega) ?h1 ?h2 (by simp) ?h3).mono ?_
  case h1 => intro j hj; match j, hj with
    | 0, _ => simp
    | 1, _ => simp
    | 2, _ => simp
  case h2 =>
    intro j hj; match j, hj with
    | 0, _ => exact (HR1.out.mono (by have := HS2.out; omega)).below hbw (Nat.le_refl _)
    | 1, _ => exact (HRZ.out.mono (by have := HS1.out; have := HS2.out; omega)).below hbw (Nat.le_refl _)
    | 2, _ => exact HR2.out.below hbw (Nat.le_refl _)
  case h3 => simp [cat]; omega
  rintro e w4 ⟨v4, rfl, ho4, hb4⟩
  have ec : cat (fun j => match j with | 0 => [k] | 1 => zs | _ => [k]) 3 = k :: (zs ++ [k]) := by simp [cat]
  rw [ec] at ho4
  have HO4 := Lib.hid ho4; have HB4 := Lib.hid (HB2.out.trans ((hbw.trans (hb4.mono hbw.size)).mono (by have := HS1.out; have := HS2.out; omega)))
  clear ho4 hb4 hbw ec
  go_wp2_with fail
  refine (implHash_any _ w4.heap.size (k :: (zs ++ [k])) w4 HO4.out.reads).mono ?_
  rintro e w5 ⟨rfl, rfl⟩
  rw [← HK.out]
  go_wp2
  go_ret
  exact ⟨rfl, HB4.out⟩

theorem specVK_any (k : Int) (w : World) :
    Calls Try.prog 29 #[.int .i64 k] w fun e w' => e = .returned (.bool (inB k 1 2147483646)) ∧ w = w' := by
  go_enter Try.func29, Try.ntmps29
  go_wp2_with fail
  refine (lin_any _ _ _ _).mono ?_
  rintro e w' ⟨rfl, rfl⟩
  go_wp2
  go_ret
  exact ⟨rfl, rfl⟩
theorem implVK_any (k : Int) (w : World) :
    Calls Try.prog 23 #[.int .i64 k] w fun e w' => e = .returned (.bool (inB k 1 2147483646)) ∧ w = w' := by
  go_enter Try.func23, Try.ntmps23
  go_wp2_with fail
  refine (rin_any _ _ _ _).mono ?_
  rintro e w' ⟨rfl, rfl⟩
  go_wp2
  go_ret
  exact ⟨rfl, rfl⟩

theorem take_more {zs : List Int} {k : Nat} (h : k < zs.length) : zs.take (k + 1) = zs.take k ++ [zs.getD k 0] := by
  rw [List.take_add_one, getD_at h]; rfl
/-- The length, then the numbers. -/
def b2i (zs : List Int) : List Int := (zs.length : Int) :: zs
theorem b2i_len (zs : List Int) : (b2i zs).length = zs.length + 1 := rfl

set_option maxHeartbeats 1000000 in
theorem specB2I_any (v : Value) (hi : Nat) (zs : List Int) (w : World) (hr : Reads .u8 hi w v zs) (hh : hi ≤ w.heap.size) (hzb : Bytes zs) (hl : zs.length ≤ 1099511627776) :
    Calls Try.prog 30 #[v] w (New .i64 3 (b2i zs) w) := by
  obtain ⟨i0, hi0, hz0, hz1, hz2⟩ := info_parts info64
  obtain ⟨a, cap, rfl, h1, h2, -, hcells⟩ := hr
  have HC := Lib.hid hcells; have HZB := Lib.hid hzb; clear hcells hzb
  obtain ⟨n, hn⟩ : ∃ n, zs.length = n := ⟨_, rfl⟩
  have HBI := Lib.hid (show b2i zs = (n : Int) :: zs.take n by unfold b2i; rw [← hn, List.take_length])
  rw [hn] at h1 hl HC ⊢
  have HN := Lib.hid hn; clear hn
  have HM := Lib.hid (Mine.lit (k := .i64) (e := 3) (n : Int) (Below.refl w.heap.size w) (Nat.le_refl _))
  go_enter Try.func30, Try.ntmps30
  go_wp2
  go_loopw [3, 4] (fun v i wr => ∃ k : Nat, k ≤ n ∧ i = .int .i64 k ∧ Mine .i64 3 w.heap.size w wr v ((n : Int) :: zs.take k)) (fun _ i _ => n - (intOf i).toNat)
  case atStart => exact ⟨0, Nat.zero_le _, rfl, HM.out⟩
  case round =>
    obtain ⟨k, hk, rfl, hmine⟩ := hrel
    have HMI := Lib.hid hmine; clear hmine HM
    by_cases hlt : (k : Int) < (n : Int)
    · rcases HC.out with h0 | ⟨g, off, rfl, hg, hcells⟩
      · omega
      · have c1 : wr.cell? ⟨g, off + k, none⟩ = some (.int .u8 (zs.getD k 0)) := by rw [HMI.out.below.cell (show g < w.heap.size by omega)]; exact hcells k (by omega)
        obtain ⟨z0, z1⟩ := HZB.out.at k
        have hmore := take_more (zs := zs) (k := k) (by have := HN.out; omega)
        obtain ⟨z, hz⟩ : ∃ z, zs.getD k 0 = z := ⟨_, rfl⟩
        rw [hz] at c1 z0 z1 hmore
        have HT := Lib.hid hmore
        clear hcells hz hmore
        go_wp2_with (at_builtin; refine wpList_app rfl _ _ 28 rfl .i64 3 i0 (.int .i64 0) 8 Try.underlying28 hi0 hz0 hz1 hz2 rfl w.heap.size w _ ((n : Int) :: zs.take k) rfl (HMI.out.alloc _) _ _ [z] rfl (reads_one _ _ _ rfl) (by decide) ?c3 ?_)
        case c3 => simp; omega
        intro v' w2 hm2
        have HM2 := Lib.hid (show Mine .i64 3 w.heap.size w w2 v' ((n : Int) :: zs.take (k + 1)) by rw [HT.out]; exact hm2)
        clear hm2
        go_wp2
        go_roundw
        case rel => exact ⟨k + 1, by omega, by go_num, HM2.out⟩
        case measure => simp [intOf]; omega
    · have hkn : k = n := by omega
      subst hkn
      go_wp2
      go_ret
      rw [HBI.out]
      exact ⟨_, rfl, HMI.out.own, HMI.out.below⟩

set_option maxHeartbeats 1000000 in
theorem implB2I_any (v : Value) (hi : Nat) (zs : List Int) (w : World) (hr : Reads .u8 hi w v zs) (hh : hi ≤ w.heap.size) (hzb : Bytes zs) (hl : zs.length ≤ 1099511627776) :
    Calls Try.prog 32 #[v] w (New .i64 3 (b2i zs) w) := by
  obtain ⟨i0, hi0, hz0, hz1, hz2⟩ := info_parts info64
  obtain ⟨a, cap, rfl, h1, h2, -, hcells⟩ := hr
  have HC := Lib.hid hcells; have HZB := Lib.hid hzb; clear hcells hzb
  obtain ⟨n, hn⟩ : ∃ n, zs.length = n := ⟨_, rfl⟩
  have HBI := Lib.hid (show b2i zs = (n : Int) :: zs.take n by unfold b2i; rw [← hn, List.take_length])
  rw [hn] at h1 hl HC ⊢
  have HN := Lib.hid hn; clear hn
  have HM := Lib.hid (Mine.lit (k := .i64) (e := 3) (n : Int) (Below.refl w.heap.size w) (Nat.le_refl _))
  go_enter Try.func32, Try.ntmps32
  go_wp2
  go_loopw [3, 11] (fun v i wr => ∃ k : Nat, k ≤ n ∧ i = .int .i64 k ∧ Mine .i64 3 w.heap.size w wr v ((n : Int) :: zs.take k)) (fun _ i _ => n - (intOf i).toNat)
  case atStart => exact ⟨0, Nat.zero_le _, rfl, HM.out⟩
  case round =>
    obtain ⟨k, hk, rfl, hmine⟩ := hrel
    have HMI := Lib.hid hmine; clear hmine HM
    by_cases hlt : (k : Int) < (n : Int)
    · rcases HC.out with h0 | ⟨g, off, rfl, hg, hcells⟩
      · omega
      · have c1 : wr.cell? ⟨g, off + k, none⟩ = some (.int .u8 (zs.getD k 0)) := by rw [HMI.out.below.cell (show g < w.heap.size by omega)]; exact hcells k (by omega)
        obtain ⟨z0, z1⟩ := HZB.out.at k
        have hmore := take_more (zs := zs) (k := k) (by have := HN.out; omega)
        obtain ⟨z, hz⟩ : ∃ z, zs.getD k 0 = z := ⟨_, rfl⟩
        rw [hz] at c1 z0 z1 hmore
        have HT := Lib.hid hmore
        clear hcells hz hmore
        go_wp2_with (at_builtin; refine wpList_app rfl _ _ 28 rfl .i64 3 i0 (.int .i64 0) 8 Try.underlying28 hi0 hz0 hz1 hz2 rfl w.heap.size w _ ((n : Int) :: zs.take k) rfl (HMI.out.alloc _) _ _ [z] rfl (reads_one _ _ _ rfl) (by decide) ?c3 ?_)
        case c3 => simp; omega
        intro v' w2 hm2
        have HM2 := Lib.hid (show Mine .i64 3 w.heap.size w w2 v' ((n : Int) :: zs.take (k + 1)) by rw [HT.out]; exact hm2)
        clear hm2
        go_wp2
        go_roundw
        case rel => exact ⟨k + 1, by omega, by go_num, HM2.out⟩
        case measure => simp [intOf]; omega
    · have hkn : k = n := by omega
      subst hkn
      go_wp2
      go_ret
      rw [HBI.out]
      exact ⟨_, rfl, HMI.out.own, HMI.out.below⟩
end Go.Proofs.Ytlehahpgdafnoaa
