/- Helper contracts: KeyedHash, IsValidKey and BytesToInts of the program and of the model answer alike. Asked: the slices read as the lists named, and are no longer than 2^40. -/
import Derived.Test.YtgcdfkpidcdicaaDoorHash
namespace Go.Proofs.YtgcdfkpidcdicaaDoor
open Go.ChangeShapes Go.WideShapes Go.ChangeAt Go.RowKit

/-- The keyed hash: the fold of the key, the numbers, the key. -/
def kh (k : Int) (zs : List Int) : Int := hashL (k :: (zs ++ [k])) (k :: (zs ++ [k])).length
theorem kh_bd (k : Int) (zs : List Int) : 0 ≤ kh k zs ∧ kh k zs < 2147483647 := hashL_bd _ _

/-- A literal of one number is the call's own. -/
theorem Mine.lit {k : IntKind} {e : TypeId} {w0 w : World} {B : Nat} (x : Int) (hb : Below B w0 w) (hB : B ≤ w.heap.size) : Mine k e B w0 (w.alloc (.cells #[.int k x] e)) (.slice (some ⟨w.heap.size, 0, none⟩) 1 1) [x] :=
  ⟨World.ownsRow_lit (base := B) (e := e) (size := 1) w #[.int k x] 1 hB (by decide) rfl, hb.alloc hB _, by simp; omega⟩

theorem take_more {zs : List Int} {k : Nat} (h : k < zs.length) : zs.take (k + 1) = zs.take k ++ [zs.getD k 0] := by
  rw [List.take_add_one, getD_at h]; rfl
/-- The length, then the numbers. -/
def b2i (zs : List Int) : List Int := (zs.length : Int) :: zs
theorem b2i_len (zs : List Int) : (b2i zs).length = zs.length + 1 := rfl

set_option maxHeartbeats 1000000 in
theorem specB2I_any (v : Value) (hi : Nat) (zs : List Int) (w : World) (hr : Reads .u8 hi w v zs) (hh : hi ≤ w.heap.size) (hzb : Bytes zs) (hl : zs.length ≤ 1099511627776) :
    Calls Tryd.prog 70 #[v] w (New .i64 3 (b2i zs) w) := by
  obtain ⟨i0, hi0, hz0, hz1, hz2⟩ := info_parts info64
  obtain ⟨a, cap, rfl, h1, h2, -, hcells⟩ := hr
  have HC := Lib.hid hcells; have HZB := Lib.hid hzb; clear hcells hzb
  obtain ⟨n, hn⟩ : ∃ n, zs.length = n := ⟨_, rfl⟩
  have HBI := Lib.hid (show b2i zs = (n : Int) :: zs.take n by unfold b2i; rw [← hn, List.take_length])
  rw [hn] at h1 hl HC ⊢
  have HN := Lib.hid hn; clear hn
  have HM := Lib.hid (Mine.lit (k := .i64) (e := 3) (n : Int) (Below.refl w.heap.size w) (Nat.le_refl _))
  go_enter Tryd.func70, Tryd.ntmps70
  go_wp2
  go_loopw [3, 4] (fun v i wr => ∃ k : Nat, k ≤ n ∧ i = .int .i64 k ∧ Mine .i64 3 w.heap.size w wr v ((n : Int) :: zs.take k)) (fun _ i _ => n - (intOf i).toNat)
  case atStart => exact ⟨0, Nat.zero_le _, rfl, HM.out⟩
  case round =>
    obtain ⟨k, hk, rfl, hmine⟩ := hrel
    have HMI := Lib.hid hmine; clear hmine HM
    by_cases hlt : (k : Int) < (n : Int)
    · rcases HC.out with h0 | ⟨g, off, rfl, hg, hcells⟩
      · omega
      · have c1 : wr.cell? ⟨g, off + k, none⟩ = some (.int .u8 (zs.getD k 0)) := by rw [HMI.out.below.cell (show g < w.heap.size by omega)]; exact hcells k (by omega)
        obtain ⟨z0, z1⟩ := HZB.out.at k
        have hmore := take_more (zs := zs) (k := k) (by have := HN.out; omega)
        obtain ⟨z, hz⟩ : ∃ z, zs.getD k 0 = z := ⟨_, rfl⟩
        rw [hz] at c1 z0 z1 hmore
        have HT := Lib.hid hmore
        clear hcells hz hmore
        go_wp2_with (at_builtin; refine wpList_app rfl _ _ 79 rfl .i64 3 i0 (.int .i64 0) 8 Tryd.underlying79 hi0 hz0 hz1 hz2 rfl w.heap.size w _ ((n : Int) :: zs.take k) rfl (HMI.out.alloc _) _ _ [z] rfl (reads_one _ _ _ rfl) (by decide) ?c3 ?_)
        case c3 => simp; omega
        intro v' w2 hm2
        have HM2 := Lib.hid (show Mine .i64 3 w.heap.size w w2 v' ((n : Int) :: zs.take (k + 1)) by rw [HT.out]; exact hm2)
        clear hm2
        go_wp2
        go_roundw
        case rel => exact ⟨k + 1, by omega, by go_num, HM2.out⟩
        case measure => simp [intOf]; omega
    · have hkn : k = n := by omega
      subst hkn
      go_wp2
      go_ret
      rw [HBI.out]
      exact ⟨_, rfl, HMI.out.own, HMI.out.below⟩

set_option maxHeartbeats 1000000 in
theorem implB2I_any (v : Value) (hi : Nat) (zs : List Int) (w : World) (hr : Reads .u8 hi w v zs) (hh : hi ≤ w.heap.size) (hzb : Bytes zs) (hl : zs.length ≤ 1099511627776) :
    Calls Tryd.prog 73 #[v] w (New .i64 3 (b2i zs) w) := by
  obtain ⟨i0, hi0, hz0, hz1, hz2⟩ := info_parts info64
  obtain ⟨a, cap, rfl, h1, h2, -, hcells⟩ := hr
  have HC := Lib.hid hcells; have HZB := Lib.hid hzb; clear hcells hzb
  obtain ⟨n, hn⟩ : ∃ n, zs.length = n := ⟨_, rfl⟩
  have HBI := Lib.hid (show b2i zs = (n : Int) :: zs.take n by unfold b2i; rw [← hn, List.take_length])
  rw [hn] at h1 hl HC ⊢
  have HN := Lib.hid hn; clear hn
  have HM := Lib.hid (Mine.lit (k := .i64) (e := 3) (n : Int) (Below.refl w.heap.size w) (Nat.le_refl _))
  go_enter Tryd.func73, Tryd.ntmps73
  go_wp2
  go_loopw [3, 11] (fun v i wr => ∃ k : Nat, k ≤ n ∧ i = .int .i64 k ∧ Mine .i64 3 w.heap.size w wr v ((n : Int) :: zs.take k)) (fun _ i _ => n - (intOf i).toNat)
  case atStart => exact ⟨0, Nat.zero_le _, rfl, HM.out⟩
  case round =>
    obtain ⟨k, hk, rfl, hmine⟩ := hrel
    have HMI := Lib.hid hmine; clear hmine HM
    by_cases hlt : (k : Int) < (n : Int)
    · rcases HC.out with h0 | ⟨g, off, rfl, hg, hcells⟩
      · omega
      · have c1 : wr.cell? ⟨g, off + k, none⟩ = some (.int .u8 (zs.getD k 0)) := by rw [HMI.out.below.cell (show g < w.heap.size by omega)]; exact hcells k (by omega)
        obtain ⟨z0, z1⟩ := HZB.out.at k
        have hmore := take_more (zs := zs) (k := k) (by have := HN.out; omega)
        obtain ⟨z, hz⟩ : ∃ z, zs.getD k 0 = z := ⟨_, rfl⟩
        rw [hz] at c1 z0 z1 hmore
        have HT := Lib.hid hmore
        clear hcells hz hmore
        go_wp2_with (at_builtin; refine wpList_app rfl _ _ 79 rfl .i64 3 i0 (.int .i64 0) 8 Tryd.underlying79 hi0 hz0 hz1 hz2 rfl w.heap.size w _ ((n : Int) :: zs.take k) rfl (HMI.out.alloc _) _ _ [z] rfl (reads_one _ _ _ rfl) (by decide) ?c3 ?_)
        case c3 => simp; omega
        intro v' w2 hm2
        have HM2 := Lib.hid (show Mine .i64 3 w.heap.size w w2 v' ((n : Int) :: zs.take (k + 1)) by rw [HT.out]; exact hm2)
        clear hm2
        go_wp2
        go_roundw
        case rel => exact ⟨k + 1, by omega, by go_num, HM2.out⟩
        case measure => simp [intOf]; omega
    · have hkn : k = n := by omega
      subst hkn
      go_wp2
      go_ret
      rw [HBI.out]
      exact ⟨_, rfl, HMI.out.own, HMI.out.below⟩
end Go.Proofs.YtgcdfkpidcdicaaDoor
