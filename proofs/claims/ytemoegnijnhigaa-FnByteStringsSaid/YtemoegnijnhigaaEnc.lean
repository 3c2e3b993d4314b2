/- Helper contracts: EncodeInts of the program and of the model return the varints of the numbers behind each other, in a new slice. Asked: the slice reads as the list named, and is no longer than 2^36. -/
import Derived.Test.YtemoegnijnhigaaApp
namespace Go.Proofs.Ytemoegnijnhigaa
open Go.ChangeShapes Go.WideShapes Go.ChangeAt Go.RowKit

/-- The varints of the first k numbers. -/
def enc (zs : List Int) : Nat → List Int
  | 0 => []
  | k + 1 => enc zs k ++ vint (zs.getD k 0)
theorem enc_len (zs : List Int) : ∀ k, (enc zs k).length ≤ 6 * k := by
  intro k
  induction k with
  | zero => simp [enc]
  | succ k ih => have := vint_len (zs.getD k 0); simp only [enc, List.length_append]; omega

set_option maxHeartbeats 1000000 in
theorem specEnc_any (v : Value) (hi : Nat) (zs : List Int) (w : World) (hr : Reads .i64 hi w v zs) (hh : hi ≤ w.heap.size) (hl : zs.length ≤ 68719476736) :
    Calls Try.prog 34 #[v] w (New .u8 5 (enc zs zs.length) w) := by
  have HM := Lib.hid (Mine.empty .u8 5 w w w.heap.size (Below.refl _ _) (Nat.le_refl _))
  obtain ⟨a, cap, rfl, h1, h2, -, hcells⟩ := hr
  have HC := Lib.hid hcells; clear hcells
  obtain ⟨n, hn⟩ : ∃ n, zs.length = n := ⟨_, rfl⟩
  rw [hn] at h1 hl HC ⊢
  go_enter Try.func34, Try.ntmps34
  go_wp2
  go_loopw [3, 4] (fun v i wr => ∃ k : Nat, k ≤ n ∧ i = .int .i64 k ∧ Mine .u8 5 w.heap.size w wr v (enc zs k)) (fun _ i _ => n - (intOf i).toNat)
  case atStart => exact ⟨0, Nat.zero_le _, rfl, HM.out⟩
  case round =>
    obtain ⟨k, hk, rfl, hmine⟩ := hrel
    have HMI := Lib.hid hmine; clear hmine HM
    by_cases hlt : (k : Int) < (n : Int)
    · rcases HC.out with h0 | ⟨g, off, rfl, hg, hcells⟩
      · omega
      · have c1 : wr.cell? ⟨g, off + k, none⟩ = some (.int .i64 (zs.getD k 0)) := by rw [HMI.out.below.cell (show g < w.heap.size by omega)]; exact hcells k (by omega)
        obtain ⟨z, hz⟩ : ∃ z, zs.getD k 0 = z := ⟨_, rfl⟩
        rw [hz] at c1
        have HZ := Lib.hid hz
        clear hcells hz
        go_wp2_with fail
        refine (specU_any _ wr.heap.size (enc zs k) z wr HMI.out.own.reads (Nat.le_refl _) (by have := enc_len zs k; omega)).mono ?_
        rintro e w1 ⟨v1, rfl, ho1, hb1⟩
        have HM1 := Lib.hid (show Mine .u8 5 w.heap.size w w1 v1 (enc zs (k + 1)) from ⟨by simp only [enc]; rw [HZ.out]; exact (ho1.mono HMI.out.size (Nat.le_refl _)).1, HMI.out.below.trans (hb1.mono HMI.out.size), Nat.le_trans HMI.out.size hb1.size⟩)
        clear ho1 hb1
        go_wp2
        go_roundw
        case rel => exact ⟨k + 1, by omega, by go_num, HM1.out⟩
        case measure => simp [intOf]; omega
    · have hkn : k = n := by omega
      subst hkn
      go_wp2
      go_ret
      exact ⟨_, rfl, HMI.out.own, HMI.out.below⟩

set_option maxHeartbeats 1000000 in
theorem implEnc_any (v : Value) (hi : Nat) (zs : List Int) (w : World) (hr : Reads .i64 hi w v zs) (hh : hi ≤ w.heap.size) (hl : zs.length ≤ 68719476736) :
    Calls Try.prog 24 #[v] w (New .u8 5 (enc zs zs.length) w) := by
  obtain ⟨i0, hi0, hz0, hz1, hz2⟩ := info_parts info8
  have HM := Lib.hid (Mine.empty .u8 5 w w w.heap.size (Below.refl _ _) (Nat.le_refl _))
  obtain ⟨a, cap, rfl, h1, h2, -, hcells⟩ := hr
  have HC := Lib.hid hcells; clear hcells
  obtain ⟨n, hn⟩ : ∃ n, zs.length = n := ⟨_, rfl⟩
  rw [hn] at h1 hl HC ⊢
  go_enter Try.func24, Try.ntmps24
  go_wp2
  go_loopw [3, 9] (fun v i wr => ∃ k : Nat, k ≤ n ∧ i = .int .i64 k ∧ Mine .u8 5 w.heap.size w wr v (enc zs k)) (fun _ i _ => n - (intOf i).toNat)
  case atStart => exact ⟨0, Nat.zero_le _, rfl, HM.out⟩
  case round =>
    obtain ⟨k, hk, rfl, hmine⟩ := hrel
    have HMI := Lib.hid hmine; clear hmine HM
    by_cases hlt : (k : Int) < (n : Int)
    · rcases HC.out with h0 | ⟨g, off, rfl, hg, hcells⟩
      · omega
      · have c1 : wr.cell? ⟨g, off + k, none⟩ = some (.int .i64 (zs.getD k 0)) := by rw [HMI.out.below.cell (show g < w.heap.size by omega)]; exact hcells k (by omega)
        obtain ⟨z, hz⟩ : ∃ z, zs.getD k 0 = z := ⟨_, rfl⟩
        rw [hz] at c1
        have HZ := Lib.hid hz
        clear hcells hz
        go_wp2_with fail
        refine (varint_any z wr).mono ?_
        rintro e w1 ⟨v1, rfl, ho1, hb1⟩
        have HM1 := Lib.hid (HMI.out.later hb1)
        have HR1 := Lib.hid ho1.reads
        clear ho1 hb1
        go_wp2_with (at_builtin; refine wpList_app rfl _ _ 22 rfl .u8 5 i0 (.int .u8 0) 1 Try.underlying22 hi0 hz0 hz1 hz2 rfl w.heap.size w _ (enc zs k) rfl HM1.out _ _ (vint z) rfl HR1.out (by decide) ?c3 ?_)
        case c3 => have h3 := enc_len zs k; have h4 := vint_len z; omega
        intro v' w2 hm2
        have HM2 := Lib.hid (show Mine .u8 5 w.heap.size w w2 v' (enc zs (k + 1)) from by simp only [enc]; rw [HZ.out]; exact hm2)
        clear hm2
        go_wp2
        go_roundw
        case rel => exact ⟨k + 1, by omega, by go_num, HM2.out⟩
        case measure => simp [intOf]; omega
    · have hkn : k = n := by omega
      subst hkn
      go_wp2
      go_ret
      exact ⟨_, rfl, HMI.out.own, HMI.out.below⟩
end Go.Proofs.Ytemoegnijnhigaa
