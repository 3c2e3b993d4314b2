/- Helper contracts over the library's slices.Grow and slices.Concat at integers: a new slice that holds the given ones behind each other. Asked: the slices read as the lists named, and together they are no longer than 2^44. -/
import Derived.Test.YtlehahpgdafnoaaOwn
import Derived.Test.YtlehahpgdafnoaaConcat
import Derived.Test.YtlehahpgdafnoaaHelpI
namespace Go.Proofs.Ytlehahpgdafnoaa
open Go.ChangeShapes Go.WideShapes Go.ChangeAt Go.RowKit

set_option maxHeartbeats 1000000 in
theorem growI_any (n : Nat) (w : World) (hn : n ≤ 17592186044416) :
    Calls Try.prog 57 #[.slice none 0 0, .int .i64 n] w (Making .i64 3 [] w) := by
  obtain ⟨i0, hi0, hz0, hz1, hz2⟩ := info_parts info64
  have HM := Lib.hid (Mine.nil .i64 3 w w w.heap.size (Below.refl _ _) (Nat.le_refl _))
  by_cases h0 : n = 0
  · subst h0
    go_enter Try.func57, Try.ntmps57
    go_wp2
    go_ret
    exact ⟨_, rfl, HM.out⟩
  · have hrun := Lib.run_append_nil_zeros (P := Try.prog) w 28 3 28 3 i0 (.int .i64 0) .i64 .i64 Try.underlying28 Try.underlying3 hi0 hz0 n (by omega) (by omega) (by omega) (by rw [hz2]; omega)
    have HR := Lib.hid hrun; clear hrun
    have hc1 : n ≤ grownCap w n 0 3 := grownCap_ge _ _ _ _
    have hc2 : grownCap w n 0 3 ≤ maxLen := grownCap_le_maxLen _ _ _ _ (by unfold maxLen; omega)
    have hM := World.ownsRow_made (base := w.heap.size) (e := 3) (size := 1) w.drew (Builtin.zeroCells (Value.int .i64 0).cells n ++ Builtin.zeroCells (Value.int .i64 0).cells (grownCap w n 0 3 - n)) (grownCap w n 0 3) (Nat.le_refl _) hc2 (by
      rw [Array.size_append, size_zeroCells, size_zeroCells]
      simp [Value.cells]; omega)
    have HC1 := Lib.hid hc1; have HC2 := Lib.hid hc2; have HO := Lib.hid hM
    clear hc1 hc2 hM
    go_enter Try.func57, Try.ntmps57
    go_wp2_with (at_builtin; refine Lib.wpList_append_run _ rfl _ _ _ _ rfl _ _ rfl rfl _ _ HR.out ?_)
    generalize grownCap w n 0 3 = c at *
    have hc2 := HC2.out; unfold maxLen at hc2
    have hc1 := HC1.out
    go_wp2
    go_ret
    exact ⟨_, rfl, HO.out, (Below.refl _ _).drew.alloc (Nat.le_refl _) _, by simp⟩

set_option maxHeartbeats 1000000 in
theorem concatI_any (g m hi : Nat) (vs : Nat → Value) (zs : Nat → List Int) (w : World) (hg : g < w.heap.size) (hm : m ≤ 3) (hcell : ∀ j, j < m → w.cell? ⟨g, j, none⟩ = some (vs j))
    (hr : ∀ j, j < m → Reads .i64 hi w (vs j) (zs j)) (hh : hi ≤ w.heap.size) (hl : (cat zs m).length ≤ 17592186044416) :
    Calls Try.prog 47 #[.slice (some ⟨g, 0, none⟩) m m] w (New .i64 3 (cat zs m) w) := by
  obtain ⟨i0, hi0, hz0, hz1, hz2⟩ := info_parts info64
  have HCE := Lib.hid hcell; have HR := Lib.hid hr; have HL := Lib.hid (cat_le zs m); have HLM := Lib.hid hl
  clear hcell hr
  go_enter Try.func47, Try.ntmps47
  go_wp2
  go_loop [3, 11] (fun s i => ∃ j : Nat, j ≤ m ∧ i = .int .i64 j ∧ s = .int .i64 ((cat zs j).length : Nat)) (fun _ i => m - (intOf i).toNat)
  case atStart => exact ⟨0, Nat.zero_le _, rfl, rfl⟩
  case round =>
    obtain ⟨j, hj, rfl, rfl⟩ := hrel
    by_cases hlt : (j : Int) < (m : Int)
    · have c1 := HCE.out j (by omega)
      obtain ⟨a, cap, e, h1, h2, _, _⟩ := HR.out j (by omega)
      rw [e] at c1
      have h3 := HL.out (j + 1) (by omega)
      simp only [cat, List.length_append] at h3
      clear e
      go_wp2
      go_round
      case rel => exact ⟨j + 1, by omega, by go_num, by simp [cat]⟩
      case measure => simp [intOf]; omega
    · have hjm : j = m := by omega
      subst hjm
      go_wp2_with fail
      refine (growI_any _ _ hl).mono ?_
      rintro e w1 ⟨v, rfl, hm1⟩
      have HM1 := Lib.hid hm1; clear hm1
      go_wp2
      go_loopw [6, 27] (fun v i wr => ∃ j' : Nat, j' ≤ j ∧ i = .int .i64 j' ∧ Mine .i64 3 w.heap.size w wr v (cat zs j')) (fun _ i _ => j - (intOf i).toNat)
      case atStart => exact ⟨0, Nat.zero_le _, rfl, HM1.out⟩
      case round =>
        obtain ⟨j', hj', rfl, hmine⟩ := hrel
        have HMI := Lib.hid hmine; clear hmine HM1
        by_cases hlt' : (j' : Int) < (j : Int)
        · have c1 := HCE.out j' (by omega)
          obtain ⟨a, cap, e, h1, h2, h3, h4⟩ := HR.out j' (by omega)
          rw [e, ← HMI.out.below.cell (show (⟨g, j', none⟩ : Addr).block < w.heap.size from hg)] at c1
          have hrd := (HR.out j' (by omega)).below HMI.out.below hh
          rw [e] at hrd
          have HRD := Lib.hid hrd
          have hle := HL.out (j' + 1) (by omega)
          simp only [cat, List.length_append] at hle
          clear e h3 h4 hrd
          go_wp2_with (at_builtin; refine wpList_app rfl _ _ 28 rfl .i64 3 i0 (.int .i64 0) 8 Try.underlying28 hi0 hz0 hz1 hz2 rfl w.heap.size w _ (cat zs j') rfl HMI.out _ _ (zs j') rfl HRD.out (by decide) ?c3 ?_)
          case c3 => omega
          intro v' w2 hm2
          have HM2 := Lib.hid hm2; clear hm2
          go_wp2
          go_roundw
          case rel => exact ⟨j' + 1, by omega, by go_num, HM2.out⟩
          case measure => simp [intOf]; omega
        · have hjm' : j' = j := by omega
          subst hjm'
          go_wp2
          go_ret
          exact HMI.out.new
end Go.Proofs.Ytlehahpgdafnoaa
