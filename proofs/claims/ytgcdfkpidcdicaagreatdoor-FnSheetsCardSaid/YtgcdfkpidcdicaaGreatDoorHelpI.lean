/- Helper contracts over the functions with which the laws copy, compare, mark and look again at slices of integers. Asked: the slices read as the lists named. -/
import Derived.Test.YtgcdfkpidcdicaaGreatDoorHelpB
namespace Go.Proofs.YtgcdfkpidcdicaaGreatDoor
open Go.ChangeShapes Go.WideShapes Go.ChangeAt Go.RowKit

set_option maxHeartbeats 1000000 in
theorem to64_any (v : Value) (hi : Nat) (zs : List Int) (w : World) (hr : Reads .i64 hi w v zs) (hh : hi ≤ w.heap.size) (hl : zs.length ≤ 17592186044416) :
    Calls Tryz.prog 104 #[v] w (New .i64 3 zs w) := by
  obtain ⟨i0, hi0, hz0, hz1, hz2⟩ := info_parts info64
  obtain ⟨a, cap, rfl, hc1, hc2, _, hcells⟩ := hr
  have HC := Lib.hid hcells; clear hcells
  have HI := Lib.hid hz2; clear hz2
  obtain ⟨n, hn⟩ : ∃ n, zs.length = n := ⟨_, rfl⟩
  rw [hn] at hl hc1 ⊢
  go_enter Tryz.func104, Tryz.ntmps104
  go_wp2_with (at_make; refine wpList_make_full _ rfl _ _ 38 rfl w.heap.size 3 i0 (.int .i64 0) 1 Tryz.underlying38 hi0 hz0 hz1 .i64 .i64 _ _ n rfl rfl rfl rfl ?c1 ?c2 (Nat.le_refl _) ?_)
  case c1 => rw [HI.out]; omega
  case c2 => unfold maxLen; omega
  intro w1 hown1 hgr1
  have hb1 : Below w.heap.size w w1 := (Below.refl _ _).grown hgr1 (Nat.le_refl _) (fun k h => by cases h)
  have HO1 := Lib.hid hown1; have HB1 := Lib.hid hb1; clear hown1 hgr1 hb1
  go_wp2
  go_loopw [4] (fun i wr => ∃ (k : Nat) (xs : List Value), k ≤ n ∧ i = .int .i64 k ∧ wr.ownsRow w.heap.size 3 1 (.slice (some ⟨w.heap.size, 0, none⟩) n n) n xs ∧ Upto .i64 zs k xs ∧ Below w.heap.size w wr)
    (fun i _ => n - (intOf i).toNat)
  case atStart => exact ⟨0, _, Nat.zero_le _, rfl, HO1.out, Upto.zero _ _ _, HB1.out⟩
  case round =>
    obtain ⟨k, xs, hk, rfl, hown, hup, hbw⟩ := hrel
    have HO := Lib.hid hown; have HU := Lib.hid hup; have HB := Lib.hid hbw
    clear hown hup hbw HO1 HB1
    by_cases hlt : (k : Int) < (n : Int)
    · rcases HC.out with h0 | ⟨g, off, rfl, hg, hcells⟩
      · omega
      · have c1 : wr.cell? ⟨g, off + k, none⟩ = some (.int .i64 (zs.getD k 0)) := by rw [HB.out.cell (show g < _ by omega)]; exact hcells k (by omega)
        have c2 : wr.cell? ⟨w.heap.size, k, none⟩ = xs[k]? := HO.out.cellAt k (by omega)
        have hxl : xs.length = n := by have := HO.out.1; omega
        obtain ⟨u, hu⟩ : ∃ u, xs[k]? = some u := ⟨_, List.getElem?_eq_getElem (by omega)⟩
        rw [hu] at c2
        have f2 : wr.frozen? ⟨w.heap.size, k, none⟩ = false := HO.out.frozenAt k
        clear hcells hu
        go_wp2
        go_roundw
        case rel => exact ⟨k + 1, _, by omega, by go_num, (HO.out.stored k _).1, HU.out.set (by omega), HB.out.setCell (Nat.le_refl _) _⟩
        case measure => simp [intOf]; omega
    · have hkn : k = n := by omega
      subst hkn
      go_wp2
      go_ret
      refine ⟨_, rfl, ⟨?_, ?_⟩, HB.out⟩
      · have h1 := HO.out
        rw [HU.out.full (by have := h1.1; omega) hn] at h1
        rw [hn]; exact h1
      · intro g hg; exact (HO.out.lt g hg).2

set_option maxHeartbeats 1000000 in
theorem eq64_any (v u : Value) (hi hi' : Nat) (zs : List Int) (w : World) (hv : Reads .i64 hi w v zs) (hu : Reads .i64 hi' w u zs) :
    Calls Tryz.prog 107 #[v, u] w fun e w' => e = .returned (.bool true) ∧ Same w w' := by
  obtain ⟨a, cap, rfl, hc1, hc2, _, hcells⟩ := hv
  obtain ⟨a', cap', rfl, hc1', hc2', _, hcells'⟩ := hu
  have HC := Lib.hid hcells; have HC' := Lib.hid hcells'; clear hcells hcells'
  obtain ⟨n, hn⟩ : ∃ n, zs.length = n := ⟨_, rfl⟩
  rw [hn] at hc1 hc1' HC HC' ⊢
  have HN := Lib.hid hn; clear hn
  go_enter Tryz.func107, Tryz.ntmps107
  go_wp2
  go_loopw [5] (fun i wr => ∃ (k : Nat), k ≤ n ∧ i = .int .i64 k ∧ Same w wr)
    (fun i _ => n - (intOf i).toNat)
  case atStart => exact ⟨0, Nat.zero_le _, rfl, Same.refl _⟩
  case round =>
    obtain ⟨k, hk, rfl, hs⟩ := hrel
    have HS := Lib.hid hs
    clear hs
    by_cases hlt : (k : Int) < (n : Int)
    · rcases HC.out with h0 | ⟨g, off, rfl, hg, hcells⟩
      · omega
      · rcases HC'.out with h0 | ⟨g', off', rfl, hg', hcells'⟩
        · omega
        · have c1 : wr.cell? ⟨g, off + k, none⟩ = some (.int .i64 (zs.getD k 0)) := by rw [HS.out.cell]; exact hcells k (by omega)
          have c2 : wr.cell? ⟨g', off' + k, none⟩ = some (.int .i64 (zs.getD k 0)) := by rw [HS.out.cell]; exact hcells' k (by omega)
          obtain ⟨z, hz⟩ : ∃ z, zs.getD k 0 = z := ⟨_, rfl⟩
          rw [hz] at c1 c2
          clear hcells hcells' hz
          go_wp2
          go_quiet (fail)
          go_wp2
          go_roundw
          case rel => exact ⟨k + 1, by omega, by go_num, HS.out.trans ⟨rfl, rfl, rfl, rfl⟩⟩
          case measure => simp [intOf]; omega
    · have hkn : decide ((k : Int) < (n : Int)) = false := decide_eq_false hlt
      go_wp2
      go_ret
      exact ⟨rfl, HS.out⟩

/-- The marks that a law writes: k, k+1, .. -/
def marksI (k n : Nat) : List Int := (List.range n).map (fun i => ((k + i : Nat) : Int))
theorem marksI_len (k n : Nat) : (marksI k n).length = n := by simp [marksI]
theorem marksI_at {k n j : Nat} (h : j < n) : (marksI k n).getD j 0 = ((k : Int) + (j : Int)) := by
  rw [List.getD_eq_getElem?_getD]
  simp [marksI, h]

set_option maxHeartbeats 1000000 in
theorem mark64_any (v : Value) (lo hi : Nat) (zs : List Int) (k0 : Nat) (q : Int) (hq : q = k0) (w : World) (hv : Own .i64 3 lo hi w v zs) (hk : (k0 : Int) + (zs.length : Int) ≤ 4611686018427387904) :
    Calls Tryz.prog 110 #[v, .int .i64 q] w (Marked .i64 3 lo hi v (marksI k0 zs.length) ((k0 : Int) + (zs.length : Int)) w) := by
  subst hq
  obtain ⟨hv1, hv2⟩ := hv
  obtain ⟨n, hn⟩ : ∃ n, zs.length = n := ⟨_, rfl⟩
  rw [hn] at hv1 hk ⊢
  have HV1 := Lib.hid hv1; have HV2 := Lib.hid hv2
  rcases hv1.2 with ⟨rfl, h0⟩ | ⟨g, cap, cur, rfl, hg, _, hcap, hm, _⟩
  · subst h0
    have hz : zs = [] := List.eq_nil_of_length_eq_zero hn
    subst hz
    clear hv1 hv2
    go_enter Tryz.func110, Tryz.ntmps110
    go_wp2
    refine wp_loop_rounds 1 ?_
    rw [rounds_succ]
    go_wp2
    go_ret
    exact ⟨by simp, ⟨by simpa [marksI] using HV1.out, HV2.out⟩, World.grownBy.refl _ _⟩
  · unfold maxLen at hm
    clear hv1 hv2
    go_enter Tryz.func110, Tryz.ntmps110
    go_wp2
    go_loopw [1, 5] (fun m i wr => ∃ (j : Nat) (xs : List Value), j ≤ n ∧ i = .int .i64 j ∧ m = .int .i64 ((k0 : Int) + (j : Int)) ∧ wr.ownsRow lo 3 1 (.slice (some ⟨g, 0, none⟩) n cap) n xs ∧ Upto .i64 (marksI k0 n) j xs ∧ w.grownBy wr (some g))
      (fun _ i _ => n - (intOf i).toNat)
    case atStart => exact ⟨0, _, Nat.zero_le _, rfl, by simp, HV1.out, Upto.zero _ _ _, World.grownBy.refl _ _⟩
    case round =>
      obtain ⟨j, xs, hj, rfl, rfl, hown, hup, hgr⟩ := hrel
      have HO := Lib.hid hown; have HU := Lib.hid hup; have HG := Lib.hid hgr
      clear hown hup hgr
      by_cases hlt : (j : Int) < (n : Int)
      · have c2 : wr.cell? ⟨g, j, none⟩ = xs[j]? := HO.out.cellAt j (by omega)
        have hxl : xs.length = n := by have := HO.out.1; omega
        obtain ⟨u, hu⟩ : ∃ u, xs[j]? = some u := ⟨_, List.getElem?_eq_getElem (by omega)⟩
        rw [hu] at c2
        have f2 : wr.frozen? ⟨g, j, none⟩ = false := HO.out.frozenAt j
        clear hu
        go_wp2
        go_roundw
        case rel =>
          have hu := HU.out.set (show j < xs.length by omega)
          rw [marksI_at (by omega)] at hu
          exact ⟨j + 1, _, by omega, by go_num, by go_num, (HO.out.stored j _).1, hu, grown_trans HG.out (HO.out.stored j _).2⟩
        case measure => simp [intOf]; omega
      · have hjn : j = n := by omega
        subst hjn
        go_wp2
        go_ret
        refine ⟨rfl, ⟨?_, HV2.out⟩, HG.out⟩
        have h1 := HO.out
        rw [HU.out.full (by have := h1.1; omega) (marksI_len _ _)] at h1
        rw [marksI_len]; exact h1

set_option maxHeartbeats 1000000 in
theorem held64_any (v : Value) (hi n : Nat) (k0 : Nat) (q : Int) (hq : q = k0) (w : World) (hv : Reads .i64 hi w v (marksI k0 n)) (hk : (k0 : Int) + (n : Int) ≤ 4611686018427387904) :
    Calls Tryz.prog 113 #[v, .int .i64 q] w fun e w' => e = .returned (.int .i64 ((k0 : Int) + (n : Int))) ∧ Same w w' := by
  subst hq
  obtain ⟨a, cap, rfl, hc1, hc2, _, hcells⟩ := hv
  rw [marksI_len] at hc1 hcells ⊢
  have HC := Lib.hid hcells; clear hcells
  go_enter Tryz.func113, Tryz.ntmps113
  go_wp2
  go_loopw [1, 5] (fun m i wr => ∃ (j : Nat), j ≤ n ∧ i = .int .i64 j ∧ m = .int .i64 ((k0 : Int) + (j : Int)) ∧ Same w wr)
    (fun _ i _ => n - (intOf i).toNat)
  case atStart => exact ⟨0, Nat.zero_le _, rfl, by simp, Same.refl _⟩
  case round =>
    obtain ⟨j, hj, rfl, rfl, hs⟩ := hrel
    have HS := Lib.hid hs
    clear hs
    by_cases hlt : (j : Int) < (n : Int)
    · rcases HC.out with h0 | ⟨g, off, rfl, hg, hcells⟩
      · omega
      · have c1 : wr.cell? ⟨g, off + j, none⟩ = some (.int .i64 ((k0 : Int) + (j : Int))) := by rw [HS.out.cell, hcells j (by omega), marksI_at (by omega)]
        clear hcells
        go_wp2
        go_roundw
        case rel => exact ⟨j + 1, by omega, by go_num, by go_num, HS.out.trans ⟨rfl, rfl, rfl, rfl⟩⟩
        case measure => simp [intOf]; omega
    · have hjn : j = n := by omega
      subst hjn
      go_wp2
      go_ret
      exact ⟨rfl, HS.out⟩
end Go.Proofs.YtgcdfkpidcdicaaGreatDoor
