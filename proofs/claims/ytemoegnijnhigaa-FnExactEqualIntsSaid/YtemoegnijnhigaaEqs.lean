/- Helper contracts: EqualBytes and EqualInts of the program and of the model answer alike: whether the lists are equal. Asked: the slices read as the lists named. -/
import Derived.Test.YtemoegnijnhigaaHelpB
import Derived.Laws.BytesArg
import Derived.Laws.Strings
namespace Go.Proofs.Ytemoegnijnhigaa
open Go.ChangeShapes Go.WideShapes Go.ChangeAt Go.RowKit

def eqB (xs ys : List Int) : Bool := (strOfNums xs).toList == (strOfNums ys).toList
theorem reads_conv {hi n cap : Nat} {w : World} {a : Option Addr} {zs : List Int} (h : Reads .u8 hi w (.slice a n cap) zs) :
    (Go.convert 22 9 (.slice a n cap)).run Try.prog w = .ok (.string (strOfNums zs)) w := by
  obtain ⟨a', cap', e, h1, h2, h3, h4⟩ := h
  cases e
  rcases h4 with h4 | ⟨g, off, rfl, hg, hc⟩
  · obtain rfl := List.eq_nil_of_length_eq_zero h4
    cases a with
    | none => exact run_convert_bytes_nil (P := Try.prog) w 22 5 Try.underlying22 Try.underlying5 0 cap 9 Try.underlying9
    | some ad =>
      rw [run_convert_bytes_string w 22 9 5 _ _ cap Try.underlying22 Try.underlying5 Try.underlying9]
      rfl
  · exact run_convert_bytes_arg (P := Try.prog) w 22 5 Try.underlying22 Try.underlying5 g off zs.length cap zs rfl hc 9 Try.underlying9

theorem specEqB_any (v u : Value) (hi hi' : Nat) (xs ys : List Int) (w : World) (hv : Reads .u8 hi w v xs) (hu : Reads .u8 hi' w u ys) :
    Calls Try.prog 40 #[v, u] w fun e w' => e = .returned (.bool (eqB xs ys)) ∧ Same w w' := by
  have h1 := hv; have h2 := hu
  obtain ⟨a, cap, rfl, -⟩ := hv
  obtain ⟨a', cap', rfl, -⟩ := hu
  have c1 := reads_conv h1; have c2 := reads_conv h2
  clear h1 h2
  go_enter Try.func40, Try.ntmps40
  go_wp2
  go_ret
  exact ⟨rfl, Same.refl _⟩

theorem bytesEq_any (v u : Value) (hi hi' : Nat) (xs ys : List Int) (w : World) (hv : Reads .u8 hi w v xs) (hu : Reads .u8 hi' w u ys) :
    Calls Try.prog 57 #[v, u] w fun e w' => e = .returned (.bool (eqB xs ys)) ∧ Same w w' := by
  have h1 := hv; have h2 := hu
  obtain ⟨a, cap, rfl, -⟩ := hv
  obtain ⟨a', cap', rfl, -⟩ := hu
  have c1 := reads_conv h1; have c2 := reads_conv h2
  clear h1 h2
  go_enter Try.func57, Try.ntmps57
  go_wp2
  go_ret
  exact ⟨rfl, Same.refl _⟩

theorem implEqB_any (v u : Value) (hi hi' : Nat) (xs ys : List Int) (w : World) (hv : Reads .u8 hi w v xs) (hu : Reads .u8 hi' w u ys) :
    Calls Try.prog 41 #[v, u] w fun e w' => e = .returned (.bool (eqB xs ys)) ∧ Same w w' := by
  go_enter Try.func41, Try.ntmps41
  go_wp2_with fail
  refine (bytesEq_any v u hi hi' xs ys _ hv hu).mono ?_
  rintro e w1 ⟨rfl, hs⟩
  have HS := Lib.hid hs; clear hs
  go_wp2
  go_ret
  exact ⟨rfl, HS.out⟩

theorem eq_pre {xs ys : List Int} (hl : xs.length = ys.length) (h : ∀ j, j < xs.length → xs.getD j 0 = ys.getD j 0) : xs = ys := by
  apply List.ext_getElem?
  intro j
  by_cases hj : j < xs.length
  · rw [getD_at hj, getD_at (by omega), h j hj]
  · rw [List.getElem?_eq_none (by omega), List.getElem?_eq_none (by omega)]
def Pre (xs ys : List Int) (k : Nat) : Prop := ∀ j, j < k → xs.getD j 0 = ys.getD j 0
theorem Pre.step {xs ys : List Int} {k : Nat} (h : Pre xs ys k) (e : xs.getD k 0 = ys.getD k 0) : Pre xs ys (k + 1) := by
  intro j hj
  by_cases hjk : j = k
  · subst hjk; exact e
  · exact h j (by omega)

set_option maxHeartbeats 1000000 in
theorem specEqI_any (v u : Value) (hi hi' : Nat) (xs ys : List Int) (w : World) (hv : Reads .i64 hi w v xs) (hu : Reads .i64 hi' w u ys) (hxb : Ints xs) (hyb : Ints ys) :
    Calls Try.prog 42 #[v, u] w fun e w' => e = .returned (.bool (decide (xs = ys))) ∧ Same w w' := by
  obtain ⟨a, cap, rfl, hc1, hc2, _, hcells⟩ := hv
  obtain ⟨a', cap', rfl, hc1', hc2', _, hcells'⟩ := hu
  have HC := Lib.hid hcells; have HC' := Lib.hid hcells'; clear hcells hcells'
  have HXB := Lib.hid hxb; have HYB := Lib.hid hyb; clear hxb hyb
  by_cases hn : xs.length = ys.length
  · obtain ⟨n, hxn⟩ : ∃ n, xs.length = n := ⟨_, rfl⟩
    have hyn : ys.length = n := by omega
    rw [hxn] at hc1 HC ⊢
    rw [hyn] at hc1' HC' ⊢
    have HXN := Lib.hid hxn; have HYN := Lib.hid hyn; clear hxn hyn hn
    go_enter Try.func42, Try.ntmps42
    go_wp2
    go_loopw [5] (fun i wr => ∃ (k : Nat), k ≤ n ∧ i = .int .i64 k ∧ Pre xs ys k ∧ Same w wr)
      (fun i _ => n - (intOf i).toNat)
    case atStart => exact ⟨0, Nat.zero_le _, rfl, fun _ h => absurd h (Nat.not_lt_zero _), Same.refl _⟩
    case round =>
      obtain ⟨k, hk, rfl, hp, hs⟩ := hrel
      have HS := Lib.hid hs; have HP := Lib.hid hp
      clear hs hp
      by_cases hlt : (k : Int) < (n : Int)
      · rcases HC.out with h0 | ⟨g, off, rfl, hg, hcells⟩
        · omega
        · rcases HC'.out with h0 | ⟨g', off', rfl, hg', hcells'⟩
          · omega
          · have c1 : wr.cell? ⟨g, off + k, none⟩ = some (.int .i64 (xs.getD k 0)) := by rw [HS.out.cell]; exact hcells k (by omega)
            have c2 : wr.cell? ⟨g', off' + k, none⟩ = some (.int .i64 (ys.getD k 0)) := by rw [HS.out.cell]; exact hcells' k (by omega)
            obtain ⟨x, hx⟩ : ∃ z, xs.getD k 0 = z := ⟨_, rfl⟩
            obtain ⟨y, hy⟩ : ∃ z, ys.getD k 0 = z := ⟨_, rfl⟩
            rw [hx] at c1; rw [hy] at c2
            have HX := Lib.hid hx; have HY := Lib.hid hy
            clear hcells hcells' hx hy
            by_cases hxy : x = y
            · subst hxy
              go_wp2
              go_quiet (fail)
              go_wp2
              go_roundw
              case rel => exact ⟨k + 1, by omega, by go_num, HP.out.step (by rw [HX.out, HY.out]), HS.out.trans ⟨rfl, rfl, rfl, rfl⟩⟩
              case measure => simp [intOf]; omega
            · go_wp2
              go_quiet (fail)
              go_wp2
              go_ret
              refine ⟨?_, HS.out.trans ⟨rfl, rfl, rfl, rfl⟩⟩
              have hne : xs ≠ ys := fun e => hxy (by rw [← HX.out, ← HY.out, e])
              exact congrArg (fun b => Ending.returned (.bool b)) (decide_eq_false hne).symm
      · have hkn : k = n := by omega
        subst hkn
        go_wp2
        go_ret
        refine ⟨?_, HS.out⟩
        have he : xs = ys := eq_pre (by rw [HXN.out, HYN.out]) (by rw [HXN.out]; exact HP.out)
        exact congrArg (fun b => Ending.returned (.bool b)) (decide_eq_true he).symm
  · have hne : xs ≠ ys := fun e => hn (by rw [e])
    have hni : (xs.length : Int) ≠ (ys.length : Int) := by omega
    have HNE := Lib.hid hne; clear hne hn
    go_enter Try.func42, Try.ntmps42
    go_wp2
    go_ret
    exact ⟨congrArg (fun b => Ending.returned (.bool b)) (decide_eq_false HNE.out).symm, Same.refl _⟩

set_option maxHeartbeats 1000000 in
theorem slicesEqI_any (v u : Value) (hi hi' : Nat) (xs ys : List Int) (w : World) (hv : Reads .i64 hi w v xs) (hu : Reads .i64 hi' w u ys) (hxb : Ints xs) (hyb : Ints ys) :
    Calls Try.prog 58 #[v, u] w fun e w' => e = .returned (.bool (decide (xs = ys))) ∧ Same w w' := by
  obtain ⟨a, cap, rfl, hc1, hc2, _, hcells⟩ := hv
  obtain ⟨a', cap', rfl, hc1', hc2', _, hcells'⟩ := hu
  have HC := Lib.hid hcells; have HC' := Lib.hid hcells'; clear hcells hcells'
  have HXB := Lib.hid hxb; have HYB := Lib.hid hyb; clear hxb hyb
  by_cases hn : xs.length = ys.length
  · obtain ⟨n, hxn⟩ : ∃ n, xs.length = n := ⟨_, rfl⟩
    have hyn : ys.length = n := by omega
    rw [hxn] at hc1 HC ⊢
    rw [hyn] at hc1' HC' ⊢
    have HXN := Lib.hid hxn; have HYN := Lib.hid hyn; clear hxn hyn hn
    go_enter Try.func58, Try.ntmps58
    go_wp2
    go_loopw [13] (fun i wr => ∃ (k : Nat), k ≤ n ∧ i = .int .i64 k ∧ Pre xs ys k ∧ Same w wr)
      (fun i _ => n - (intOf i).toNat)
    case atStart => exact ⟨0, Nat.zero_le _, rfl, fun _ h => absurd h (Nat.not_lt_zero _), Same.refl _⟩
    case round =>
      obtain ⟨k, hk, rfl, hp, hs⟩ := hrel
      have HS := Lib.hid hs; have HP := Lib.hid hp
      clear hs hp
      by_cases hlt : (k : Int) < (n : Int)
      · rcases HC.out with h0 | ⟨g, off, rfl, hg, hcells⟩
        · omega
        · rcases HC'.out with h0 | ⟨g', off', rfl, hg', hcells'⟩
          · omega
          · have c1 : wr.cell? ⟨g, off + k, none⟩ = some (.int .i64 (xs.getD k 0)) := by rw [HS.out.cell]; exact hcells k (by omega)
            have c2 : wr.cell? ⟨g', off' + k, none⟩ = some (.int .i64 (ys.getD k 0)) := by rw [HS.out.cell]; exact hcells' k (by omega)
            obtain ⟨x, hx⟩ : ∃ z, xs.getD k 0 = z := ⟨_, rfl⟩
            obtain ⟨y, hy⟩ : ∃ z, ys.getD k 0 = z := ⟨_, rfl⟩
            rw [hx] at c1; rw [hy] at c2
            have HX := Lib.hid hx; have HY := Lib.hid hy
            clear hcells hcells' hx hy
            by_cases hxy : x = y
            · subst hxy
              go_wp2
              go_quiet (fail)
              go_wp2
              go_roundw
              case rel => exact ⟨k + 1, by omega, by go_num, HP.out.step (by rw [HX.out, HY.out]), HS.out.trans ⟨rfl, rfl, rfl, rfl⟩⟩
              case measure => simp [intOf]; omega
            · go_wp2
              go_quiet (fail)
              go_wp2
              go_ret
              refine ⟨?_, HS.out.trans ⟨rfl, rfl, rfl, rfl⟩⟩
              have hne : xs ≠ ys := fun e => hxy (by rw [← HX.out, ← HY.out, e])
              exact congrArg (fun b => Ending.returned (.bool b)) (decide_eq_false hne).symm
      · have hkn : k = n := by omega
        subst hkn
        go_wp2
        go_ret
        refine ⟨?_, HS.out⟩
        have he : xs = ys := eq_pre (by rw [HXN.out, HYN.out]) (by rw [HXN.out]; exact HP.out)
        exact congrArg (fun b => Ending.returned (.bool b)) (decide_eq_true he).symm
  · have hne : xs ≠ ys := fun e => hn (by rw [e])
    have hni : (xs.length : Int) ≠ (ys.length : Int) := by omega
    have HNE := Lib.hid hne; clear hne hn
    go_enter Try.func58, Try.ntmps58
    go_wp2
    go_ret
    exact ⟨congrArg (fun b => Ending.returned (.bool b)) (decide_eq_false HNE.out).symm, Same.refl _⟩

theorem implEqI_any (v u : Value) (hi hi' : Nat) (xs ys : List Int) (w : World) (hv : Reads .i64 hi w v xs) (hu : Reads .i64 hi' w u ys) (hxb : Ints xs) (hyb : Ints ys) :
    Calls Try.prog 43 #[v, u] w fun e w' => e = .returned (.bool (decide (xs = ys))) ∧ Same w w' := by
  go_enter Try.func43, Try.ntmps43
  go_wp2_with fail
  refine (slicesEqI_any v u hi hi' xs ys _ hv hu hxb hyb).mono ?_
  rintro e w1 ⟨rfl, hs⟩
  have HS := Lib.hid hs; clear hs
  go_wp2
  go_ret
  exact ⟨rfl, HS.out⟩
end Go.Proofs.Ytemoegnijnhigaa
