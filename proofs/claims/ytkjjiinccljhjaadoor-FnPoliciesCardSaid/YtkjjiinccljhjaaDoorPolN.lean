/- Helper contracts: what two lists of hosts have in common, a copy of one. Asked: the slices read as named, they are not too long. -/
import Derived.Test.YtkjjiinccljhjaaDoorPolW
namespace Go.Proofs.YtkjjiinccljhjaaDoor
open Go.ChangeShapes Go.WideShapes Go.ChangeAt Go.RowKit

theorem bothS_snoc (ys : List ByteArray) {xs : List ByteArray} {k : Nat} {x : ByteArray} (h : xs[k]? = some x) : bothS (xs.take (k + 1)) ys = bothS (xs.take k) ys ++ (if hasS ys x = true then [x] else []) := by
  unfold bothS
  rw [takeS h, List.filter_append]
  congr 1
  by_cases e : hasS ys x = true
  · rw [if_pos e, List.filter_cons, if_pos e]; rfl
  · rw [if_neg e, List.filter_cons, if_neg e]; rfl
theorem bothS_len (xs ys : List ByteArray) : (bothS xs ys).length ≤ xs.length := List.length_filter_le _ _
theorem sumSt_filter (p : ByteArray → Bool) : ∀ xs : List ByteArray, sumSt (xs.filter p) ≤ sumSt xs
  | [] => Nat.le_refl _
  | x :: xs => by
    have ih := sumSt_filter p xs
    rw [List.filter_cons]
    split
    · unfold sumSt at ih ⊢; rw [List.map_cons, List.map_cons, List.sum_cons, List.sum_cons]; omega
    · unfold sumSt at ih ⊢; rw [List.map_cons, List.sum_cons]; omega

set_option maxRecDepth 100000 in
set_option maxHeartbeats 2000000 in
theorem both9_impl (v u : Value) (xs ys : List ByteArray) (w : World) (hr : ReadsK encS 1 w.heap.size w v xs) (hr' : ReadsK encS 1 w.heap.size w u ys) (hl : xs.length ≤ 1048576) :
    Calls Tryd.prog 32 #[v, u] w (NewK encS 1 9 (bothS xs ys) w) := by
  obtain ⟨a, cap, rfl, hc1, hc2, _⟩ := id hr
  obtain ⟨a', cap', rfl, hc1', hc2', _⟩ := id hr'
  obtain ⟨n, hn⟩ : ∃ n, xs.length = n := ⟨_, rfl⟩
  obtain ⟨n', hn'⟩ : ∃ n, ys.length = n := ⟨_, rfl⟩
  rw [hn] at hr hc1 hl ⊢; rw [hn'] at hr' hc1' ⊢
  have HN := Lib.hid hn; have HR := Lib.hid hr; have HR' := Lib.hid hr'; clear hn hn' hr hr'
  go_enter Tryd.func32, Tryd.ntmps32
  go_wp2
  go_loopw [5, 11] (fun o i wr => ∃ (k : Nat), k ≤ n ∧ i = .int .i64 k ∧ MineK encS 1 9 w.heap.size w wr o (bothS (xs.take k) ys)) (fun _ i _ => n - (intOf i).toNat)
  case atStart => exact ⟨0, Nat.zero_le _, rfl, MineK.empty _ _ _ _ _ _ (Below.refl _ _) (Nat.le_refl _)⟩
  case round =>
    obtain ⟨k, hk, rfl, hm⟩ := hrel
    have HM := Lib.hid hm; clear hm
    by_cases hlt : (k : Int) < (n : Int)
    · obtain ⟨x, hx⟩ := ssAt (xs := xs) (j := k) (by have := HN.out; omega)
      obtain ⟨g, off, rfl, hg, c0⟩ := str_cell (HR.out.below HM.out.below (Nat.le_refl _)) hx
      have HS := Lib.hid (bothS_snoc ys hx)
      have HC := Lib.hid (contS_lib _ _ ys x wr (HR'.out.below HM.out.below (Nat.le_refl _)))
      have HL := Lib.hid (show (bothS (xs.take k) ys).length ≤ k by have h1 := bothS_len (xs.take k) ys; have h2 := List.length_take_le k xs; omega)
      clear hx
      cases hh : hasS ys x with
      | true =>
        rw [hh] at HC; rw [if_pos hh] at HS; clear hh
        go_wp2_with (first | (go_at_call 33; refine HC.out.mono ?_; rintro e w' ⟨rfl, rfl⟩) | (at_builtin; refine wpList_appS rfl _ _ rfl w.heap.size w _ (bothS (xs.take k) ys) rfl (HM.out.alloc _) _ _ [x] rfl (readsS_one wr _) ?c3 ?_))
        case c3 => have := HL.out; simp; omega
        intro v' w' hM'
        have HM2 := Lib.hid hM'; clear hM'
        go_wp2
        go_roundw
        case rel => exact ⟨k + 1, by omega, by go_num, by rw [HS.out]; exact HM2.out⟩
        case measure => simp [intOf]; omega
      | false =>
        rw [hh] at HC; rw [if_neg (by rw [hh]; decide), List.append_nil] at HS; clear hh
        go_wp2_with (go_at_call 33; refine HC.out.mono ?_; rintro e w' ⟨rfl, rfl⟩)
        go_roundw
        case rel => exact ⟨k + 1, by omega, by go_num, by rw [HS.out]; exact HM.out⟩
        case measure => simp [intOf]; omega
    · have hlf : decide ((k : Int) < (n : Int)) = false := decide_eq_false hlt
      have HV := Lib.hid (show xs.take k = xs from List.take_of_length_le (by have := HN.out; omega))
      go_wp2
      go_ret
      exact ⟨_, rfl, by rw [HV.out] at HM; exact HM.out.own, HM.out.below⟩

set_option maxRecDepth 100000 in
theorem copyHosts_impl (v : Value) (xs : List ByteArray) (w : World) (hr : ReadsK encS 1 w.heap.size w v xs) (hl : xs.length ≤ 1048576) :
    Calls Tryd.prog 47 #[v] w (NewK encS 1 9 xs w) := by
  obtain ⟨a, cap, rfl, _⟩ := id hr
  have HR := Lib.hid (hr.below ((Below.refl w.heap.size w).alloc (Nat.le_refl _) (.cells #[] 9)) (Nat.le_refl _))
  have HM := Lib.hid (MineK.empty encS 1 9 w w w.heap.size (Below.refl _ _) (Nat.le_refl _))
  clear hr
  go_enter Tryd.func47, Tryd.ntmps47
  go_wp2_with (at_builtin; refine wpList_appS rfl _ _ rfl w.heap.size w _ [] rfl HM.out _ _ xs rfl HR.out ?c3 ?_)
  case c3 => simp; omega
  intro v' w1 hM'
  have HM2 := Lib.hid hM'; clear hM'
  go_wp2_with fail
  go_ret
  exact ⟨_, rfl, HM2.out.own, HM2.out.below⟩
end Go.Proofs.YtkjjiinccljhjaaDoor
