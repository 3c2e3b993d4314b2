/- Helper contracts: the words of a policy's form; FormatPolicy of the model and of the program. Asked: the policy's slices read as named, its strings are not too long. -/
import Derived.Test.YtkjjiinccljhjaaDoorPolB
import Derived.Test.YtkjjiinccljhjaaDoorShelfJ
import Derived.Test.YtkjjiinccljhjaaDoorBl
import Derived.Lib.Join
import Derived.Deep.RegionHeld3
import Derived.Laws.Concat
namespace Go.Proofs.YtkjjiinccljhjaaDoor
open Go.ChangeShapes Go.WideShapes Go.ChangeAt Go.RowKit

theorem sumSt_take (xs : List ByteArray) (k : Nat) : sumSt (xs.take k) ≤ sumSt xs := by
  have : sumSt xs = sumSt (xs.take k) + sumSt (xs.drop k) := by
    conv => lhs; rw [← List.take_append_drop k xs]
    unfold sumSt; rw [List.map_append, List.sum_append]
  omega
theorem takeS {xs : List ByteArray} {k : Nat} {x : ByteArray} (h : xs[k]? = some x) : xs.take (k + 1) = xs.take k ++ [x] := by
  rw [List.take_add_one, h]; rfl
theorem spS_size : spS.size = 1 := rfl
theorem scS_size : scS.size = 1 := rfl

set_option maxRecDepth 100000 in
set_option maxHeartbeats 2000000 in
theorem words9_spec (v : Value) (hi : Nat) (xs : List ByteArray) (u : ByteArray) (w : World) (hr : ReadsK encS 1 hi w v xs) (hu : u.size ≤ 6) (hz : xs.length + sumSt xs ≤ 1048576) :
    Calls Tryd.prog 45 #[.string u, v] w fun e w' => e = .returned (.string (wordsS u xs)) ∧ w = w' := by
  obtain ⟨a, cap, rfl, hc1, hc2, _⟩ := id hr
  obtain ⟨tx, htx⟩ : ∃ f : Nat → ByteArray, f = fun m => wordsS u (xs.take m) := ⟨_, rfl⟩
  have HTX := Lib.hid htx
  have HTS := Lib.hid (fun m => show (tx m).size ≤ 1048582 by
    rw [htx]
    show (wordsS u (xs.take m)).size ≤ _
    rw [wordsS_size]
    have h2 := sumSt_take xs m
    have h3 := List.length_take_le' m xs
    omega)
  have HZ := Lib.hid hz
  obtain ⟨n, hn⟩ : ∃ n, xs.length = n := ⟨_, rfl⟩
  have h0 : tx 0 = u := by rw [htx]; rfl
  have H0 := Lib.hid h0
  rw [hn] at hr hc1 ⊢
  have HN := Lib.hid hn; have HR := Lib.hid hr; clear hn hr htx h0 hz
  go_enter Tryd.func45, Tryd.ntmps45
  go_wp2
  go_loop [0, 5] (fun c i => ∃ (k : Nat), k ≤ n ∧ i = .int .i64 k ∧ c = .string (tx k)) (fun _ i => n - (intOf i).toNat)
  case atStart => exact ⟨0, Nat.zero_le _, rfl, by rw [H0.out]⟩
  case round =>
    obtain ⟨k, hk, rfl, rfl⟩ := hrel
    by_cases hlt : (k : Int) < (n : Int)
    · obtain ⟨x, hx⟩ := ssAt (xs := xs) (j := k) (by have := HN.out; omega)
      obtain ⟨g, off, rfl, _, c0⟩ := str_cell HR.out hx
      have hxz : x.size ≤ 1048576 := by have h1 := sum_le_at (List.mem_of_getElem? hx); have h2 := HZ.out; unfold sumSt at h2; omega
      have hy := HTS.out k
      have hy1 := HTS.out (k + 1)
      have HX3 := Lib.hid (show tx (k + 1) = tx k ++ spS ++ x by rw [HTX.out]; show wordsS u (xs.take (k + 1)) = _; rw [takeS hx, wordsS_snoc])
      obtain ⟨X, hX⟩ : ∃ Y, tx k = Y := ⟨_, rfl⟩
      obtain ⟨X1, hX1⟩ : ∃ Y, X ++ spS = Y := ⟨_, rfl⟩
      obtain ⟨X2, hX2⟩ : ∃ Y, X1 ++ x = Y := ⟨_, rfl⟩
      rw [hX] at hy HX3 ⊢
      have hz1 : X1.size ≤ 1048583 := by rw [← hX1, ByteArray.size_append, spS_size]; omega
      have a1 : ∀ W, (Op.stringOp .add X ⟨#[32]⟩).run Tryd.prog W = .ok (.string X1) W := fun W => by rw [← hX1]; exact run_string_add_sum _ _ _ (by rw [show (⟨#[32]⟩ : ByteArray).size = 1 from rfl]; omega)
      have a2 : ∀ W, (Op.stringOp .add X1 x).run Tryd.prog W = .ok (.string X2) W := fun W => by rw [← hX2]; exact run_string_add_sum _ _ _ (by omega)
      have HXE := Lib.hid (show X2 = tx (k + 1) by rw [HX3.out, ← hX2, ← hX1])
      clear hX hX1 hX2 hx
      go_wp2
      go_round
      case rel => exact ⟨k + 1, by omega, by go_num, by rw [← HXE.out]⟩
      case measure => simp [intOf]; omega
    · have hlf : decide ((k : Int) < (n : Int)) = false := decide_eq_false hlt
      have HV := Lib.hid (show tx k = wordsS u xs by rw [HTX.out]; show wordsS u (xs.take k) = _; rw [List.take_of_length_le (by have := HN.out; omega)])
      go_wp2
      go_ret
      exact ⟨by rw [← HV.out]; rfl, rfl⟩

theorem mineS_lit {w0 w : World} {B : Nat} (x : ByteArray) (hb : Below B w0 w) (hB : B ≤ w.heap.size) : MineK encS 1 9 B w0 (w.alloc (.cells #[.string x] 9)) (.slice (some ⟨w.heap.size, 0, none⟩) 1 1) [x] :=
  ⟨World.ownsRow_lit (base := B) (e := 9) (size := 1) w #[.string x] 1 hB (by decide) rfl, hb.alloc hB _, by simp; omega⟩
theorem own_strs9 {lo hi g n c : Nat} {w : World} {xs : List ByteArray} (h : OwnK encS 1 9 lo hi w (.slice (some ⟨g, 0, none⟩) n c) xs) (hn : xs.length = n) : g < w.heap.size ∧ n ≤ c ∧ ∀ (j : Nat) x, xs[j]? = some x → w.cell? ⟨g, 0 + j, none⟩ = some (.string x) := by
  have hr := h.reads encS_len
  rcases h.1.2 with ⟨e, _⟩ | ⟨g', cap, cur, e, hg, hh, hc, hm, _⟩
  · cases e
  · cases e
    refine ⟨heap_lt hh, by omega, fun j x hj => ?_⟩
    have := hr.news encS_len j (.string x) (by
      have := flat_at encS_len hj (show 0 < 1 by decide)
      simpa [encS] using this)
    rwa [add_off] at this
theorem mineS_some9 {B : Nat} {w0 w : World} {v : Value} {xs : List ByteArray} (h : MineK encS 1 9 B w0 w v xs) (h1 : 1 ≤ xs.length) : ∃ g c, v = .slice (some ⟨g, 0, none⟩) xs.length c := by
  rcases h.row.2 with ⟨e, h0⟩ | ⟨g, cap, cur, e, _⟩
  · omega
  · exact ⟨g, cap, e⟩
theorem join_words (u : ByteArray) (xs : List ByteArray) : Lib.join ((u :: xs).map (·.data.toList)) [32] = (wordsS u xs).data.toList := by
  rw [wordsS_list, List.map_cons, Lib.join_cons]
  congr 1
  unfold Lib.joinTail hostsL
  rw [List.map_map, List.flatMap_def]
  rfl

set_option maxRecDepth 100000 in
set_option maxHeartbeats 2000000 in
theorem formatHosts_impl (v : Value) (hi : Nat) (xs : List ByteArray) (u : ByteArray) (w : World) (hr : ReadsK encS 1 hi w v xs) (hh : hi ≤ w.heap.size) (hu : u.size ≤ 6) (hz : xs.length + sumSt xs ≤ 1048576) :
    Calls Tryd.prog 19 #[.string u, v] w fun e w' => e = .returned (.string (wordsS u xs)) ∧ Below w.heap.size w w' := by
  have HR := Lib.hid (hr.below ((Below.refl w.heap.size w).alloc (Nat.le_refl _) (.cells #[.string u] 9)) hh)
  have HM := Lib.hid (mineS_lit u (Below.refl w.heap.size w) (Nat.le_refl _))
  have HZ := Lib.hid hz
  clear hr hz
  go_enter Tryd.func19, Tryd.ntmps19
  go_wp2_with (at_builtin; refine wpList_appS rfl _ _ rfl w.heap.size w _ [u] rfl HM.out _ _ xs rfl HR.out ?c3 ?_)
  case c3 => have := HZ.out; simp; omega
  intro v' w1 hM'
  obtain ⟨g, c, rfl⟩ := mineS_some9 hM' (by simp)
  obtain ⟨hbw, hcp, hcl⟩ := own_strs9 hM'.own rfl
  have hJ := Tryd.strings_Join g 0 c ([u] ++ xs) ⟨#[32]⟩ w1 hcl hbw (by have := HZ.out; simp; omega) hcp (by
    rw [show [u] ++ xs = u :: xs from rfl, show (⟨#[32]⟩ : ByteArray).data.toList = [32] from rfl, join_words, size_list, wordsS_size]; have := HZ.out; omega)
  rw [show ([u] ++ xs).map (·.data.toList) = (u :: xs).map (·.data.toList) from rfl, show (⟨#[32]⟩ : ByteArray).data.toList = [32] from rfl, join_words] at hJ
  have HJ := Lib.hid hJ
  have HM2 := Lib.hid hM'
  clear hJ hcl hM' hbw hcp
  go_wp2_with fail
  refine HJ.out.mono ?_
  rintro e w2 ⟨rfl, hb2⟩
  have HB2 := Lib.hid (HM2.out.below.trans (hb2.mono HM2.out.size))
  clear hb2
  go_wp2_with fail
  go_ret
  exact ⟨by rfl, HB2.out⟩
end Go.Proofs.YtkjjiinccljhjaaDoor
