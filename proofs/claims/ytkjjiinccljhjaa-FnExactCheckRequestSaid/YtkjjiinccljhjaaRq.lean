/- Helper contracts over the functions with which the laws copy and measure one request. No conditions beyond the types. -/
import Derived.Test.YtkjjiinccljhjaaRowQ
import Derived.Test.YtkjjiinccljhjaaAdrH
namespace Go.Proofs.Ytkjjiinccljhjaa
open Go.ChangeShapes Go.WideShapes Go.ChangeAt Go.RowKit

theorem grw_setCell {a b : World} (h : Grw a b) {c o : Nat} (hp : a.heap.size ≤ c) (u : Value) : Grw a (b.setCell ⟨c, o, none⟩ u) := by
  obtain ⟨q, os, rfl⟩ := h
  refine ⟨q, os.modify (c - a.heap.size) fun | .cells c' elem frozen => .cells (if (none : Option Bool).isSome then c' else c'.setIfInBounds o u) elem frozen | x => x, ?_⟩
  unfold World.setCell Sort.grow
  congr 1
  apply Array.ext
  · simp
  · intro i h1 h2
    have hs : (a.drewN q).heap.size = a.heap.size := rfl
    rw [Array.getElem_modify]
    change (if c = i then _ else _) = _
    by_cases hi : i < a.heap.size
    · rw [if_neg (by omega), Array.getElem_append_left (by rw [hs]; exact hi), Array.getElem_append_left (by rw [hs]; exact hi)]
    · rw [Array.getElem_append_right (by rw [hs]; omega), Array.getElem_append_right (by rw [hs]; omega), Array.getElem_modify]
      by_cases hc : c = i
      · rw [if_pos hc, if_pos (by rw [hs]; omega)]; rfl
      · rw [if_neg hc, if_neg (by rw [hs]; omega)]

set_option maxRecDepth 100000 in
set_option maxHeartbeats 2000000 in
theorem toA_lit (h p : ByteArray) (w : World) :
    Calls Try.prog 28 #[.agg #[.string h, .string p]] w fun e w' => e = .returned (.agg #[.string h, .string p]) ∧ w' = ((w.alloc (.cells #[.string h, .string p] 23)).alloc (.cells #[.string h, .string p] 28)).alloc (.cells #[.string h, .string p] 28) := by
  go_enter Try.func28, Try.ntmps28
  go_wp2_with fail
  refine bodyPost_ret (v := .agg #[.string h, .string p]) (by simp [results, Try.results28, go_sem]) rfl ⟨rfl, ?_⟩
  rfl

set_option maxRecDepth 100000 in
set_option maxHeartbeats 2000000 in
theorem toQ_any (kd : Int) (h p f g : ByteArray) (w : World) :
    Calls Try.prog 10 #[.agg #[.int .i64 kd, .string h, .string p, .string f, .string g]] w fun e w' => e = .returned (.agg #[.int .i64 kd, .string h, .string p, .string f, .string g]) ∧ Grw w w' := by
  go_enter Try.func10, Try.ntmps10
  go_wp2_with fail
  refine (toA_lit h p _).mono ?_
  rintro e w1 ⟨rfl, rfl⟩
  go_wp2_with fail
  refine bodyPost_ret (v := .agg #[.int .i64 kd, .string h, .string p, .string f, .string g]) (by simp [results, Try.results10, go_sem]) rfl ⟨rfl, ?_⟩
  repeat' (first | (with_reducible exact Grw.refl _) | (with_reducible refine Grw.alloc ?_ _) | (refine grw_setCell ?_ (by omega) _))

def SzQ (h p f g : ByteArray) (left : Int) (w : World) (e : Ending) (w' : World) : Prop :=
  ∃ r : Int, e = .returned (.int .i64 r) ∧ -1 ≤ r ∧ (0 ≤ r → r + h.size + p.size + f.size + g.size = left) ∧ Below w.heap.size w w'
set_option maxRecDepth 100000 in
set_option maxHeartbeats 2000000 in
theorem szQ_any (kd : Int) (h p f g : ByteArray) (left : Int) (ok : RqOk h p f g) (l1 : -1 ≤ left) (l2 : left ≤ 1099511627776) (w : World) :
    Calls Try.prog 8 #[.agg #[.int .i64 kd, .string h, .string p, .string f, .string g], .int .i64 left] w (SzQ h p f g left w) := by
  obtain ⟨z1, z2, z3, z4⟩ := ok
  obtain ⟨W0, hW⟩ : ∃ W, (w.alloc (.cells #[.int .i64 kd, .string h, .string p, .string f, .string g] 25)) = W := ⟨_, rfl⟩
  have HB := Lib.hid (show Below w.heap.size w W0 by rw [← hW]; exact ((Below.refl w.heap.size w).alloc (by first | (simp; done) | (simp; omega)) _))
  have q_q0 : W0.cell? ⟨w.heap.size, 0, none⟩ = some (.int .i64 kd) := by rw [← hW]; simp
  have q_q1 : W0.cell? ⟨w.heap.size, 1, none⟩ = some (.string h) := by rw [← hW]; simp
  have q_q2 : W0.cell? ⟨w.heap.size, 2, none⟩ = some (.string p) := by rw [← hW]; simp
  have q_q3 : W0.cell? ⟨w.heap.size, 3, none⟩ = some (.string f) := by rw [← hW]; simp
  have q_q4 : W0.cell? ⟨w.heap.size, 4, none⟩ = some (.string g) := by rw [← hW]; simp
  have HW := Lib.hid hW; clear hW
  have HA := Lib.hid (fun X => szA_any h p left z1 z2 l1 l2 X)
  clear z1 z2
  go_enter Try.func8, Try.ntmps8
  go_wp2_with fail
  rw [HW.out]
  refine (HA.out _).mono ?_
  rintro e w1 ⟨r, rfl, lo, hi, hb⟩
  replace q_q0 := (hb.cell (show (⟨w.heap.size, 0, none⟩ : Addr).block < _ from World.block_lt_of_cell? _ _ q_q0)).trans q_q0
  replace q_q1 := (hb.cell (show (⟨w.heap.size, 1, none⟩ : Addr).block < _ from World.block_lt_of_cell? _ _ q_q1)).trans q_q1
  replace q_q2 := (hb.cell (show (⟨w.heap.size, 2, none⟩ : Addr).block < _ from World.block_lt_of_cell? _ _ q_q2)).trans q_q2
  replace q_q3 := (hb.cell (show (⟨w.heap.size, 3, none⟩ : Addr).block < _ from World.block_lt_of_cell? _ _ q_q3)).trans q_q3
  replace q_q4 := (hb.cell (show (⟨w.heap.size, 4, none⟩ : Addr).block < _ from World.block_lt_of_cell? _ _ q_q4)).trans q_q4
  replace HB := Lib.hid (HB.out.trans (hb.mono HB.out.size)); clear hb HA
  by_cases c0 : r < 0
  · go_wp2_with fail
    go_ret
    exact ⟨-1, rfl, by omega, by omega, HB.out⟩
  replace hi := hi (by omega)
  have hr : r ≤ left := by omega
  by_cases c1 : r - f.size < 0
  · go_wp2_with fail
    go_ret
    exact ⟨-1, rfl, by omega, by omega, HB.out⟩
  by_cases c2 : r - f.size - g.size < 0
  · go_wp2_with fail
    go_ret
    exact ⟨-1, rfl, by omega, by omega, HB.out⟩
  go_wp2_with fail
  go_ret
  exact ⟨r - f.size - g.size, rfl, by omega, by omega, HB.out⟩

end Go.Proofs.Ytkjjiinccljhjaa
