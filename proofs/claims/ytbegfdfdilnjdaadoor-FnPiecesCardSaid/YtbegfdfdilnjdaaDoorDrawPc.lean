/- The draws of the law FnPieces: a page and up to three numbers; laws.contains. Helper facts, no claim of its own. -/
import Derived.Test.YtbegfdfdilnjdaaDoorDrawT
import Derived.Test.YtbegfdfdilnjdaaDoorOwn
namespace Go.Proofs.YtbegfdfdilnjdaaDoor
open Go.ChangeShapes Go.WideShapes Go.ChangeAt Go.RowKit

theorem kept_below' {b B : Nat} {w1 w2 w3 : World} (h : Kept b w1 w2) (k : Below B w2 w3) (hB : w1.heap.size ≤ B) : Kept b w1 w3 :=
  ⟨k.os.trans h.os, k.tape.trans h.tape, k.output.trans h.output, Nat.le_trans h.size k.size, fun i hi hn => (k.block i (by omega)).trans (h.block i hi hn)⟩
theorem cur_below' {b : Nat} {sv : Value} {len B : Nat} {w w' : World} (h : Cur b sv len w) (k : Below B w w') (hB : b < B) : Cur b sv len w' := by
  have hlt := h.lt
  obtain ⟨i, x, h1, h2, a, cap, e, h3, h4⟩ := h
  refine ⟨i, x, by rw [k.block b hB]; exact h1, h2, a, cap, e, h3, ?_⟩
  rcases h4 with h4 | ⟨blk, off, e2, hb, hc⟩
  · exact Or.inl h4
  · refine Or.inr ⟨blk, off, e2, hb, fun j hj => ?_⟩
    obtain ⟨n, n0, n1, hn⟩ := hc j hj
    exact ⟨n, n0, n1, by rw [k.cell (by show blk < _; omega)]; exact hn⟩
theorem own_kept' {k : IntKind} {e : TypeId} {lo hi b : Nat} {w w' : World} {v : Value} {zs : List Int} (h : Own k e lo hi w v zs) (hk : Kept b w w') (hb : b < lo ∨ hi ≤ b) : Own k e lo hi w' v zs := by
  refine ⟨⟨h.1.1, ?_⟩, h.2⟩
  rcases h.1.2 with h1 | ⟨g, cap, cur, h1, h2, h3, h4⟩
  · exact Or.inl h1
  · have hg := h.2 g (by rw [h1]; rfl)
    have hlt := (h.1.lt g (by rw [h1]; rfl)).2
    exact Or.inr ⟨g, cap, cur, h1, h2, by rw [hk.block g hlt (by omega)]; exact h3, h4⟩

def IsB (e : Ending) : Prop := ∃ b, e = .returned (.bool b)
set_option maxHeartbeats 1000000 in
theorem contains_any (v : Value) (n : Int) (hi : Nat) (zs : List Int) (w : World) (hr : Reads .i64 hi w v zs) :
    Calls Tryd.prog 19 #[v, .int .i64 n] w fun e w' => IsB e ∧ w = w' := by
  obtain ⟨a, cap, rfl, h1, h2, -, hcells⟩ := hr
  have HC := Lib.hid hcells; clear hcells
  obtain ⟨m, hm⟩ : ∃ m, zs.length = m := ⟨_, rfl⟩
  rw [hm] at h1 HC ⊢
  go_enter Tryd.func19, Tryd.ntmps19
  go_wp2
  go_loop [5] (fun i => ∃ k : Nat, k ≤ m ∧ i = .int .i64 k) (fun i => m - (intOf i).toNat)
  case atStart => exact ⟨0, Nat.zero_le _, rfl⟩
  case round =>
    obtain ⟨k, hk, rfl⟩ := hrel
    by_cases hlt : (k : Int) < (m : Int)
    · rcases HC.out with h0 | ⟨g, off, rfl, hg, hcells⟩
      · omega
      · have c1 : w.cell? ⟨g, off + k, none⟩ = some (.int .i64 (zs.getD k 0)) := hcells k (by omega)
        obtain ⟨z, hz⟩ : ∃ z, zs.getD k 0 = z := ⟨_, rfl⟩
        rw [hz] at c1
        clear hcells hz
        by_cases hzn : z = n
        · subst hzn
          go_wp2
          go_ret
          exact ⟨⟨_, rfl⟩, rfl⟩
        · have hb : (z == n) = false := beq_eq_false_iff_ne.2 hzn
          clear hzn
          go_wp2
          go_round
          case rel => exact ⟨k + 1, by omega, by go_num⟩
          case measure => simp [intOf]; omega
    · go_wp2
      go_ret
      exact ⟨⟨_, rfl⟩, rfl⟩

/-- What DrawPieces answers. -/
def PiecesOut (w : World) (e : Ending) (w' : World) : Prop :=
  ∃ (s : ByteArray) (v : Value) (zs : List Int), e = .returned (.tuple #[.string s, v]) ∧ s.size ≤ 6000 ∧ zs.length ≤ 3 ∧ Own .i64 3 w.heap.size w'.heap.size w' v zs ∧ Below w.heap.size w w'

set_option maxRecDepth 100000 in
set_option maxHeartbeats 2000000 in
theorem drawPieces_any (sv : Value) (len : Nat) (w : World) (hc : CodeOk w.heap.size w sv len) :
    Calls Tryd.prog 17 #[sv] w (PiecesOut w) := by
  obtain ⟨i0, hi0, hz0, hz1, hz2⟩ := info_parts info64
  have HCO := Lib.hid hc; clear hc
  go_enter Tryd.func17, Tryd.ntmps17
  go_wp2_with fail
  refine (new_any sv len _ HCO.out).mono ?_
  rintro e w1 ⟨rfl, hc1, hb1⟩
  have HC1 := Lib.hid hc1; have HB1 := Lib.hid hb1; clear hc1 hb1
  go_wp2_with fail
  refine (page_any _ sv len _ HC1.out).mono ?_
  rintro e w2 ⟨S, rfl, hS, hc2, ho2⟩
  have hsz : S.size ≤ 6000 := hS
  have HC2 := Lib.hid hc2; have HL2 := Lib.hid hc2.lt
  have HB2 := Lib.hid (HB1.out.trans (ho2.below HB1.out.size))
  clear hS hc2 ho2
  have HM := Lib.hid (Mine.empty .i64 3 w2 w2 w2.heap.size (Below.refl _ _) (Nat.le_refl _))
  have HC3 := Lib.hid (HC2.out.alloc (.cells #[] 3))
  have HB3 := Lib.hid (HB2.out.alloc HB2.out.size (.cells #[] 3))
  go_wp2_with fail
  refine (below_any _ sv len 4 _ HC3.out).mono ?_
  rintro e w3 ⟨x, rfl, hx0, hx1, hx2, hc4, ho4⟩
  have hx3 := hx1 (by omega)
  obtain ⟨m, rfl⟩ := Int.eq_ofNat_of_zero_le hx0
  have hm : m ≤ 3 := by omega
  have HC4 := Lib.hid hc4
  have HB4 := Lib.hid (HB3.out.trans (ho4.kept.below (Nat.le_trans HB2.out.size (by rw [size_alloc0]; omega))))
  have HO4 := Lib.hid (own_kept' HM.out.own ho4.kept (Or.inl HL2.out))
  have HS4 := Lib.hid (show w2.heap.size ≤ w3.heap.size by have := ho4.size; rw [size_alloc0] at this; omega)
  clear hc4 ho4 hx1 hx2 hx0 hx3 HM HC3 HB3 HC1 HB1
  go_wp2_with fail
  go_loopw [6, 7] (fun v i wr => ∃ (k : Nat) (zs : List Int), k ≤ 3 ∧ i = .int .i64 k ∧ zs.length + k ≤ 3 ∧ wr.ownsRow w2.heap.size 3 1 v zs.length (zs.map (.int .i64)) ∧ w2.heap.size ≤ wr.heap.size ∧ Cur w.heap.size sv len wr ∧ Below w.heap.size w wr) (fun _ i _ => (intOf i).toNat)
  case atStart => exact ⟨m, [], hm, rfl, by simpa using hm, HO4.out.1, HS4.out, HC4.out, HB4.out⟩
  case round =>
    obtain ⟨k, zs, hk, rfl, hz, hown, hsz2, hcur, hbel⟩ := hrel
    have HZ := Lib.hid hz; have HO := Lib.hid hown; have HS := Lib.hid hsz2; have HCU := Lib.hid hcur; have HK := Lib.hid hbel
    clear hz hown hsz2 hcur hbel HC4 HB4 HO4 HS4
    by_cases hlt : (0 : Int) < (k : Int)
    · go_wp2_with fail
      refine (below_any _ sv len _ wr HCU.out).mono ?_
      rintro e w4 ⟨x, rfl, hx0, hx1, hx2, hc1, ho1⟩
      have HC1 := Lib.hid hc1; have HO1 := Lib.hid ho1; clear hc1 ho1 hx1
      have hown1 := own_kept' (lo := w2.heap.size) (hi := wr.heap.size) ⟨HO.out, fun g hg => (HO.out.lt g hg).2⟩ HO1.out.kept (Or.inl HL2.out)
      have HM1 := Lib.hid (show Mine .i64 3 w2.heap.size w4 w4 _ zs from ⟨hown1.1, Below.refl _ _, by rw [HO1.out.size]; exact HS.out⟩)
      clear hown1
      go_wp2_with (at_builtin; refine wpList_app rfl _ _ 34 rfl .i64 3 i0 (.int .i64 0) 8 Tryd.underlying34 hi0 hz0 hz1 hz2 rfl w2.heap.size w4 _ zs rfl (HM1.out.alloc _) _ _ [x] rfl (reads_one _ _ _ rfl) (by decide) ?c3 ?_)
      case c3 => have := HZ.out; simp; omega
      intro v' w5 hm2
      have HM2 := Lib.hid hm2; clear hm2
      go_wp2
      go_roundw
      case rel => exact ⟨k - 1, zs ++ [x], by omega, by go_num, by rw [List.length_append]; have := HZ.out; simp; omega, HM2.out.row, HM2.out.size, cur_below' HC1.out HM2.out.below HL2.out, (HK.out.trans (HO1.out.kept.below HK.out.size)).trans (HM2.out.below.mono HB2.out.size)⟩
      case measure => simp [intOf] <;> omega
    · go_wp2
      go_ret2
      exact ⟨S, _, zs, rfl, hsz, by have := HZ.out; omega, ⟨⟨HO.out.1, HO.out.2.imp id fun ⟨g, cap, cur, h1, h2, h3, h4⟩ => ⟨g, cap, cur, h1, by have := HB2.out.size; omega, h3, h4⟩⟩, fun g hg => (HO.out.lt g hg).2⟩, HK.out⟩
end Go.Proofs.YtbegfdfdilnjdaaDoor
