/- Helper contracts over the functions with which the laws draw slices of bytes: whatever the bytes, what is drawn is a new slice of bytes, and of what lay in memory before only the reader's own block is written. -/
import Derived.Test.YtlehahpgdafnoaaApp
import Derived.Test.YtlehahpgdafnoaaDrawInt
import Derived.Test.YtlehahpgdafnoaaRowReads
namespace Go.Proofs.Ytlehahpgdafnoaa
open Go.ChangeShapes Go.WideShapes Go.ChangeAt Go.RowKit

theorem kept_below {b B : Nat} {w1 w2 w3 : World} (h : Kept b w1 w2) (k : Below B w2 w3) (hB : w1.heap.size ≤ B) : Kept b w1 w3 :=
  ⟨k.os.trans h.os, k.tape.trans h.tape, k.output.trans h.output, Nat.le_trans h.size k.size, fun i hi hn => (k.block i (by omega)).trans (h.block i hi hn)⟩
theorem cur_below {b : Nat} {sv : Value} {len B : Nat} {w w' : World} (h : Cur b sv len w) (k : Below B w w') (hB : b < B) : Cur b sv len w' := by
  have hlt := h.lt
  obtain ⟨i, x, h1, h2, a, cap, e, h3, h4⟩ := h
  refine ⟨i, x, by rw [k.block b hB]; exact h1, h2, a, cap, e, h3, ?_⟩
  rcases h4 with h4 | ⟨blk, off, e2, hb, hc⟩
  · exact Or.inl h4
  · refine Or.inr ⟨blk, off, e2, hb, fun j hj => ?_⟩
    obtain ⟨n, n0, n1, hn⟩ := hc j hj
    exact ⟨n, n0, n1, by rw [k.cell (by show blk < _; omega)]; exact hn⟩
/-- What the call owns stays while the reader's block is written. -/
theorem own_kept {k : IntKind} {e : TypeId} {lo hi b : Nat} {w w' : World} {v : Value} {zs : List Int} (h : Own k e lo hi w v zs) (hk : Kept b w w') (hb : b < lo ∨ hi ≤ b) : Own k e lo hi w' v zs := by
  refine ⟨⟨h.1.1, ?_⟩, h.2⟩
  rcases h.1.2 with h1 | ⟨g, cap, cur, h1, h2, h3, h4⟩
  · exact Or.inl h1
  · have hg := h.2 g (by rw [h1]; rfl)
    have hlt := (h.1.lt g (by rw [h1]; rfl)).2
    exact Or.inr ⟨g, cap, cur, h1, h2, by rw [hk.block g hlt (by omega)]; exact h3, h4⟩

/-- A new slice of n bytes; the reader goes on. -/
def BytesOut (b : Nat) (sv : Value) (len : Nat) (most : Nat) (w : World) (en : Ending) (w' : World) : Prop :=
  ∃ v zs, en = .returned v ∧ Own .u8 5 w.heap.size w'.heap.size w' v zs ∧ Bytes zs ∧ zs.length ≤ most ∧ Cur b sv len w' ∧ Kept b w w'

set_option maxHeartbeats 1000000 in
theorem bytes_any (b : Nat) (sv : Value) (len : Nat) (n : Int) (most : Nat) (w : World) (hc : Cur b sv len w) (hn : n ≤ (most : Int)) (hm : most ≤ 1000) :
    Calls Try.prog 43 #[.pointer (some ⟨b, 0, none⟩), .int .i64 n] w (BytesOut b sv len most w) := by
  obtain ⟨i0, hi0, hz0, hz1, hz2⟩ := info_parts info8
  have hbl := hc.lt
  have HC0 := Lib.hid (hc.alloc (.cells #[] 5)); clear hc
  have HM := Lib.hid (Mine.empty .u8 5 w w w.heap.size (Below.refl _ _) (Nat.le_refl _))
  go_enter Try.func43, Try.ntmps43
  go_wp2
  go_loopw [5, 6] (fun v i wr => ∃ (k : Nat) (zs : List Int), k ≤ most ∧ i = .int .i64 k ∧ zs.length = k ∧ Bytes zs ∧ wr.ownsRow w.heap.size 5 1 v zs.length (zs.map (.int .u8)) ∧ w.heap.size ≤ wr.heap.size ∧ Cur b sv len wr ∧ Kept b w wr) (fun _ i _ => most - (intOf i).toNat)
  case atStart => exact ⟨0, [], Nat.zero_le _, rfl, rfl, (fun z hz => by cases hz), HM.out.row, by simp, HC0.out, Kept.alloc _ _ _⟩
  case round =>
    obtain ⟨k, zs, hk, rfl, hz, hzb, hown, hsz, hcur, hkept⟩ := hrel
    have HZ := Lib.hid hz; have HZB := Lib.hid hzb; have HO := Lib.hid hown; have HS := Lib.hid hsz; have HCU := Lib.hid hcur; have HK := Lib.hid hkept
    clear hz hzb hown hsz hcur hkept HC0 HM
    by_cases hlt : (k : Int) < n
    · go_wp2_with fail
      refine (byte_any b sv len wr HCU.out).mono ?_
      rintro e w1 ⟨x, rfl, hx0, hx1, hc1, ho1⟩
      have HC1 := Lib.hid hc1; have HO1 := Lib.hid ho1; clear hc1 ho1
      have hx2 : x < 256 := by omega
      have hown1 := own_kept (lo := w.heap.size) (hi := wr.heap.size) ⟨HO.out, fun g hg => (HO.out.lt g hg).2⟩ HO1.out.kept (Or.inl hbl)
      have HM1 := Lib.hid (show Mine .u8 5 w.heap.size w1 w1 u5 zs from ⟨hown1.1, Below.refl _ _, by rw [HO1.out.size]; exact HS.out⟩)
      clear hown1
      go_wp2_with (at_builtin; refine wpList_app rfl _ _ 22 rfl .u8 5 i0 (.int .u8 0) 1 Try.underlying22 hi0 hz0 hz1 hz2 rfl w.heap.size w1 _ zs rfl (HM1.out.alloc _) _ _ [x] rfl (reads_one _ _ _ rfl) (by decide) ?c3 ?_)
      case c3 => have := HZ.out; simp; omega
      intro v' w2 hm2
      have HM2 := Lib.hid hm2; clear hm2
      go_wp2
      go_roundw
      case rel => exact ⟨k + 1, zs ++ [x], by omega, by go_num, by rw [List.length_append, HZ.out]; rfl, (fun z hz => by
          rcases List.mem_append.1 hz with h | h
          · exact HZB.out z h
          · simp at h; omega), HM2.out.row, HM2.out.size, cur_below HC1.out HM2.out.below hbl, kept_below (HK.out.trans HO1.out.kept) HM2.out.below (Nat.le_refl _)⟩
      case measure => simp [intOf]; omega
    · go_wp2
      go_ret
      exact ⟨_, zs, rfl, ⟨HO.out, fun g hg => (HO.out.lt g hg).2⟩, HZB.out, by rw [HZ.out]; exact hk, HCU.out, HK.out⟩

theorem at_any (a : Option Addr) (cap len : Nat) (i : Int) (w : World) (hc : CodeOk w.heap.size w (.slice a len cap) len) (h0 : 0 ≤ i) (h1 : i ≤ 100) :
    Calls Try.prog 20 #[.slice a len cap, .int .i64 i] w fun e w' => (∃ x : Int, e = .returned (.int .i64 x) ∧ 0 ≤ x ∧ x ≤ 255) ∧ w = w' := by
  obtain ⟨a', cap', e, hlen, h4⟩ := hc
  cases e
  obtain ⟨j, rfl⟩ := Int.eq_ofNat_of_zero_le h0
  by_cases hj : (j : Int) < (len : Int)
  · rcases h4 with h4 | ⟨blk, off, rfl, hb, hcells⟩
    · omega
    · obtain ⟨n, n0, n1, hn⟩ := hcells j (by omega)
      clear hcells
      go_enter Try.func20, Try.ntmps20
      go_wp2
      go_ret
      exact ⟨⟨n, rfl, n0, by omega⟩, rfl⟩
  · clear h4
    go_enter Try.func20, Try.ntmps20
    go_wp2
    go_ret
    exact ⟨⟨_, rfl, by omega, by omega⟩, rfl⟩
end Go.Proofs.Ytlehahpgdafnoaa
