/- Helper contracts over the functions with which the laws copy and measure one token. Asked: what lies in memory is as named. -/
import Derived.Test.YtbegfdfdilnjdaaTagP
import Derived.Test.YtbegfdfdilnjdaaRowT
import Derived.Test.YtbegfdfdilnjdaaLawT
namespace Go.Proofs.Ytbegfdfdilnjdaa
open Go.ChangeShapes Go.WideShapes Go.ChangeAt Go.RowKit

theorem attrs_form {x : Rw} {hi : Nat} {w : World} (hx : IsAttrS x) (h : x.ReadR hi w) : ∃ a n c, x.cell = .slice a n c := by
  obtain ⟨v, n, e, cs, rfl, _⟩ := hx
  rw [Rw.ReadR] at h
  obtain ⟨⟨a, cap, rfl, _⟩, _⟩ := h
  exact ⟨a, n, cap, rfl⟩

theorem OnlyB.set {bs : List Nat} {w w' : World} {b o : Nat} {u : Value} (h : OnlyB bs w w') (hb : b ∈ bs) : OnlyB bs w (w'.setCell ⟨b, o, none⟩ u) :=
  ⟨h.os, h.tape, h.output, Nat.le_trans h.size (size_set _ _ _), fun i hi hn => by
    rw [Below.heap_setCell _ _ _ _ (show i ≠ b from fun e => hn (e ▸ hb))]; exact h.block i hi hn⟩
set_option maxRecDepth 100000 in
set_option maxHeartbeats 2000000 in
theorem to_Token (k : Int) (n : ByteArray) (x : Rw) (t : ByteArray) (hx : IsAttrS x) (w : World) (rx : x.ReadR w.heap.size w) (hl : x.weight ≤ 4398046511104) :
    Calls Try.prog 11 #[.agg #[.int .i64 k, .string n, x.cell, .string t]] w fun e w' => ∃ y : Rw, e = .returned (.agg #[.int .i64 k, .string n, y.cell, .string t]) ∧ IsAttrS y ∧ y.data = x.data ∧ y.OwnR w.heap.size w'.heap.size w' ∧ Below w.heap.size w w' := by
  obtain ⟨xa, xn, xc, hxc⟩ := attrs_form hx rx
  obtain ⟨W, hW⟩ : ∃ W, ((w.alloc (.cells #[.int .i64 k, .string n, .slice xa xn xc, .string t] 25)).alloc (.cells #[.int .i64 0, .string ⟨#[]⟩, .slice none 0 0, .string ⟨#[]⟩] 30)).alloc (.cells #[.int .i64 k, .string n, .slice none 0 0, .string ⟨#[]⟩] 30) = W := ⟨_, rfl⟩
  have hg0 : Grw w W := by rw [← hW]; exact (((Grw.refl w).alloc _).alloc _).alloc _
  have hto := to_AttrS x hx W (rx.up hg0) hl
  rw [hxc] at hto ⊢
  have ho : W.heap[w.heap.size + 2]? = some (.cells #[.int .i64 k, .string n, .slice none 0 0, .string ⟨#[]⟩] 30 (0, 0)) := by
    rw [← hW]
    have h := heap_alloc_new ((w.alloc (.cells #[.int .i64 k, .string n, .slice xa xn xc, .string t] 25)).alloc (.cells #[.int .i64 0, .string ⟨#[]⟩, .slice none 0 0, .string ⟨#[]⟩] 30)) (.cells #[.int .i64 k, .string n, .slice none 0 0, .string ⟨#[]⟩] 30)
    rw [size_alloc, size_alloc] at h
    exact h
  have hz : W.heap[w.heap.size + 1]? = some (.cells #[.int .i64 0, .string ⟨#[]⟩, .slice none 0 0, .string ⟨#[]⟩] 30 (0, 0)) := by
    rw [← hW, Below.heap_alloc _ _ _ (by rw [size_alloc, size_alloc]; omega)]
    have h := heap_alloc_new (w.alloc (.cells #[.int .i64 k, .string n, .slice xa xn xc, .string t] 25)) (.cells #[.int .i64 0, .string ⟨#[]⟩, .slice none 0 0, .string ⟨#[]⟩] 30)
    rw [size_alloc] at h
    exact h
  have ha : W.heap[w.heap.size]? = some (.cells #[.int .i64 k, .string n, .slice xa xn xc, .string t] 25 (0, 0)) := by
    rw [← hW, Below.heap_alloc _ _ _ (by rw [size_alloc, size_alloc]; omega), Below.heap_alloc _ _ _ (by rw [size_alloc]; omega)]
    exact heap_alloc_new w _
  have hws : W.heap.size = w.heap.size + 3 := by rw [← hW, size_alloc, size_alloc, size_alloc]
  have HWS := Lib.hid hws; clear hws
  have HTO := Lib.hid hto; have HB0 := Lib.hid hg0.below; have HO0 := Lib.hid ho; have HZ0 := Lib.hid hz; have HA0 := Lib.hid ha; have HW := Lib.hid hW
  clear hto rx hxc hg0 ho hz ha hW
  go_enter Try.func11, Try.ntmps11
  go_wp2_with fail
  rw [HW.out]
  refine HTO.out.mono ?_
  rintro e w1 ⟨y, rfl, hy, hd, _, ho, hb⟩
  obtain ⟨ya, yn, yc, hyc⟩ := attrs_form hy (Rw.OwnR.reads _ ho)
  have h1 := below_heap hb (heap_lt HO0.out) HO0.out
  have h2 := below_heap hb (heap_lt HA0.out) HA0.out
  have h3 := below_heap hb (heap_lt HZ0.out) HZ0.out
  rw [hyc]
  obtain ⟨⟨r0, r1, r2, r3⟩, z0, z1, z2, z3⟩ := cells_four h1
  obtain ⟨⟨p0, p1, p2, p3⟩, _⟩ := cells_four h2
  obtain ⟨⟨s0, s1, s2, s3⟩, y0, y1, y2, y3⟩ := cells_four h3
  have HOW := Lib.hid ho; have HYD := Lib.hid hd; have HY := Lib.hid hy; have HYC := Lib.hid hyc
  have HB := Lib.hid ((HB0.out.trans (hb.mono HB0.out.size)))
  have HH1 := Lib.hid h1; have HH3 := Lib.hid h3
  clear h1 h2 h3 ho hd hy hb hyc
  go_wp2_with fail
  have h3a : ((w1.setCell ⟨w.heap.size + 2, 2, none⟩ (.slice ya yn yc)).setCell ⟨w.heap.size + 2, 3, none⟩ (.string t)).heap[w.heap.size + 1]? = some (.cells #[.int .i64 0, .string ⟨#[]⟩, .slice none 0 0, .string ⟨#[]⟩] 30 (0, 0)) := by
    rw [Below.heap_setCell _ _ _ _ (show w.heap.size + 1 ≠ w.heap.size + 2 by omega), Below.heap_setCell _ _ _ _ (show w.heap.size + 1 ≠ w.heap.size + 2 by omega)]; exact HH3.out
  have HK := Lib.hid (heap_four h3a (.int .i64 k) (.string n) (.slice ya yn yc) (.string t))
  have HON := Lib.hid (show OnlyB [w.heap.size + 1, w.heap.size + 2] w1 ((((((w1.setCell ⟨w.heap.size + 2, 2, none⟩ (.slice ya yn yc)).setCell ⟨w.heap.size + 2, 3, none⟩ (.string t)).setCell ⟨w.heap.size + 1, 0, none⟩ (.int .i64 k)).setCell ⟨w.heap.size + 1, 1, none⟩ (.string n)).setCell ⟨w.heap.size + 1, 2, none⟩ (.slice ya yn yc)).setCell ⟨w.heap.size + 1, 3, none⟩ (.string t)) from
    ((((((OnlyB.refl _ w1).set (by simp)).set (by simp)).set (by simp)).set (by simp)).set (by simp)).set (by simp))
  obtain ⟨⟨q0, q1, q2, q3⟩, _⟩ := cells_four HK.out
  refine bodyPost_ret (v := .agg #[.int .i64 k, .string n, .slice ya yn yc, .string t]) (by simp [results, Try.results11, go_sem, q0, q1, q2, q3]) rfl ?_
  refine ⟨y, by rw [HYC.out], HY.out, HYD.out, own_mono (Rw.OwnR.only HON.out y HOW.out fun b hb hm => ?_) (by rw [HWS.out]; omega) HON.out.size, HB.out.trans (HON.out.below (fun b hb => ?_) HB.out.size)⟩
  · have h := (Rw.OwnR.lt y HOW.out b hb).1
    rw [HWS.out] at h
    simp only [List.mem_cons, List.mem_nil_iff, or_false] at hm
    omega
  · simp only [List.mem_cons, List.mem_nil_iff, or_false] at hb
    omega

set_option maxHeartbeats 2000000 in
theorem sz_Token (k : Int) (n : ByteArray) (x : Rw) (t : ByteArray) (hx : IsAttrS x) (w : World) (rx : x.ReadR w.heap.size w) (hs : x.Small) (hn : n.size ≤ 9223372036854775807) (ht : t.size ≤ 9223372036854775807) :
    Calls Try.prog 9 #[.agg #[.int .i64 k, .string n, x.cell, .string t], .int .i64 1048576] w fun e w' => ∃ r : Int, e = .returned (.int .i64 r) ∧ -1 ≤ r ∧ (0 ≤ r → r + (n.size : Nat) + (x.weight : Nat) + (t.size : Nat) = 1048576) ∧ Grw w w' := by
  have HB := Lib.hid ((Grw.refl w).alloc (.cells #[.int .i64 k, .string n, x.cell, .string t] 25))
  have HR := Lib.hid (rx.up HB.out)
  obtain ⟨xa, xn, xc, hxc⟩ := attrs_form hx rx
  rw [hxc] at HB HR ⊢
  by_cases c0 : (1048576 : Int) - (n.size : Int) < 0
  · go_enter Try.func9, Try.ntmps9
    go_wp2_with fail
    go_ret
    exact ⟨-1, rfl, by omega, by omega, HB.out⟩
  · have hsz := sz_AttrS x hx (1048576 - (n.size : Int)) (by omega) (by omega) _ HR.out hs
    rw [hxc] at hsz
    have HSZ := Lib.hid hsz; clear hsz
    go_enter Try.func9, Try.ntmps9
    go_wp2_with fail
    refine HSZ.out.mono ?_
    rintro e w1 ⟨r, rfl, lo, hr, hg⟩
    have HG := Lib.hid (HB.out.trans hg)
    have q3 : w1.cell? ⟨w.heap.size, 3, none⟩ = some (.string t) := by rw [hg.below.cell (by rw [size_alloc]; show w.heap.size < _; omega)]; simp
    clear hg hxc
    by_cases c1 : r < 0
    · go_wp2_with fail
      go_ret
      exact ⟨-1, rfl, by omega, by omega, HG.out⟩
    · have hr' := hr (by omega)
      by_cases c2 : r - (t.size : Int) < 0
      · go_wp2_with fail
        go_ret
        exact ⟨-1, rfl, by omega, by omega, HG.out⟩
      · go_wp2_with fail
        go_ret
        exact ⟨r - (t.size : Int), rfl, by omega, by omega, HG.out⟩
theorem eq_TokenV (k : Int) (n : ByteArray) (y z : Rw) (t : ByteArray) (w : World) (ya : Option Addr) (yn yc : Nat) (za : Option Addr) (zn zc : Nat) (hy : y.cell = .slice ya yn yc) (hz : z.cell = .slice za zn zc) (iy : IsAttrS y) (iz : IsAttrS z) (hd : y.data = z.data) (ry : y.ReadR w.heap.size w) (rz : z.ReadR w.heap.size w) :
    Calls Try.prog 13 #[.agg #[.int .i64 k, .string n, .slice ya yn yc, .string t], .agg #[.int .i64 k, .string n, .slice za zn zc, .string t]] w fun e w' => e = .returned (.bool true) ∧ Grw w w' := by
  rw [← hy, ← hz]; exact eq_Token k n y z t w iy iz hd ry rz
end Go.Proofs.Ytbegfdfdilnjdaa
