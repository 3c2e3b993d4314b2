/- The walk of the law FnAddrs: it returns true, and writes nothing that was there. -/
import Derived.Test.YtojpbdhkcpfeaaaAddrsP
import Derived.Test.YtojpbdhkcpfeaaaDrawS
import Derived.Test.YtojpbdhkcpfeaaaSortA
import Derived.Test.YtojpbdhkcpfeaaaHas
namespace Go.Proofs.Ytojpbdhkcpfeaaa
open Go.ChangeShapes Go.WideShapes Go.ChangeAt Go.RowKit

theorem has_true {v : Value} {xs : List Ad} {w0 wr : World} (hr : ReadsK encA 2 w0.heap.size w0 v xs) (hg : Grw w0 wr) {h p : ByteArray} (hin : (h, p) ∈ xs) (n : Nat) (os : Array Obj) :
    Calls Try.prog 21 #[v, .agg #[.string h, .string p]] (Sort.grow (wr.drewN n) os) fun e w' => e = .returned (.bool true) ∧ ∃ q os', w' = Sort.grow ((Sort.grow (wr.drewN n) os).drewN q) os' := by
  have hg2 : Grw w0 (Sort.grow (wr.drewN n) os) := hg.trans ⟨n, os, rfl⟩
  have h1 := has_impl v w0.heap.size xs h p (Sort.grow (wr.drewN n) os) (hr.grw (Nat.le_refl _) hg2) hg2.below.size
  rw [hasA_iff.2 hin] at h1
  exact h1
theorem has_now {v : Value} {wr : World} {h p : ByteArray} (H : ∀ (n : Nat) (os : Array Obj), Calls Try.prog 21 #[v, .agg #[.string h, .string p]] (Sort.grow (wr.drewN n) os) fun e w' => e = .returned (.bool true) ∧ ∃ q os', w' = Sort.grow ((Sort.grow (wr.drewN n) os).drewN q) os') :
    Calls Try.prog 21 #[v, .agg #[.string h, .string p]] wr fun e w' => e = .returned (.bool true) ∧ Grw wr w' := by
  have h1 := H 0 #[]
  rw [Sort.grow_empty] at h1
  exact h1
theorem addrs_big (a : Option Addr) (len cap : Nat) (w : World) (h : (1048576 : Int) < (len : Int)) :
    Calls Try.prog 3 #[.slice a len cap] w fun e w' => e = .returned (.bool true) ∧ Below w.heap.size w w' := by
  go_enter Try.func3, Try.ntmps3
  go_wp2_with (go_at_call 11; refine (big_yes _ _ _ _ h).mono ?_; rintro e w' ⟨rfl, rfl⟩)
  go_ret
  exact ⟨rfl, Below.refl _ _⟩

set_option maxRecDepth 100000 in
set_option maxHeartbeats 8000000 in
theorem walkAddrs (a_c : Option Addr) (len_c cap_c : Nat) (w : World) (r_c : CodeOk w.heap.size w (.slice a_c len_c cap_c) len_c) :
    Calls Try.prog 3 #[.slice a_c len_c cap_c] w fun e w' => e = .returned (.bool true) ∧ Below w.heap.size w w' := by
  have hlen : (len_c : Int) ≤ (1048576 : Int) := by obtain ⟨_, _, _, h, _⟩ := r_c; omega
  have HCO := Lib.hid r_c; clear r_c
  have mixed : Try.prog.follows .mixedOrders = true := by kernel_rfl
  go_enter Try.func3, Try.ntmps3
  have HB := Lib.hid (Below.refl w.heap.size w)
  go_wp2_with fail
  refine (big_no _ _ _ _ (Int.not_lt.2 hlen)).mono ?_
  rintro e w' ⟨rfl, rfl⟩
  go_wp2_with fail
  refine (drawFmt_any _ len_c _ HCO.out).mono ?_
  rintro e w_1 ⟨ah, ap, rfl, hh, hp, hb⟩
  have hB := hb
  have HS1 := Lib.hid hB.size
  replace HB := Lib.hid (HB.out.trans (hB.mono HB.out.size))
  clear hB
  obtain ⟨X, Y, B, hR⟩ : ∃ X Y B, prsA (fmtA (ah, ap)) ⟨#[104, 111, 109, 101]⟩ = ((X, Y), B) := ⟨_, _, _, rfl⟩
  have him := prs_impl (fmtA (ah, ap)) ⟨#[104, 111, 109, 101]⟩ (by have := fmtA_size (ah, ap); omega) (by decide)
  rw [hR] at him
  simp only [prsV] at him
  have HIM := Lib.hid him; have HR := Lib.hid hR; clear him hR
  go_wp2_with fail
  obtain ⟨w_2, hw⟩ : ∃ x, w_1.alloc (.cells #[.string ah, .string ap] 25) = x := ⟨_, rfl⟩
  rw [hw]
  have hB : Below w_1.heap.size w_1 w_2 := by rw [← hw]; exact (Below.refl _ _).alloc (Nat.le_refl _) _
  have q_a0 : w_2.cell? ⟨w_1.heap.size, 0, none⟩ = some (.string ah) := by rw [← hw]; simp
  have q_a1 : w_2.cell? ⟨w_1.heap.size, 1, none⟩ = some (.string ap) := by rw [← hw]; simp
  have b_a : w_1.heap.size < w_2.heap.size := World.block_lt_of_cell? _ _ q_a0
  have HS2 := Lib.hid hB.size
  replace HB := Lib.hid (HB.out.trans (hB.mono HB.out.size))
  clear hB hw
  go_wp2_with fail
  refine (fmtA_impl ah ap (by omega) (by omega) _).mono ?_
  rintro e w_3 ⟨rfl, hb⟩
  have hB := hb
  replace q_a0 := (hB.cell (show (⟨w_1.heap.size, 0, none⟩ : Addr).block < _ from World.block_lt_of_cell? _ _ q_a0)).trans q_a0
  replace q_a1 := (hB.cell (show (⟨w_1.heap.size, 1, none⟩ : Addr).block < _ from World.block_lt_of_cell? _ _ q_a1)).trans q_a1
  replace b_a : w_1.heap.size < w_3.heap.size := World.block_lt_of_cell? _ _ q_a0
  have HS3 := Lib.hid hB.size
  replace HB := Lib.hid (HB.out.trans (hB.mono HB.out.size))
  clear hB
  go_wp2_with fail
  refine (HIM.out _).mono ?_
  rintro e w_4 ⟨rfl, hb⟩
  have hB := hb
  replace q_a0 := (hB.cell (show (⟨w_1.heap.size, 0, none⟩ : Addr).block < _ from World.block_lt_of_cell? _ _ q_a0)).trans q_a0
  replace q_a1 := (hB.cell (show (⟨w_1.heap.size, 1, none⟩ : Addr).block < _ from World.block_lt_of_cell? _ _ q_a1)).trans q_a1
  replace b_a : w_1.heap.size < w_4.heap.size := World.block_lt_of_cell? _ _ q_a0
  have HS4 := Lib.hid hB.size
  replace HB := Lib.hid (HB.out.trans (hB.mono HB.out.size))
  clear hB
  go_wp2_with fail
  obtain ⟨w_5, hw⟩ : ∃ x, w_4.alloc (.cells #[.string X, .string Y] 25) = x := ⟨_, rfl⟩
  rw [hw]
  have hB : Below w_4.heap.size w_4 w_5 := by rw [← hw]; exact (Below.refl _ _).alloc (Nat.le_refl _) _
  have q_x0 : w_5.cell? ⟨w_4.heap.size, 0, none⟩ = some (.string X) := by rw [← hw]; simp
  have q_x1 : w_5.cell? ⟨w_4.heap.size, 1, none⟩ = some (.string Y) := by rw [← hw]; simp
  have b_x : w_4.heap.size < w_5.heap.size := World.block_lt_of_cell? _ _ q_x0
  replace q_a0 := (hB.cell (show (⟨w_1.heap.size, 0, none⟩ : Addr).block < _ from World.block_lt_of_cell? _ _ q_a0)).trans q_a0
  replace q_a1 := (hB.cell (show (⟨w_1.heap.size, 1, none⟩ : Addr).block < _ from World.block_lt_of_cell? _ _ q_a1)).trans q_a1
  replace b_a : w_1.heap.size < w_5.heap.size := World.block_lt_of_cell? _ _ q_a0
  have HS5 := Lib.hid hB.size
  replace HB := Lib.hid (HB.out.trans (hB.mono HB.out.size))
  clear hB hw
  go_wp2_with fail
  refine (drawPrs_any _ len_c _ (codeOk_later HCO.out HB.out)).mono ?_
  rintro e w_6 ⟨t1, t2, rfl, ht1, ht2, hb⟩
  have hB := hb
  replace q_a0 := (hB.cell (show (⟨w_1.heap.size, 0, none⟩ : Addr).block < _ from World.block_lt_of_cell? _ _ q_a0)).trans q_a0
  replace q_a1 := (hB.cell (show (⟨w_1.heap.size, 1, none⟩ : Addr).block < _ from World.block_lt_of_cell? _ _ q_a1)).trans q_a1
  replace b_a : w_1.heap.size < w_6.heap.size := World.block_lt_of_cell? _ _ q_a0
  replace q_x0 := (hB.cell (show (⟨w_4.heap.size, 0, none⟩ : Addr).block < _ from World.block_lt_of_cell? _ _ q_x0)).trans q_x0
  replace q_x1 := (hB.cell (show (⟨w_4.heap.size, 1, none⟩ : Addr).block < _ from World.block_lt_of_cell? _ _ q_x1)).trans q_x1
  replace b_x : w_4.heap.size < w_6.heap.size := World.block_lt_of_cell? _ _ q_x0
  have HS6 := Lib.hid hB.size
  replace HB := Lib.hid (HB.out.trans (hB.mono HB.out.size))
  clear hB
  obtain ⟨Y1, Y2, F, hS⟩ : ∃ X Y B, prsA t1 t2 = ((X, Y), B) := ⟨_, _, _, rfl⟩
  have him := prs_impl t1 t2 (by omega) (by omega); have hsp := prs_spec t1 t2 (by omega) (by omega); have hy := parts_size (s := t1) (base := t2) rfl (by omega) (by omega)
  have hys : Y1.size ≤ 4611686018427387904 ∧ Y2.size ≤ 4611686018427387904 := by
    unfold prsA at hS; split at hS
    · have h1 := (Prod.mk.inj hS).1; have h2 := congrArg Prod.fst h1; have h3 := congrArg Prod.snd h1; simp only at h2 h3; rw [← h2, ← h3]; exact hy
    · have h1 := (Prod.mk.inj (Prod.mk.inj hS).1); rw [← h1.1, ← h1.2]; exact ⟨by decide, by decide⟩
  obtain ⟨hy1, hy2⟩ := hys
  rw [hS] at him hsp
  simp only [prsV] at him hsp
  have HIM2 := Lib.hid him; have HSP2 := Lib.hid hsp; have HPS := Lib.hid hS; clear him hsp hS hy
  go_wp2_with fail
  refine (HIM2.out _).mono ?_
  rintro e w_7 ⟨rfl, hb⟩
  have hB := hb
  replace q_a0 := (hB.cell (show (⟨w_1.heap.size, 0, none⟩ : Addr).block < _ from World.block_lt_of_cell? _ _ q_a0)).trans q_a0
  replace q_a1 := (hB.cell (show (⟨w_1.heap.size, 1, none⟩ : Addr).block < _ from World.block_lt_of_cell? _ _ q_a1)).trans q_a1
  replace b_a : w_1.heap.size < w_7.heap.size := World.block_lt_of_cell? _ _ q_a0
  replace q_x0 := (hB.cell (show (⟨w_4.heap.size, 0, none⟩ : Addr).block < _ from World.block_lt_of_cell? _ _ q_x0)).trans q_x0
  replace q_x1 := (hB.cell (show (⟨w_4.heap.size, 1, none⟩ : Addr).block < _ from World.block_lt_of_cell? _ _ q_x1)).trans q_x1
  replace b_x : w_4.heap.size < w_7.heap.size := World.block_lt_of_cell? _ _ q_x0
  have HS7 := Lib.hid hB.size
  replace HB := Lib.hid (HB.out.trans (hB.mono HB.out.size))
  clear hB
  go_wp2_with fail
  obtain ⟨w_8, hw⟩ : ∃ x, w_7.alloc (.cells #[.string Y1, .string Y2] 25) = x := ⟨_, rfl⟩
  rw [hw]
  have hB : Below w_7.heap.size w_7 w_8 := by rw [← hw]; exact (Below.refl _ _).alloc (Nat.le_refl _) _
  have q_y0 : w_8.cell? ⟨w_7.heap.size, 0, none⟩ = some (.string Y1) := by rw [← hw]; simp
  have q_y1 : w_8.cell? ⟨w_7.heap.size, 1, none⟩ = some (.string Y2) := by rw [← hw]; simp
  have b_y : w_7.heap.size < w_8.heap.size := World.block_lt_of_cell? _ _ q_y0
  replace q_a0 := (hB.cell (show (⟨w_1.heap.size, 0, none⟩ : Addr).block < _ from World.block_lt_of_cell? _ _ q_a0)).trans q_a0
  replace q_a1 := (hB.cell (show (⟨w_1.heap.size, 1, none⟩ : Addr).block < _ from World.block_lt_of_cell? _ _ q_a1)).trans q_a1
  replace b_a : w_1.heap.size < w_8.heap.size := World.block_lt_of_cell? _ _ q_a0
  replace q_x0 := (hB.cell (show (⟨w_4.heap.size, 0, none⟩ : Addr).block < _ from World.block_lt_of_cell? _ _ q_x0)).trans q_x0
  replace q_x1 := (hB.cell (show (⟨w_4.heap.size, 1, none⟩ : Addr).block < _ from World.block_lt_of_cell? _ _ q_x1)).trans q_x1
  replace b_x : w_4.heap.size < w_8.heap.size := World.block_lt_of_cell? _ _ q_x0
  have HS8 := Lib.hid hB.size
  replace HB := Lib.hid (HB.out.trans (hB.mono HB.out.size))
  clear hB hw
  go_wp2_with fail
  refine (HSP2.out _).mono ?_
  rintro e w_9 ⟨rfl, hb⟩
  have hB := hb
  replace q_a0 := (hB.cell (show (⟨w_1.heap.size, 0, none⟩ : Addr).block < _ from World.block_lt_of_cell? _ _ q_a0)).trans q_a0
  replace q_a1 := (hB.cell (show (⟨w_1.heap.size, 1, none⟩ : Addr).block < _ from World.block_lt_of_cell? _ _ q_a1)).trans q_a1
  replace b_a : w_1.heap.size < w_9.heap.size := World.block_lt_of_cell? _ _ q_a0
  replace q_x0 := (hB.cell (show (⟨w_4.heap.size, 0, none⟩ : Addr).block < _ from World.block_lt_of_cell? _ _ q_x0)).trans q_x0
  replace q_x1 := (hB.cell (show (⟨w_4.heap.size, 1, none⟩ : Addr).block < _ from World.block_lt_of_cell? _ _ q_x1)).trans q_x1
  replace b_x : w_4.heap.size < w_9.heap.size := World.block_lt_of_cell? _ _ q_x0
  replace q_y0 := (hB.cell (show (⟨w_7.heap.size, 0, none⟩ : Addr).block < _ from World.block_lt_of_cell? _ _ q_y0)).trans q_y0
  replace q_y1 := (hB.cell (show (⟨w_7.heap.size, 1, none⟩ : Addr).block < _ from World.block_lt_of_cell? _ _ q_y1)).trans q_y1
  replace b_y : w_7.heap.size < w_9.heap.size := World.block_lt_of_cell? _ _ q_y0
  have HS9 := Lib.hid hB.size
  replace HB := Lib.hid (HB.out.trans (hB.mono HB.out.size))
  clear hB
  go_wp2_with fail
  obtain ⟨w_10, hw⟩ : ∃ x, w_9.alloc (.cells #[.string Y1, .string Y2] 25) = x := ⟨_, rfl⟩
  rw [hw]
  have hB : Below w_9.heap.size w_9 w_10 := by rw [← hw]; exact (Below.refl _ _).alloc (Nat.le_refl _) _
  have q_z0 : w_10.cell? ⟨w_9.heap.size, 0, none⟩ = some (.string Y1) := by rw [← hw]; simp
  have q_z1 : w_10.cell? ⟨w_9.heap.size, 1, none⟩ = some (.string Y2) := by rw [← hw]; simp
  have b_z : w_9.heap.size < w_10.heap.size := World.block_lt_of_cell? _ _ q_z0
  replace q_a0 := (hB.cell (show (⟨w_1.heap.size, 0, none⟩ : Addr).block < _ from World.block_lt_of_cell? _ _ q_a0)).trans q_a0
  replace q_a1 := (hB.cell (show (⟨w_1.heap.size, 1, none⟩ : Addr).block < _ from World.block_lt_of_cell? _ _ q_a1)).trans q_a1
  replace b_a : w_1.heap.size < w_10.heap.size := World.block_lt_of_cell? _ _ q_a0
  replace q_x0 := (hB.cell (show (⟨w_4.heap.size, 0, none⟩ : Addr).block < _ from World.block_lt_of_cell? _ _ q_x0)).trans q_x0
  replace q_x1 := (hB.cell (show (⟨w_4.heap.size, 1, none⟩ : Addr).block < _ from World.block_lt_of_cell? _ _ q_x1)).trans q_x1
  replace b_x : w_4.heap.size < w_10.heap.size := World.block_lt_of_cell? _ _ q_x0
  replace q_y0 := (hB.cell (show (⟨w_7.heap.size, 0, none⟩ : Addr).block < _ from World.block_lt_of_cell? _ _ q_y0)).trans q_y0
  replace q_y1 := (hB.cell (show (⟨w_7.heap.size, 1, none⟩ : Addr).block < _ from World.block_lt_of_cell? _ _ q_y1)).trans q_y1
  replace b_y : w_7.heap.size < w_10.heap.size := World.block_lt_of_cell? _ _ q_y0
  have HS10 := Lib.hid hB.size
  replace HB := Lib.hid (HB.out.trans (hB.mono HB.out.size))
  clear hB hw
  have ey1 : (Y1.toList == Y1.toList) = true := beqL_yes rfl
  have ey2 : (Y2.toList == Y2.toList) = true := beqL_yes rfl
  have ea1 : (ah.toList == ah.toList) = true := beqL_yes rfl
  have ea2 : (ap.toList == ap.toList) = true := beqL_yes rfl
  cases hia : isAd (ah, ap) with
  | true =>
    have hxx := ((prs_fmt_yes hia).symm.trans HR.out)
    obtain ⟨hxy, hB⟩ := Prod.mk.inj hxx
    obtain ⟨hX, hY⟩ := Prod.mk.inj hxy
    clear hxx hxy HR HIM
    subst hX; subst hY; subst hB
    cases F with
    | true =>
      have HAY := Lib.hid (prsA_ok HPS.out rfl)
      clear HPS HIM2 HSP2
      go_wp2_with fail
      refine (isAd_impl ah ap (by omega) (by omega) _).mono ?_
      rintro e w_11 ⟨rfl, hb⟩
      have hB := hb
      replace q_a0 := (hB.cell (show (⟨w_1.heap.size, 0, none⟩ : Addr).block < _ from World.block_lt_of_cell? _ _ q_a0)).trans q_a0
      replace q_a1 := (hB.cell (show (⟨w_1.heap.size, 1, none⟩ : Addr).block < _ from World.block_lt_of_cell? _ _ q_a1)).trans q_a1
      replace b_a : w_1.heap.size < w_11.heap.size := World.block_lt_of_cell? _ _ q_a0
      replace q_x0 := (hB.cell (show (⟨w_4.heap.size, 0, none⟩ : Addr).block < _ from World.block_lt_of_cell? _ _ q_x0)).trans q_x0
      replace q_x1 := (hB.cell (show (⟨w_4.heap.size, 1, none⟩ : Addr).block < _ from World.block_lt_of_cell? _ _ q_x1)).trans q_x1
      replace b_x : w_4.heap.size < w_11.heap.size := World.block_lt_of_cell? _ _ q_x0
      replace q_y0 := (hB.cell (show (⟨w_7.heap.size, 0, none⟩ : Addr).block < _ from World.block_lt_of_cell? _ _ q_y0)).trans q_y0
      replace q_y1 := (hB.cell (show (⟨w_7.heap.size, 1, none⟩ : Addr).block < _ from World.block_lt_of_cell? _ _ q_y1)).trans q_y1
      replace b_y : w_7.heap.size < w_11.heap.size := World.block_lt_of_cell? _ _ q_y0
      replace q_z0 := (hB.cell (show (⟨w_9.heap.size, 0, none⟩ : Addr).block < _ from World.block_lt_of_cell? _ _ q_z0)).trans q_z0
      replace q_z1 := (hB.cell (show (⟨w_9.heap.size, 1, none⟩ : Addr).block < _ from World.block_lt_of_cell? _ _ q_z1)).trans q_z1
      replace b_z : w_9.heap.size < w_11.heap.size := World.block_lt_of_cell? _ _ q_z0
      have HS11 := Lib.hid hB.size
      replace HB := Lib.hid (HB.out.trans (hB.mono HB.out.size))
      rw [hia]
      clear hB
      go_wp2_with fail
      refine (isAd_impl Y1 Y2 (by omega) (by omega) _).mono ?_
      rintro e w_12 ⟨rfl, hb⟩
      have hB := hb
      replace q_a0 := (hB.cell (show (⟨w_1.heap.size, 0, none⟩ : Addr).block < _ from World.block_lt_of_cell? _ _ q_a0)).trans q_a0
      replace q_a1 := (hB.cell (show (⟨w_1.heap.size, 1, none⟩ : Addr).block < _ from World.block_lt_of_cell? _ _ q_a1)).trans q_a1
      replace b_a : w_1.heap.size < w_12.heap.size := World.block_lt_of_cell? _ _ q_a0
      replace q_x0 := (hB.cell (show (⟨w_4.heap.size, 0, none⟩ : Addr).block < _ from World.block_lt_of_cell? _ _ q_x0)).trans q_x0
      replace q_x1 := (hB.cell (show (⟨w_4.heap.size, 1, none⟩ : Addr).block < _ from World.block_lt_of_cell? _ _ q_x1)).trans q_x1
      replace b_x : w_4.heap.size < w_12.heap.size := World.block_lt_of_cell? _ _ q_x0
      replace q_y0 := (hB.cell (show (⟨w_7.heap.size, 0, none⟩ : Addr).block < _ from World.block_lt_of_cell? _ _ q_y0)).trans q_y0
      replace q_y1 := (hB.cell (show (⟨w_7.heap.size, 1, none⟩ : Addr).block < _ from World.block_lt_of_cell? _ _ q_y1)).trans q_y1
      replace b_y : w_7.heap.size < w_12.heap.size := World.block_lt_of_cell? _ _ q_y0
      replace q_z0 := (hB.cell (show (⟨w_9.heap.size, 0, none⟩ : Addr).block < _ from World.block_lt_of_cell? _ _ q_z0)).trans q_z0
      replace q_z1 := (hB.cell (show (⟨w_9.heap.size, 1, none⟩ : Addr).block < _ from World.block_lt_of_cell? _ _ q_z1)).trans q_z1
      replace b_z : w_9.heap.size < w_12.heap.size := World.block_lt_of_cell? _ _ q_z0
      have HS12 := Lib.hid hB.size
      replace HB := Lib.hid (HB.out.trans (hB.mono HB.out.size))
      rw [HAY.out]
      clear hB
      clear ey1 ey2 ea1 ea2
      go_wp2_with fail
      refine (drawSort_any _ len_c _ (codeOk_later HCO.out HB.out)).mono ?_
      rintro e w_13 ⟨v_l, xs, rfl, ho, hsh, hxl, hb⟩
      have hB := hb
      replace q_a0 := (hB.cell (show (⟨w_1.heap.size, 0, none⟩ : Addr).block < _ from World.block_lt_of_cell? _ _ q_a0)).trans q_a0
      replace q_a1 := (hB.cell (show (⟨w_1.heap.size, 1, none⟩ : Addr).block < _ from World.block_lt_of_cell? _ _ q_a1)).trans q_a1
      replace b_a : w_1.heap.size < w_13.heap.size := World.block_lt_of_cell? _ _ q_a0
      replace q_x0 := (hB.cell (show (⟨w_4.heap.size, 0, none⟩ : Addr).block < _ from World.block_lt_of_cell? _ _ q_x0)).trans q_x0
      replace q_x1 := (hB.cell (show (⟨w_4.heap.size, 1, none⟩ : Addr).block < _ from World.block_lt_of_cell? _ _ q_x1)).trans q_x1
      replace b_x : w_4.heap.size < w_13.heap.size := World.block_lt_of_cell? _ _ q_x0
      replace q_y0 := (hB.cell (show (⟨w_7.heap.size, 0, none⟩ : Addr).block < _ from World.block_lt_of_cell? _ _ q_y0)).trans q_y0
      replace q_y1 := (hB.cell (show (⟨w_7.heap.size, 1, none⟩ : Addr).block < _ from World.block_lt_of_cell? _ _ q_y1)).trans q_y1
      replace b_y : w_7.heap.size < w_13.heap.size := World.block_lt_of_cell? _ _ q_y0
      replace q_z0 := (hB.cell (show (⟨w_9.heap.size, 0, none⟩ : Addr).block < _ from World.block_lt_of_cell? _ _ q_z0)).trans q_z0
      replace q_z1 := (hB.cell (show (⟨w_9.heap.size, 1, none⟩ : Addr).block < _ from World.block_lt_of_cell? _ _ q_z1)).trans q_z1
      replace b_z : w_9.heap.size < w_13.heap.size := World.block_lt_of_cell? _ _ q_z0
      have Hl := Lib.hid ho
      have HS13 := Lib.hid hB.size
      replace HB := Lib.hid (HB.out.trans (hB.mono HB.out.size))
      clear hB ho
      go_wp2_with fail
      refine (sortImpl_any _ _ xs _ (Hl.out.reads encA_len) (by have := HS1.out; have := HS2.out; have := HS3.out; have := HS4.out; have := HS5.out; have := HS6.out; have := HS7.out; have := HS8.out; have := HS9.out; have := HS10.out; have := HS11.out; have := HS12.out; have := HS13.out; omega) (by omega)).mono ?_
      rintro e w_14 ⟨v_m, ys, rfl, hso, ho, hb⟩
      have hB := hb
      replace q_a0 := (hB.cell (show (⟨w_1.heap.size, 0, none⟩ : Addr).block < _ from World.block_lt_of_cell? _ _ q_a0)).trans q_a0
      replace q_a1 := (hB.cell (show (⟨w_1.heap.size, 1, none⟩ : Addr).block < _ from World.block_lt_of_cell? _ _ q_a1)).trans q_a1
      replace b_a : w_1.heap.size < w_14.heap.size := World.block_lt_of_cell? _ _ q_a0
      replace q_x0 := (hB.cell (show (⟨w_4.heap.size, 0, none⟩ : Addr).block < _ from World.block_lt_of_cell? _ _ q_x0)).trans q_x0
      replace q_x1 := (hB.cell (show (⟨w_4.heap.size, 1, none⟩ : Addr).block < _ from World.block_lt_of_cell? _ _ q_x1)).trans q_x1
      replace b_x : w_4.heap.size < w_14.heap.size := World.block_lt_of_cell? _ _ q_x0
      replace q_y0 := (hB.cell (show (⟨w_7.heap.size, 0, none⟩ : Addr).block < _ from World.block_lt_of_cell? _ _ q_y0)).trans q_y0
      replace q_y1 := (hB.cell (show (⟨w_7.heap.size, 1, none⟩ : Addr).block < _ from World.block_lt_of_cell? _ _ q_y1)).trans q_y1
      replace b_y : w_7.heap.size < w_14.heap.size := World.block_lt_of_cell? _ _ q_y0
      replace q_z0 := (hB.cell (show (⟨w_9.heap.size, 0, none⟩ : Addr).block < _ from World.block_lt_of_cell? _ _ q_z0)).trans q_z0
      replace q_z1 := (hB.cell (show (⟨w_9.heap.size, 1, none⟩ : Addr).block < _ from World.block_lt_of_cell? _ _ q_z1)).trans q_z1
      replace b_z : w_9.heap.size < w_14.heap.size := World.block_lt_of_cell? _ _ q_z0
      replace Hl := Lib.hid (Hl.out.later hB)
      have Hm := Lib.hid ho
      have HS14 := Lib.hid hB.size
      replace HB := Lib.hid (HB.out.trans (hB.mono HB.out.size))
      clear hB ho
      have hyl := sortedOf_len hso
      have HSO := Lib.hid hso; clear hso
      have hlo : w_13.heap.size ≤ w_14.heap.size := (by have := HS1.out; have := HS2.out; have := HS3.out; have := HS4.out; have := HS5.out; have := HS6.out; have := HS7.out; have := HS8.out; have := HS9.out; have := HS10.out; have := HS11.out; have := HS12.out; have := HS13.out; have := HS14.out; omega)
      have HRL := Lib.hid ((Hl.out.reads encA_len).mono hlo); have HRM := Lib.hid (Hm.out.reads encA_len); clear hlo
      obtain ⟨al, cl, evl, hl1, hl2, -, hl4⟩ := HRL.out
      obtain ⟨am, cm, evm, hm1, hm2, -, hm4⟩ := HRM.out
      have HL4 := Lib.hid hl4; have HM4 := Lib.hid hm4; clear hl4 hm4
      subst evl; subst evm
      clear q_a0 q_a1 b_a q_x0 q_x1 b_x q_y0 q_y1 b_y q_z0 q_z1 b_z
      have HASL := Lib.hid (fun (wr : World) (hg : Grw w_14 wr) (h p : ByteArray) (hin : (h, p) ∈ xs) n os => has_true (v := .slice al xs.length cl) HRL.out hg hin n os)
      have HASM := Lib.hid (fun (wr : World) (hg : Grw w_14 wr) (h p : ByteArray) (hin : (h, p) ∈ ys) n os => has_true (v := .slice am ys.length cm) HRM.out hg hin n os)
      go_wp2_with fail
      go_loopw [14] (fun i wr => ∃ (k : Nat), k ≤ ys.length ∧ i = .int .i64 k ∧ Grw w_14 wr) (fun i _ => ys.length - (intOf i).toNat)
      case atStart => exact ⟨0, Nat.zero_le _, rfl, Grw.refl _⟩
      case round =>
        obtain ⟨k, hk, rfl, hg⟩ := hrel
        have HG := Lib.hid hg
        clear hg
        by_cases hlt : (k : Int) < (ys.length : Int)
        · rcases HM4.out with h0 | ⟨gm, om, rfl, hgm, hcells⟩
          · omega
          · obtain ⟨p0, p1, hx⟩ := ad_at (xs := ys) (j := k) (by omega)
            have hin : (p0, p1) ∈ xs := (HSO.out.2 _).1 (List.mem_iff_getElem?.2 ⟨k, hx⟩)
            have hgr : gm < wr.heap.size := by have := HG.out.below.size; omega
            have c0 := cell_grown (w := wr) (a := ⟨gm, om + k * 2, none⟩) hgr (by rw [HG.out.below.cell (show gm < _ by omega)]; exact hcells k _ hx 0 (by omega))
            have c1 := cell_grown (w := wr) (a := ⟨gm, om + k * 2 + 1, none⟩) hgr (by rw [HG.out.below.cell (show gm < _ by omega)]; exact hcells k _ hx 1 (by omega))
            have HH := Lib.hid (HASL.out wr HG.out p0 p1 hin)
            by_cases hk0 : k = 0
            · subst hk0
              simp only [Nat.zero_mul, Nat.add_zero] at c0 c1
              clear hcells hx hin
              go_wp2_with fail
              refine wp_region_quiet_grown mixed (by kernel_rfl) ?_
              repeat (go_big_quiet_step (first | (go_at_call 21; refine Calls.grown_of (HH.out _ _))))
              refine wpQuiet_nil ?_
              intro _ hw'
              obtain ⟨⟨nq, osq⟩, hw''⟩ := hw'
              subst hw''
              clear c0 c1
              go_wp2_with fail
              go_roundw
              case rel => exact ⟨0 + 1, by omega, by go_num, HG.out.trans ⟨_, _, rfl⟩⟩
              case measure => simp [intOf]; omega
            · obtain ⟨q0, q1, hy⟩ := ad_at (xs := ys) (j := k - 1) (by omega)
              have hst : cmpA (q0, q1) (p0, p1) = -1 := by
                have h1 := (List.pairwise_iff_getElem.1 HSO.out.1) (k - 1) k (by omega) (by omega) (by omega)
                have e1 := List.getElem?_eq_getElem (l := ys) (i := k) (by omega)
                have e2 := List.getElem?_eq_getElem (l := ys) (i := k - 1) (by omega)
                rw [hx] at e1
                rw [hy] at e2
                rw [← Option.some.inj e1, ← Option.some.inj e2] at h1
                have := cmpA_vals (q0, q1) (p0, p1)
                omega
              have d0 := cell_grown (w := wr) (a := ⟨gm, om + (k - 1) * 2, none⟩) hgr (by rw [HG.out.below.cell (show gm < _ by omega)]; exact hcells (k - 1) _ hy 0 (by omega))
              have d1 := cell_grown (w := wr) (a := ⟨gm, om + (k - 1) * 2 + 1, none⟩) hgr (by rw [HG.out.below.cell (show gm < _ by omega)]; exact hcells (k - 1) _ hy 1 (by omega))
              have HCMP := Lib.hid (fun W => (cmp_impl q0 q1 p0 p1 W).mono fun e w' (h : e = .returned (.int .i64 (cmpA (q0, q1) (p0, p1))) ∧ _) => show e = .returned (.int .i64 (-1)) ∧ _ from ⟨by rw [h.1, hst], h.2⟩)
              have hi0 : (0 : Int) ≤ (k : Int) - 1 := by omega
              have hi1 : (k : Int) - 1 < (ys.length : Int) := by omega
              have hi2 : (0 : Int) < (k : Int) := by omega
              have hi3 : decide (0 < k) = true := decide_eq_true (by omega)
              clear hcells hx hin hy hst
              go_wp2_with fail
              refine wp_region_quiet_grown mixed (by kernel_rfl) ?_
              repeat (go_big_quiet_step (first | (go_at_call 21; refine Calls.grown_of (HH.out _ _)) | (go_at_call 20; refine Calls.grown_of (HCMP.out _))))
              refine wpQuiet_nil ?_
              intro _ hw'
              obtain ⟨⟨nq, osq⟩, hw''⟩ := hw'
              subst hw''
              clear c0 c1 d0 d1 hi0 hi1 hi2 hi3
              go_wp2_with fail
              go_roundw
              case rel => exact ⟨k + 1, by omega, by go_num, HG.out.trans ⟨_, _, rfl⟩⟩
              case measure => simp [intOf]; omega
        · have HG1 := Lib.hid HG.out
          clear HG
          have hkn : decide ((k : Int) < (ys.length : Int)) = false := decide_eq_false hlt
          go_wp2_with fail
          go_loopw [15] (fun i wr => ∃ (k : Nat), k ≤ xs.length ∧ i = .int .i64 k ∧ Grw w_14 wr) (fun i _ => xs.length - (intOf i).toNat)
          case atStart => exact ⟨0, Nat.zero_le _, rfl, HG1.out⟩
          case round =>
            obtain ⟨k2, hk2, rfl, hg⟩ := hrel
            have HG := Lib.hid hg
            clear hg
            by_cases hlt2 : (k2 : Int) < (xs.length : Int)
            · rcases HL4.out with h0 | ⟨gl, ol, rfl, hgl, hcells⟩
              · omega
              · obtain ⟨p0, p1, hx⟩ := ad_at (xs := xs) (j := k2) (by omega)
                have hin : (p0, p1) ∈ ys := (HSO.out.2 _).2 (List.mem_iff_getElem?.2 ⟨k2, hx⟩)
                have c0 : wr.cell? ⟨gl, ol + k2 * 2, none⟩ = some (.string p0) := by rw [HG.out.below.cell (show gl < _ by omega)]; exact hcells k2 _ hx 0 (by omega)
                have c1 : wr.cell? ⟨gl, ol + k2 * 2 + 1, none⟩ = some (.string p1) := by rw [HG.out.below.cell (show gl < _ by omega)]; exact hcells k2 _ hx 1 (by omega)
                have HH := Lib.hid (HASM.out wr HG.out p0 p1 hin)
                clear hcells hx hin
                go_wp2_with fail
                refine (has_now HH.out).mono ?_
                rintro e w_q ⟨rfl, hgq⟩
                have HG2 := Lib.hid (HG.out.trans hgq)
                clear c0 c1 hgq
                go_wp2_with fail
                go_roundw
                case rel => exact ⟨k2 + 1, by omega, by go_num, HG2.out⟩
                case measure => simp [intOf]; omega
            · have hkn2 : decide ((k2 : Int) < (xs.length : Int)) = false := decide_eq_false hlt2
              go_wp2_with fail
              have HBr := Lib.hid (HB.out.trans (HG.out.below.mono HB.out.size))
              refine (drawCmp_any _ len_c _ (codeOk_later HCO.out HBr.out)).mono ?_
              rintro e w_c ⟨h1, p1, h2, p2, rfl, hh1, hp1, hh2, hp2, hbc⟩
              have HBc := Lib.hid (HBr.out.trans (hbc.mono HBr.out.size))
              clear hbc
              go_wp2_with fail
              obtain ⟨w_d, hw⟩ : ∃ x, ((w_c.alloc (.cells #[.string h1, .string p1] 25)).alloc (.cells #[.string h2, .string p2] 25)) = x := ⟨_, rfl⟩
              rw [hw]
              have hBd : Below w_c.heap.size w_c w_d := by rw [← hw]; exact (((Below.refl w_c.heap.size w_c).alloc (by first | (simp; done) | (simp; omega)) _).alloc (by first | (simp; done) | (simp; omega)) _)
              have HBd := Lib.hid (HBc.out.trans (hBd.mono HBc.out.size))
              have q_b0 : w_d.cell? ⟨w_c.heap.size, 0, none⟩ = some (.string h1) := by rw [← hw]; simp
              have q_b1 : w_d.cell? ⟨w_c.heap.size, 1, none⟩ = some (.string p1) := by rw [← hw]; simp
              have q_c0 : w_d.cell? ⟨w_c.heap.size + 1, 0, none⟩ = some (.string h2) := by rw [← hw]; simp
              have q_c1 : w_d.cell? ⟨w_c.heap.size + 1, 1, none⟩ = some (.string p2) := by rw [← hw]; simp
              have g_b0 := cell_grown (show (⟨w_c.heap.size, 0, none⟩ : Addr).block < w_d.heap.size from World.block_lt_of_cell? _ _ q_b0) q_b0
              have g_b1 := cell_grown (show (⟨w_c.heap.size, 1, none⟩ : Addr).block < w_d.heap.size from World.block_lt_of_cell? _ _ q_b1) q_b1
              have g_c0 := cell_grown (show (⟨w_c.heap.size + 1, 0, none⟩ : Addr).block < w_d.heap.size from World.block_lt_of_cell? _ _ q_c0) q_c0
              have g_c1 := cell_grown (show (⟨w_c.heap.size + 1, 1, none⟩ : Addr).block < w_d.heap.size from World.block_lt_of_cell? _ _ q_c1) q_c1
              clear hBd hw q_b0 q_b1 q_c0 q_c1
              have hneg : -cmpA (h2, p2) (h1, p1) = cmpA (h1, p1) (h2, p2) := (cmpA_neg (h2, p2) (h1, p1)).symm
              have hlo : -1 ≤ cmpA (h1, p1) (h2, p2) := by have := cmpA_vals (h1, p1) (h2, p2); omega
              have hhi : cmpA (h1, p1) (h2, p2) ≤ 1 := by have := cmpA_vals (h1, p1) (h2, p2); omega
              refine wp_region_quiet_grown mixed (by kernel_rfl) ?_
              repeat (go_big_quiet_step (first | (go_at_call 20; refine Calls.grown_of (cmp_impl _ _ _ _ _))))
              refine wpQuiet_nil ?_
              intro _ hw'
              obtain ⟨⟨nq, osq⟩, hw''⟩ := hw'
              subst hw''
              go_wp2_with fail
              go_ret
              exact ⟨rfl, HBd.out.trans ((grow_below _ _ _).mono HBd.out.size)⟩
    | false =>
      clear HPS HIM2 HSP2
      go_wp2_with fail
      refine (isAd_impl ah ap (by omega) (by omega) _).mono ?_
      rintro e w_11 ⟨rfl, hb⟩
      have hB := hb
      replace q_a0 := (hB.cell (show (⟨w_1.heap.size, 0, none⟩ : Addr).block < _ from World.block_lt_of_cell? _ _ q_a0)).trans q_a0
      replace q_a1 := (hB.cell (show (⟨w_1.heap.size, 1, none⟩ : Addr).block < _ from World.block_lt_of_cell? _ _ q_a1)).trans q_a1
      replace b_a : w_1.heap.size < w_11.heap.size := World.block_lt_of_cell? _ _ q_a0
      replace q_x0 := (hB.cell (show (⟨w_4.heap.size, 0, none⟩ : Addr).block < _ from World.block_lt_of_cell? _ _ q_x0)).trans q_x0
      replace q_x1 := (hB.cell (show (⟨w_4.heap.size, 1, none⟩ : Addr).block < _ from World.block_lt_of_cell? _ _ q_x1)).trans q_x1
      replace b_x : w_4.heap.size < w_11.heap.size := World.block_lt_of_cell? _ _ q_x0
      replace q_y0 := (hB.cell (show (⟨w_7.heap.size, 0, none⟩ : Addr).block < _ from World.block_lt_of_cell? _ _ q_y0)).trans q_y0
      replace q_y1 := (hB.cell (show (⟨w_7.heap.size, 1, none⟩ : Addr).block < _ from World.block_lt_of_cell? _ _ q_y1)).trans q_y1
      replace b_y : w_7.heap.size < w_11.heap.size := World.block_lt_of_cell? _ _ q_y0
      replace q_z0 := (hB.cell (show (⟨w_9.heap.size, 0, none⟩ : Addr).block < _ from World.block_lt_of_cell? _ _ q_z0)).trans q_z0
      replace q_z1 := (hB.cell (show (⟨w_9.heap.size, 1, none⟩ : Addr).block < _ from World.block_lt_of_cell? _ _ q_z1)).trans q_z1
      replace b_z : w_9.heap.size < w_11.heap.size := World.block_lt_of_cell? _ _ q_z0
      have HS11 := Lib.hid hB.size
      replace HB := Lib.hid (HB.out.trans (hB.mono HB.out.size))
      rw [hia]
      clear hB
      clear ey1 ey2 ea1 ea2
      go_wp2_with fail
      refine (drawSort_any _ len_c _ (codeOk_later HCO.out HB.out)).mono ?_
      rintro e w_12 ⟨v_l, xs, rfl, ho, hsh, hxl, hb⟩
      have hB := hb
      replace q_a0 := (hB.cell (show (⟨w_1.heap.size, 0, none⟩ : Addr).block < _ from World.block_lt_of_cell? _ _ q_a0)).trans q_a0
      replace q_a1 := (hB.cell (show (⟨w_1.heap.size, 1, none⟩ : Addr).block < _ from World.block_lt_of_cell? _ _ q_a1)).trans q_a1
      replace b_a : w_1.heap.size < w_12.heap.size := World.block_lt_of_cell? _ _ q_a0
      replace q_x0 := (hB.cell (show (⟨w_4.heap.size, 0, none⟩ : Addr).block < _ from World.block_lt_of_cell? _ _ q_x0)).trans q_x0
      replace q_x1 := (hB.cell (show (⟨w_4.heap.size, 1, none⟩ : Addr).block < _ from World.block_lt_of_cell? _ _ q_x1)).trans q_x1
      replace b_x : w_4.heap.size < w_12.heap.size := World.block_lt_of_cell? _ _ q_x0
      replace q_y0 := (hB.cell (show (⟨w_7.heap.size, 0, none⟩ : Addr).block < _ from World.block_lt_of_cell? _ _ q_y0)).trans q_y0
      replace q_y1 := (hB.cell (show (⟨w_7.heap.size, 1, none⟩ : Addr).block < _ from World.block_lt_of_cell? _ _ q_y1)).trans q_y1
      replace b_y : w_7.heap.size < w_12.heap.size := World.block_lt_of_cell? _ _ q_y0
      replace q_z0 := (hB.cell (show (⟨w_9.heap.size, 0, none⟩ : Addr).block < _ from World.block_lt_of_cell? _ _ q_z0)).trans q_z0
      replace q_z1 := (hB.cell (show (⟨w_9.heap.size, 1, none⟩ : Addr).block < _ from World.block_lt_of_cell? _ _ q_z1)).trans q_z1
      replace b_z : w_9.heap.size < w_12.heap.size := World.block_lt_of_cell? _ _ q_z0
      have Hl := Lib.hid ho
      have HS12 := Lib.hid hB.size
      replace HB := Lib.hid (HB.out.trans (hB.mono HB.out.size))
      clear hB ho
      go_wp2_with fail
      refine (sortImpl_any _ _ xs _ (Hl.out.reads encA_len) (by have := HS1.out; have := HS2.out; have := HS3.out; have := HS4.out; have := HS5.out; have := HS6.out; have := HS7.out; have := HS8.out; have := HS9.out; have := HS10.out; have := HS11.out; have := HS12.out; omega) (by omega)).mono ?_
      rintro e w_13 ⟨v_m, ys, rfl, hso, ho, hb⟩
      have hB := hb
      replace q_a0 := (hB.cell (show (⟨w_1.heap.size, 0, none⟩ : Addr).block < _ from World.block_lt_of_cell? _ _ q_a0)).trans q_a0
      replace q_a1 := (hB.cell (show (⟨w_1.heap.size, 1, none⟩ : Addr).block < _ from World.block_lt_of_cell? _ _ q_a1)).trans q_a1
      replace b_a : w_1.heap.size < w_13.heap.size := World.block_lt_of_cell? _ _ q_a0
      replace q_x0 := (hB.cell (show (⟨w_4.heap.size, 0, none⟩ : Addr).block < _ from World.block_lt_of_cell? _ _ q_x0)).trans q_x0
      replace q_x1 := (hB.cell (show (⟨w_4.heap.size, 1, none⟩ : Addr).block < _ from World.block_lt_of_cell? _ _ q_x1)).trans q_x1
      replace b_x : w_4.heap.size < w_13.heap.size := World.block_lt_of_cell? _ _ q_x0
      replace q_y0 := (hB.cell (show (⟨w_7.heap.size, 0, none⟩ : Addr).block < _ from World.block_lt_of_cell? _ _ q_y0)).trans q_y0
      replace q_y1 := (hB.cell (show (⟨w_7.heap.size, 1, none⟩ : Addr).block < _ from World.block_lt_of_cell? _ _ q_y1)).trans q_y1
      replace b_y : w_7.heap.size < w_13.heap.size := World.block_lt_of_cell? _ _ q_y0
      replace q_z0 := (hB.cell (show (⟨w_9.heap.size, 0, none⟩ : Addr).block < _ from World.block_lt_of_cell? _ _ q_z0)).trans q_z0
      replace q_z1 := (hB.cell (show (⟨w_9.heap.size, 1, none⟩ : Addr).block < _ from World.block_lt_of_cell? _ _ q_z1)).trans q_z1
      replace b_z : w_9.heap.size < w_13.heap.size := World.block_lt_of_cell? _ _ q_z0
      replace Hl := Lib.hid (Hl.out.later hB)
      have Hm := Lib.hid ho
      have HS13 := Lib.hid hB.size
      replace HB := Lib.hid (HB.out.trans (hB.mono HB.out.size))
      clear hB ho
      have hyl := sortedOf_len hso
      have HSO := Lib.hid hso; clear hso
      have hlo : w_12.heap.size ≤ w_13.heap.size := (by have := HS1.out; have := HS2.out; have := HS3.out; have := HS4.out; have := HS5.out; have := HS6.out; have := HS7.out; have := HS8.out; have := HS9.out; have := HS10.out; have := HS11.out; have := HS12.out; have := HS13.out; omega)
      have HRL := Lib.hid ((Hl.out.reads encA_len).mono hlo); have HRM := Lib.hid (Hm.out.reads encA_len); clear hlo
      obtain ⟨al, cl, evl, hl1, hl2, -, hl4⟩ := HRL.out
      obtain ⟨am, cm, evm, hm1, hm2, -, hm4⟩ := HRM.out
      have HL4 := Lib.hid hl4; have HM4 := Lib.hid hm4; clear hl4 hm4
      subst evl; subst evm
      clear q_a0 q_a1 b_a q_x0 q_x1 b_x q_y0 q_y1 b_y q_z0 q_z1 b_z
      have HASL := Lib.hid (fun (wr : World) (hg : Grw w_13 wr) (h p : ByteArray) (hin : (h, p) ∈ xs) n os => has_true (v := .slice al xs.length cl) HRL.out hg hin n os)
      have HASM := Lib.hid (fun (wr : World) (hg : Grw w_13 wr) (h p : ByteArray) (hin : (h, p) ∈ ys) n os => has_true (v := .slice am ys.length cm) HRM.out hg hin n os)
      go_wp2_with fail
      go_loopw [14] (fun i wr => ∃ (k : Nat), k ≤ ys.length ∧ i = .int .i64 k ∧ Grw w_13 wr) (fun i _ => ys.length - (intOf i).toNat)
      case atStart => exact ⟨0, Nat.zero_le _, rfl, Grw.refl _⟩
      case round =>
        obtain ⟨k, hk, rfl, hg⟩ := hrel
        have HG := Lib.hid hg
        clear hg
        by_cases hlt : (k : Int) < (ys.length : Int)
        · rcases HM4.out with h0 | ⟨gm, om, rfl, hgm, hcells⟩
          · omega
          · obtain ⟨p0, p1, hx⟩ := ad_at (xs := ys) (j := k) (by omega)
            have hin : (p0, p1) ∈ xs := (HSO.out.2 _).1 (List.mem_iff_getElem?.2 ⟨k, hx⟩)
            have hgr : gm < wr.heap.size := by have := HG.out.below.size; omega
            have c0 := cell_grown (w := wr) (a := ⟨gm, om + k * 2, none⟩) hgr (by rw [HG.out.below.cell (show gm < _ by omega)]; exact hcells k _ hx 0 (by omega))
            have c1 := cell_grown (w := wr) (a := ⟨gm, om + k * 2 + 1, none⟩) hgr (by rw [HG.out.below.cell (show gm < _ by omega)]; exact hcells k _ hx 1 (by omega))
            have HH := Lib.hid (HASL.out wr HG.out p0 p1 hin)
            by_cases hk0 : k = 0
            · subst hk0
              simp only [Nat.zero_mul, Nat.add_zero] at c0 c1
              clear hcells hx hin
              go_wp2_with fail
              refine wp_region_quiet_grown mixed (by kernel_rfl) ?_
              repeat (go_big_quiet_step (first | (go_at_call 21; refine Calls.grown_of (HH.out _ _))))
              refine wpQuiet_nil ?_
              intro _ hw'
              obtain ⟨⟨nq, osq⟩, hw''⟩ := hw'
              subst hw''
              clear c0 c1
              go_wp2_with fail
              go_roundw
              case rel => exact ⟨0 + 1, by omega, by go_num, HG.out.trans ⟨_, _, rfl⟩⟩
              case measure => simp [intOf]; omega
            · obtain ⟨q0, q1, hy⟩ := ad_at (xs := ys) (j := k - 1) (by omega)
              have hst : cmpA (q0, q1) (p0, p1) = -1 := by
                have h1 := (List.pairwise_iff_getElem.1 HSO.out.1) (k - 1) k (by omega) (by omega) (by omega)
                have e1 := List.getElem?_eq_getElem (l := ys) (i := k) (by omega)
                have e2 := List.getElem?_eq_getElem (l := ys) (i := k - 1) (by omega)
                rw [hx] at e1
                rw [hy] at e2
                rw [← Option.some.inj e1, ← Option.some.inj e2] at h1
                have := cmpA_vals (q0, q1) (p0, p1)
                omega
              have d0 := cell_grown (w := wr) (a := ⟨gm, om + (k - 1) * 2, none⟩) hgr (by rw [HG.out.below.cell (show gm < _ by omega)]; exact hcells (k - 1) _ hy 0 (by omega))
              have d1 := cell_grown (w := wr) (a := ⟨gm, om + (k - 1) * 2 + 1, none⟩) hgr (by rw [HG.out.below.cell (show gm < _ by omega)]; exact hcells (k - 1) _ hy 1 (by omega))
              have HCMP := Lib.hid (fun W => (cmp_impl q0 q1 p0 p1 W).mono fun e w' (h : e = .returned (.int .i64 (cmpA (q0, q1) (p0, p1))) ∧ _) => show e = .returned (.int .i64 (-1)) ∧ _ from ⟨by rw [h.1, hst], h.2⟩)
              have hi0 : (0 : Int) ≤ (k : Int) - 1 := by omega
              have hi1 : (k : Int) - 1 < (ys.length : Int) := by omega
              have hi2 : (0 : Int) < (k : Int) := by omega
              have hi3 : decide (0 < k) = true := decide_eq_true (by omega)
              clear hcells hx hin hy hst
              go_wp2_with fail
              refine wp_region_quiet_grown mixed (by kernel_rfl) ?_
              repeat (go_big_quiet_step (first | (go_at_call 21; refine Calls.grown_of (HH.out _ _)) | (go_at_call 20; refine Calls.grown_of (HCMP.out _))))
              refine wpQuiet_nil ?_
              intro _ hw'
              obtain ⟨⟨nq, osq⟩, hw''⟩ := hw'
              subst hw''
              clear c0 c1 d0 d1 hi0 hi1 hi2 hi3
              go_wp2_with fail
              go_roundw
              case rel => exact ⟨k + 1, by omega, by go_num, HG.out.trans ⟨_, _, rfl⟩⟩
              case measure => simp [intOf]; omega
        · have HG1 := Lib.hid HG.out
          clear HG
          have hkn : decide ((k : Int) < (ys.length : Int)) = false := decide_eq_false hlt
          go_wp2_with fail
          go_loopw [15] (fun i wr => ∃ (k : Nat), k ≤ xs.length ∧ i = .int .i64 k ∧ Grw w_13 wr) (fun i _ => xs.length - (intOf i).toNat)
          case atStart => exact ⟨0, Nat.zero_le _, rfl, HG1.out⟩
          case round =>
            obtain ⟨k2, hk2, rfl, hg⟩ := hrel
            have HG := Lib.hid hg
            clear hg
            by_cases hlt2 : (k2 : Int) < (xs.length : Int)
            · rcases HL4.out with h0 | ⟨gl, ol, rfl, hgl, hcells⟩
              · omega
              · obtain ⟨p0, p1, hx⟩ := ad_at (xs := xs) (j := k2) (by omega)
                have hin : (p0, p1) ∈ ys := (HSO.out.2 _).2 (List.mem_iff_getElem?.2 ⟨k2, hx⟩)
                have c0 : wr.cell? ⟨gl, ol + k2 * 2, none⟩ = some (.string p0) := by rw [HG.out.below.cell (show gl < _ by omega)]; exact hcells k2 _ hx 0 (by omega)
                have c1 : wr.cell? ⟨gl, ol + k2 * 2 + 1, none⟩ = some (.string p1) := by rw [HG.out.below.cell (show gl < _ by omega)]; exact hcells k2 _ hx 1 (by omega)
                have HH := Lib.hid (HASM.out wr HG.out p0 p1 hin)
                clear hcells hx hin
                go_wp2_with fail
                refine (has_now HH.out).mono ?_
                rintro e w_q ⟨rfl, hgq⟩
                have HG2 := Lib.hid (HG.out.trans hgq)
                clear c0 c1 hgq
                go_wp2_with fail
                go_roundw
                case rel => exact ⟨k2 + 1, by omega, by go_num, HG2.out⟩
                case measure => simp [intOf]; omega
            · have hkn2 : decide ((k2 : Int) < (xs.length : Int)) = false := decide_eq_false hlt2
              go_wp2_with fail
              have HBr := Lib.hid (HB.out.trans (HG.out.below.mono HB.out.size))
              refine (drawCmp_any _ len_c _ (codeOk_later HCO.out HBr.out)).mono ?_
              rintro e w_c ⟨h1, p1, h2, p2, rfl, hh1, hp1, hh2, hp2, hbc⟩
              have HBc := Lib.hid (HBr.out.trans (hbc.mono HBr.out.size))
              clear hbc
              go_wp2_with fail
              obtain ⟨w_d, hw⟩ : ∃ x, ((w_c.alloc (.cells #[.string h1, .string p1] 25)).alloc (.cells #[.string h2, .string p2] 25)) = x := ⟨_, rfl⟩
              rw [hw]
              have hBd : Below w_c.heap.size w_c w_d := by rw [← hw]; exact (((Below.refl w_c.heap.size w_c).alloc (by first | (simp; done) | (simp; omega)) _).alloc (by first | (simp; done) | (simp; omega)) _)
              have HBd := Lib.hid (HBc.out.trans (hBd.mono HBc.out.size))
              have q_b0 : w_d.cell? ⟨w_c.heap.size, 0, none⟩ = some (.string h1) := by rw [← hw]; simp
              have q_b1 : w_d.cell? ⟨w_c.heap.size, 1, none⟩ = some (.string p1) := by rw [← hw]; simp
              have q_c0 : w_d.cell? ⟨w_c.heap.size + 1, 0, none⟩ = some (.string h2) := by rw [← hw]; simp
              have q_c1 : w_d.cell? ⟨w_c.heap.size + 1, 1, none⟩ = some (.string p2) := by rw [← hw]; simp
              have g_b0 := cell_grown (show (⟨w_c.heap.size, 0, none⟩ : Addr).block < w_d.heap.size from World.block_lt_of_cell? _ _ q_b0) q_b0
              have g_b1 := cell_grown (show (⟨w_c.heap.size, 1, none⟩ : Addr).block < w_d.heap.size from World.block_lt_of_cell? _ _ q_b1) q_b1
              have g_c0 := cell_grown (show (⟨w_c.heap.size + 1, 0, none⟩ : Addr).block < w_d.heap.size from World.block_lt_of_cell? _ _ q_c0) q_c0
              have g_c1 := cell_grown (show (⟨w_c.heap.size + 1, 1, none⟩ : Addr).block < w_d.heap.size from World.block_lt_of_cell? _ _ q_c1) q_c1
              clear hBd hw q_b0 q_b1 q_c0 q_c1
              have hneg : -cmpA (h2, p2) (h1, p1) = cmpA (h1, p1) (h2, p2) := (cmpA_neg (h2, p2) (h1, p1)).symm
              have hlo : -1 ≤ cmpA (h1, p1) (h2, p2) := by have := cmpA_vals (h1, p1) (h2, p2); omega
              have hhi : cmpA (h1, p1) (h2, p2) ≤ 1 := by have := cmpA_vals (h1, p1) (h2, p2); omega
              refine wp_region_quiet_grown mixed (by kernel_rfl) ?_
              repeat (go_big_quiet_step (first | (go_at_call 20; refine Calls.grown_of (cmp_impl _ _ _ _ _))))
              refine wpQuiet_nil ?_
              intro _ hw'
              obtain ⟨⟨nq, osq⟩, hw''⟩ := hw'
              subst hw''
              go_wp2_with fail
              go_ret
              exact ⟨rfl, HBd.out.trans ((grow_below _ _ _).mono HBd.out.size)⟩
  | false =>
    have hxx := ((prs_fmt_no hia).symm.trans HR.out)
    obtain ⟨hxy, hB⟩ := Prod.mk.inj hxx
    obtain ⟨hX, hY⟩ := Prod.mk.inj hxy
    clear hxx hxy HR HIM
    subst hX; subst hY; subst hB
    cases F with
    | true =>
      have HAY := Lib.hid (prsA_ok HPS.out rfl)
      clear HPS HIM2 HSP2
      go_wp2_with fail
      refine (isAd_impl ah ap (by omega) (by omega) _).mono ?_
      rintro e w_11 ⟨rfl, hb⟩
      have hB := hb
      replace q_a0 := (hB.cell (show (⟨w_1.heap.size, 0, none⟩ : Addr).block < _ from World.block_lt_of_cell? _ _ q_a0)).trans q_a0
      replace q_a1 := (hB.cell (show (⟨w_1.heap.size, 1, none⟩ : Addr).block < _ from World.block_lt_of_cell? _ _ q_a1)).trans q_a1
      replace b_a : w_1.heap.size < w_11.heap.size := World.block_lt_of_cell? _ _ q_a0
      replace q_x0 := (hB.cell (show (⟨w_4.heap.size, 0, none⟩ : Addr).block < _ from World.block_lt_of_cell? _ _ q_x0)).trans q_x0
      replace q_x1 := (hB.cell (show (⟨w_4.heap.size, 1, none⟩ : Addr).block < _ from World.block_lt_of_cell? _ _ q_x1)).trans q_x1
      replace b_x : w_4.heap.size < w_11.heap.size := World.block_lt_of_cell? _ _ q_x0
      replace q_y0 := (hB.cell (show (⟨w_7.heap.size, 0, none⟩ : Addr).block < _ from World.block_lt_of_cell? _ _ q_y0)).trans q_y0
      replace q_y1 := (hB.cell (show (⟨w_7.heap.size, 1, none⟩ : Addr).block < _ from World.block_lt_of_cell? _ _ q_y1)).trans q_y1
      replace b_y : w_7.heap.size < w_11.heap.size := World.block_lt_of_cell? _ _ q_y0
      replace q_z0 := (hB.cell (show (⟨w_9.heap.size, 0, none⟩ : Addr).block < _ from World.block_lt_of_cell? _ _ q_z0)).trans q_z0
      replace q_z1 := (hB.cell (show (⟨w_9.heap.size, 1, none⟩ : Addr).block < _ from World.block_lt_of_cell? _ _ q_z1)).trans q_z1
      replace b_z : w_9.heap.size < w_11.heap.size := World.block_lt_of_cell? _ _ q_z0
      have HS11 := Lib.hid hB.size
      replace HB := Lib.hid (HB.out.trans (hB.mono HB.out.size))
      rw [hia]
      clear hB
      go_wp2_with fail
      refine (isAd_impl Y1 Y2 (by omega) (by omega) _).mono ?_
      rintro e w_12 ⟨rfl, hb⟩
      have hB := hb
      replace q_a0 := (hB.cell (show (⟨w_1.heap.size, 0, none⟩ : Addr).block < _ from World.block_lt_of_cell? _ _ q_a0)).trans q_a0
      replace q_a1 := (hB.cell (show (⟨w_1.heap.size, 1, none⟩ : Addr).block < _ from World.block_lt_of_cell? _ _ q_a1)).trans q_a1
      replace b_a : w_1.heap.size < w_12.heap.size := World.block_lt_of_cell? _ _ q_a0
      replace q_x0 := (hB.cell (show (⟨w_4.heap.size, 0, none⟩ : Addr).block < _ from World.block_lt_of_cell? _ _ q_x0)).trans q_x0
      replace q_x1 := (hB.cell (show (⟨w_4.heap.size, 1, none⟩ : Addr).block < _ from World.block_lt_of_cell? _ _ q_x1)).trans q_x1
      replace b_x : w_4.heap.size < w_12.heap.size := World.block_lt_of_cell? _ _ q_x0
      replace q_y0 := (hB.cell (show (⟨w_7.heap.size, 0, none⟩ : Addr).block < _ from World.block_lt_of_cell? _ _ q_y0)).trans q_y0
      replace q_y1 := (hB.cell (show (⟨w_7.heap.size, 1, none⟩ : Addr).block < _ from World.block_lt_of_cell? _ _ q_y1)).trans q_y1
      replace b_y : w_7.heap.size < w_12.heap.size := World.block_lt_of_cell? _ _ q_y0
      replace q_z0 := (hB.cell (show (⟨w_9.heap.size, 0, none⟩ : Addr).block < _ from World.block_lt_of_cell? _ _ q_z0)).trans q_z0
      replace q_z1 := (hB.cell (show (⟨w_9.heap.size, 1, none⟩ : Addr).block < _ from World.block_lt_of_cell? _ _ q_z1)).trans q_z1
      replace b_z : w_9.heap.size < w_12.heap.size := World.block_lt_of_cell? _ _ q_z0
      have HS12 := Lib.hid hB.size
      replace HB := Lib.hid (HB.out.trans (hB.mono HB.out.size))
      rw [HAY.out]
      clear hB
      clear ey1 ey2 ea1 ea2
      go_wp2_with fail
      refine (drawSort_any _ len_c _ (codeOk_later HCO.out HB.out)).mono ?_
      rintro e w_13 ⟨v_l, xs, rfl, ho, hsh, hxl, hb⟩
      have hB := hb
      replace q_a0 := (hB.cell (show (⟨w_1.heap.size, 0, none⟩ : Addr).block < _ from World.block_lt_of_cell? _ _ q_a0)).trans q_a0
      replace q_a1 := (hB.cell (show (⟨w_1.heap.size, 1, none⟩ : Addr).block < _ from World.block_lt_of_cell? _ _ q_a1)).trans q_a1
      replace b_a : w_1.heap.size < w_13.heap.size := World.block_lt_of_cell? _ _ q_a0
      replace q_x0 := (hB.cell (show (⟨w_4.heap.size, 0, none⟩ : Addr).block < _ from World.block_lt_of_cell? _ _ q_x0)).trans q_x0
      replace q_x1 := (hB.cell (show (⟨w_4.heap.size, 1, none⟩ : Addr).block < _ from World.block_lt_of_cell? _ _ q_x1)).trans q_x1
      replace b_x : w_4.heap.size < w_13.heap.size := World.block_lt_of_cell? _ _ q_x0
      replace q_y0 := (hB.cell (show (⟨w_7.heap.size, 0, none⟩ : Addr).block < _ from World.block_lt_of_cell? _ _ q_y0)).trans q_y0
      replace q_y1 := (hB.cell (show (⟨w_7.heap.size, 1, none⟩ : Addr).block < _ from World.block_lt_of_cell? _ _ q_y1)).trans q_y1
      replace b_y : w_7.heap.size < w_13.heap.size := World.block_lt_of_cell? _ _ q_y0
      replace q_z0 := (hB.cell (show (⟨w_9.heap.size, 0, none⟩ : Addr).block < _ from World.block_lt_of_cell? _ _ q_z0)).trans q_z0
      replace q_z1 := (hB.cell (show (⟨w_9.heap.size, 1, none⟩ : Addr).block < _ from World.block_lt_of_cell? _ _ q_z1)).trans q_z1
      replace b_z : w_9.heap.size < w_13.heap.size := World.block_lt_of_cell? _ _ q_z0
      have Hl := Lib.hid ho
      have HS13 := Lib.hid hB.size
      replace HB := Lib.hid (HB.out.trans (hB.mono HB.out.size))
      clear hB ho
      go_wp2_with fail
      refine (sortImpl_any _ _ xs _ (Hl.out.reads encA_len) (by have := HS1.out; have := HS2.out; have := HS3.out; have := HS4.out; have := HS5.out; have := HS6.out; have := HS7.out; have := HS8.out; have := HS9.out; have := HS10.out; have := HS11.out; have := HS12.out; have := HS13.out; omega) (by omega)).mono ?_
      rintro e w_14 ⟨v_m, ys, rfl, hso, ho, hb⟩
      have hB := hb
      replace q_a0 := (hB.cell (show (⟨w_1.heap.size, 0, none⟩ : Addr).block < _ from World.block_lt_of_cell? _ _ q_a0)).trans q_a0
      replace q_a1 := (hB.cell (show (⟨w_1.heap.size, 1, none⟩ : Addr).block < _ from World.block_lt_of_cell? _ _ q_a1)).trans q_a1
      replace b_a : w_1.heap.size < w_14.heap.size := World.block_lt_of_cell? _ _ q_a0
      replace q_x0 := (hB.cell (show (⟨w_4.heap.size, 0, none⟩ : Addr).block < _ from World.block_lt_of_cell? _ _ q_x0)).trans q_x0
      replace q_x1 := (hB.cell (show (⟨w_4.heap.size, 1, none⟩ : Addr).block < _ from World.block_lt_of_cell? _ _ q_x1)).trans q_x1
      replace b_x : w_4.heap.size < w_14.heap.size := World.block_lt_of_cell? _ _ q_x0
      replace q_y0 := (hB.cell (show (⟨w_7.heap.size, 0, none⟩ : Addr).block < _ from World.block_lt_of_cell? _ _ q_y0)).trans q_y0
      replace q_y1 := (hB.cell (show (⟨w_7.heap.size, 1, none⟩ : Addr).block < _ from World.block_lt_of_cell? _ _ q_y1)).trans q_y1
      replace b_y : w_7.heap.size < w_14.heap.size := World.block_lt_of_cell? _ _ q_y0
      replace q_z0 := (hB.cell (show (⟨w_9.heap.size, 0, none⟩ : Addr).block < _ from World.block_lt_of_cell? _ _ q_z0)).trans q_z0
      replace q_z1 := (hB.cell (show (⟨w_9.heap.size, 1, none⟩ : Addr).block < _ from World.block_lt_of_cell? _ _ q_z1)).trans q_z1
      replace b_z : w_9.heap.size < w_14.heap.size := World.block_lt_of_cell? _ _ q_z0
      replace Hl := Lib.hid (Hl.out.later hB)
      have Hm := Lib.hid ho
      have HS14 := Lib.hid hB.size
      replace HB := Lib.hid (HB.out.trans (hB.mono HB.out.size))
      clear hB ho
      have hyl := sortedOf_len hso
      have HSO := Lib.hid hso; clear hso
      have hlo : w_13.heap.size ≤ w_14.heap.size := (by have := HS1.out; have := HS2.out; have := HS3.out; have := HS4.out; have := HS5.out; have := HS6.out; have := HS7.out; have := HS8.out; have := HS9.out; have := HS10.out; have := HS11.out; have := HS12.out; have := HS13.out; have := HS14.out; omega)
      have HRL := Lib.hid ((Hl.out.reads encA_len).mono hlo); have HRM := Lib.hid (Hm.out.reads encA_len); clear hlo
      obtain ⟨al, cl, evl, hl1, hl2, -, hl4⟩ := HRL.out
      obtain ⟨am, cm, evm, hm1, hm2, -, hm4⟩ := HRM.out
      have HL4 := Lib.hid hl4; have HM4 := Lib.hid hm4; clear hl4 hm4
      subst evl; subst evm
      clear q_a0 q_a1 b_a q_x0 q_x1 b_x q_y0 q_y1 b_y q_z0 q_z1 b_z
      have HASL := Lib.hid (fun (wr : World) (hg : Grw w_14 wr) (h p : ByteArray) (hin : (h, p) ∈ xs) n os => has_true (v := .slice al xs.length cl) HRL.out hg hin n os)
      have HASM := Lib.hid (fun (wr : World) (hg : Grw w_14 wr) (h p : ByteArray) (hin : (h, p) ∈ ys) n os => has_true (v := .slice am ys.length cm) HRM.out hg hin n os)
      go_wp2_with fail
      go_loopw [14] (fun i wr => ∃ (k : Nat), k ≤ ys.length ∧ i = .int .i64 k ∧ Grw w_14 wr) (fun i _ => ys.length - (intOf i).toNat)
      case atStart => exact ⟨0, Nat.zero_le _, rfl, Grw.refl _⟩
      case round =>
        obtain ⟨k, hk, rfl, hg⟩ := hrel
        have HG := Lib.hid hg
        clear hg
        by_cases hlt : (k : Int) < (ys.length : Int)
        · rcases HM4.out with h0 | ⟨gm, om, rfl, hgm, hcells⟩
          · omega
          · obtain ⟨p0, p1, hx⟩ := ad_at (xs := ys) (j := k) (by omega)
            have hin : (p0, p1) ∈ xs := (HSO.out.2 _).1 (List.mem_iff_getElem?.2 ⟨k, hx⟩)
            have hgr : gm < wr.heap.size := by have := HG.out.below.size; omega
            have c0 := cell_grown (w := wr) (a := ⟨gm, om + k * 2, none⟩) hgr (by rw [HG.out.below.cell (show gm < _ by omega)]; exact hcells k _ hx 0 (by omega))
            have c1 := cell_grown (w := wr) (a := ⟨gm, om + k * 2 + 1, none⟩) hgr (by rw [HG.out.below.cell (show gm < _ by omega)]; exact hcells k _ hx 1 (by omega))
            have HH := Lib.hid (HASL.out wr HG.out p0 p1 hin)
            by_cases hk0 : k = 0
            · subst hk0
              simp only [Nat.zero_mul, Nat.add_zero] at c0 c1
              clear hcells hx hin
              go_wp2_with fail
              refine wp_region_quiet_grown mixed (by kernel_rfl) ?_
              repeat (go_big_quiet_step (first | (go_at_call 21; refine Calls.grown_of (HH.out _ _))))
              refine wpQuiet_nil ?_
              intro _ hw'
              obtain ⟨⟨nq, osq⟩, hw''⟩ := hw'
              subst hw''
              clear c0 c1
              go_wp2_with fail
              go_roundw
              case rel => exact ⟨0 + 1, by omega, by go_num, HG.out.trans ⟨_, _, rfl⟩⟩
              case measure => simp [intOf]; omega
            · obtain ⟨q0, q1, hy⟩ := ad_at (xs := ys) (j := k - 1) (by omega)
              have hst : cmpA (q0, q1) (p0, p1) = -1 := by
                have h1 := (List.pairwise_iff_getElem.1 HSO.out.1) (k - 1) k (by omega) (by omega) (by omega)
                have e1 := List.getElem?_eq_getElem (l := ys) (i := k) (by omega)
                have e2 := List.getElem?_eq_getElem (l := ys) (i := k - 1) (by omega)
                rw [hx] at e1
                rw [hy] at e2
                rw [← Option.some.inj e1, ← Option.some.inj e2] at h1
                have := cmpA_vals (q0, q1) (p0, p1)
                omega
              have d0 := cell_grown (w := wr) (a := ⟨gm, om + (k - 1) * 2, none⟩) hgr (by rw [HG.out.below.cell (show gm < _ by omega)]; exact hcells (k - 1) _ hy 0 (by omega))
              have d1 := cell_grown (w := wr) (a := ⟨gm, om + (k - 1) * 2 + 1, none⟩) hgr (by rw [HG.out.below.cell (show gm < _ by omega)]; exact hcells (k - 1) _ hy 1 (by omega))
              have HCMP := Lib.hid (fun W => (cmp_impl q0 q1 p0 p1 W).mono fun e w' (h : e = .returned (.int .i64 (cmpA (q0, q1) (p0, p1))) ∧ _) => show e = .returned (.int .i64 (-1)) ∧ _ from ⟨by rw [h.1, hst], h.2⟩)
              have hi0 : (0 : Int) ≤ (k : Int) - 1 := by omega
              have hi1 : (k : Int) - 1 < (ys.length : Int) := by omega
              have hi2 : (0 : Int) < (k : Int) := by omega
              have hi3 : decide (0 < k) = true := decide_eq_true (by omega)
              clear hcells hx hin hy hst
              go_wp2_with fail
              refine wp_region_quiet_grown mixed (by kernel_rfl) ?_
              repeat (go_big_quiet_step (first | (go_at_call 21; refine Calls.grown_of (HH.out _ _)) | (go_at_call 20; refine Calls.grown_of (HCMP.out _))))
              refine wpQuiet_nil ?_
              intro _ hw'
              obtain ⟨⟨nq, osq⟩, hw''⟩ := hw'
              subst hw''
              clear c0 c1 d0 d1 hi0 hi1 hi2 hi3
              go_wp2_with fail
              go_roundw
              case rel => exact ⟨k + 1, by omega, by go_num, HG.out.trans ⟨_, _, rfl⟩⟩
              case measure => simp [intOf]; omega
        · have HG1 := Lib.hid HG.out
          clear HG
          have hkn : decide ((k : Int) < (ys.length : Int)) = false := decide_eq_false hlt
          go_wp2_with fail
          go_loopw [15] (fun i wr => ∃ (k : Nat), k ≤ xs.length ∧ i = .int .i64 k ∧ Grw w_14 wr) (fun i _ => xs.length - (intOf i).toNat)
          case atStart => exact ⟨0, Nat.zero_le _, rfl, HG1.out⟩
          case round =>
            obtain ⟨k2, hk2, rfl, hg⟩ := hrel
            have HG := Lib.hid hg
            clear hg
            by_cases hlt2 : (k2 : Int) < (xs.length : Int)
            · rcases HL4.out with h0 | ⟨gl, ol, rfl, hgl, hcells⟩
              · omega
              · obtain ⟨p0, p1, hx⟩ := ad_at (xs := xs) (j := k2) (by omega)
                have hin : (p0, p1) ∈ ys := (HSO.out.2 _).2 (List.mem_iff_getElem?.2 ⟨k2, hx⟩)
                have c0 : wr.cell? ⟨gl, ol + k2 * 2, none⟩ = some (.string p0) := by rw [HG.out.below.cell (show gl < _ by omega)]; exact hcells k2 _ hx 0 (by omega)
                have c1 : wr.cell? ⟨gl, ol + k2 * 2 + 1, none⟩ = some (.string p1) := by rw [HG.out.below.cell (show gl < _ by omega)]; exact hcells k2 _ hx 1 (by omega)
                have HH := Lib.hid (HASM.out wr HG.out p0 p1 hin)
                clear hcells hx hin
                go_wp2_with fail
                refine (has_now HH.out).mono ?_
                rintro e w_q ⟨rfl, hgq⟩
                have HG2 := Lib.hid (HG.out.trans hgq)
                clear c0 c1 hgq
                go_wp2_with fail
                go_roundw
                case rel => exact ⟨k2 + 1, by omega, by go_num, HG2.out⟩
                case measure => simp [intOf]; omega
            · have hkn2 : decide ((k2 : Int) < (xs.length : Int)) = false := decide_eq_false hlt2
              go_wp2_with fail
              have HBr := Lib.hid (HB.out.trans (HG.out.below.mono HB.out.size))
              refine (drawCmp_any _ len_c _ (codeOk_later HCO.out HBr.out)).mono ?_
              rintro e w_c ⟨h1, p1, h2, p2, rfl, hh1, hp1, hh2, hp2, hbc⟩
              have HBc := Lib.hid (HBr.out.trans (hbc.mono HBr.out.size))
              clear hbc
              go_wp2_with fail
              obtain ⟨w_d, hw⟩ : ∃ x, ((w_c.alloc (.cells #[.string h1, .string p1] 25)).alloc (.cells #[.string h2, .string p2] 25)) = x := ⟨_, rfl⟩
              rw [hw]
              have hBd : Below w_c.heap.size w_c w_d := by rw [← hw]; exact (((Below.refl w_c.heap.size w_c).alloc (by first | (simp; done) | (simp; omega)) _).alloc (by first | (simp; done) | (simp; omega)) _)
              have HBd := Lib.hid (HBc.out.trans (hBd.mono HBc.out.size))
              have q_b0 : w_d.cell? ⟨w_c.heap.size, 0, none⟩ = some (.string h1) := by rw [← hw]; simp
              have q_b1 : w_d.cell? ⟨w_c.heap.size, 1, none⟩ = some (.string p1) := by rw [← hw]; simp
              have q_c0 : w_d.cell? ⟨w_c.heap.size + 1, 0, none⟩ = some (.string h2) := by rw [← hw]; simp
              have q_c1 : w_d.cell? ⟨w_c.heap.size + 1, 1, none⟩ = some (.string p2) := by rw [← hw]; simp
              have g_b0 := cell_grown (show (⟨w_c.heap.size, 0, none⟩ : Addr).block < w_d.heap.size from World.block_lt_of_cell? _ _ q_b0) q_b0
              have g_b1 := cell_grown (show (⟨w_c.heap.size, 1, none⟩ : Addr).block < w_d.heap.size from World.block_lt_of_cell? _ _ q_b1) q_b1
              have g_c0 := cell_grown (show (⟨w_c.heap.size + 1, 0, none⟩ : Addr).block < w_d.heap.size from World.block_lt_of_cell? _ _ q_c0) q_c0
              have g_c1 := cell_grown (show (⟨w_c.heap.size + 1, 1, none⟩ : Addr).block < w_d.heap.size from World.block_lt_of_cell? _ _ q_c1) q_c1
              clear hBd hw q_b0 q_b1 q_c0 q_c1
              have hneg : -cmpA (h2, p2) (h1, p1) = cmpA (h1, p1) (h2, p2) := (cmpA_neg (h2, p2) (h1, p1)).symm
              have hlo : -1 ≤ cmpA (h1, p1) (h2, p2) := by have := cmpA_vals (h1, p1) (h2, p2); omega
              have hhi : cmpA (h1, p1) (h2, p2) ≤ 1 := by have := cmpA_vals (h1, p1) (h2, p2); omega
              refine wp_region_quiet_grown mixed (by kernel_rfl) ?_
              repeat (go_big_quiet_step (first | (go_at_call 20; refine Calls.grown_of (cmp_impl _ _ _ _ _))))
              refine wpQuiet_nil ?_
              intro _ hw'
              obtain ⟨⟨nq, osq⟩, hw''⟩ := hw'
              subst hw''
              go_wp2_with fail
              go_ret
              exact ⟨rfl, HBd.out.trans ((grow_below _ _ _).mono HBd.out.size)⟩
    | false =>
      clear HPS HIM2 HSP2
      go_wp2_with fail
      refine (isAd_impl ah ap (by omega) (by omega) _).mono ?_
      rintro e w_11 ⟨rfl, hb⟩
      have hB := hb
      replace q_a0 := (hB.cell (show (⟨w_1.heap.size, 0, none⟩ : Addr).block < _ from World.block_lt_of_cell? _ _ q_a0)).trans q_a0
      replace q_a1 := (hB.cell (show (⟨w_1.heap.size, 1, none⟩ : Addr).block < _ from World.block_lt_of_cell? _ _ q_a1)).trans q_a1
      replace b_a : w_1.heap.size < w_11.heap.size := World.block_lt_of_cell? _ _ q_a0
      replace q_x0 := (hB.cell (show (⟨w_4.heap.size, 0, none⟩ : Addr).block < _ from World.block_lt_of_cell? _ _ q_x0)).trans q_x0
      replace q_x1 := (hB.cell (show (⟨w_4.heap.size, 1, none⟩ : Addr).block < _ from World.block_lt_of_cell? _ _ q_x1)).trans q_x1
      replace b_x : w_4.heap.size < w_11.heap.size := World.block_lt_of_cell? _ _ q_x0
      replace q_y0 := (hB.cell (show (⟨w_7.heap.size, 0, none⟩ : Addr).block < _ from World.block_lt_of_cell? _ _ q_y0)).trans q_y0
      replace q_y1 := (hB.cell (show (⟨w_7.heap.size, 1, none⟩ : Addr).block < _ from World.block_lt_of_cell? _ _ q_y1)).trans q_y1
      replace b_y : w_7.heap.size < w_11.heap.size := World.block_lt_of_cell? _ _ q_y0
      replace q_z0 := (hB.cell (show (⟨w_9.heap.size, 0, none⟩ : Addr).block < _ from World.block_lt_of_cell? _ _ q_z0)).trans q_z0
      replace q_z1 := (hB.cell (show (⟨w_9.heap.size, 1, none⟩ : Addr).block < _ from World.block_lt_of_cell? _ _ q_z1)).trans q_z1
      replace b_z : w_9.heap.size < w_11.heap.size := World.block_lt_of_cell? _ _ q_z0
      have HS11 := Lib.hid hB.size
      replace HB := Lib.hid (HB.out.trans (hB.mono HB.out.size))
      rw [hia]
      clear hB
      clear ey1 ey2 ea1 ea2
      go_wp2_with fail
      refine (drawSort_any _ len_c _ (codeOk_later HCO.out HB.out)).mono ?_
      rintro e w_12 ⟨v_l, xs, rfl, ho, hsh, hxl, hb⟩
      have hB := hb
      replace q_a0 := (hB.cell (show (⟨w_1.heap.size, 0, none⟩ : Addr).block < _ from World.block_lt_of_cell? _ _ q_a0)).trans q_a0
      replace q_a1 := (hB.cell (show (⟨w_1.heap.size, 1, none⟩ : Addr).block < _ from World.block_lt_of_cell? _ _ q_a1)).trans q_a1
      replace b_a : w_1.heap.size < w_12.heap.size := World.block_lt_of_cell? _ _ q_a0
      replace q_x0 := (hB.cell (show (⟨w_4.heap.size, 0, none⟩ : Addr).block < _ from World.block_lt_of_cell? _ _ q_x0)).trans q_x0
      replace q_x1 := (hB.cell (show (⟨w_4.heap.size, 1, none⟩ : Addr).block < _ from World.block_lt_of_cell? _ _ q_x1)).trans q_x1
      replace b_x : w_4.heap.size < w_12.heap.size := World.block_lt_of_cell? _ _ q_x0
      replace q_y0 := (hB.cell (show (⟨w_7.heap.size, 0, none⟩ : Addr).block < _ from World.block_lt_of_cell? _ _ q_y0)).trans q_y0
      replace q_y1 := (hB.cell (show (⟨w_7.heap.size, 1, none⟩ : Addr).block < _ from World.block_lt_of_cell? _ _ q_y1)).trans q_y1
      replace b_y : w_7.heap.size < w_12.heap.size := World.block_lt_of_cell? _ _ q_y0
      replace q_z0 := (hB.cell (show (⟨w_9.heap.size, 0, none⟩ : Addr).block < _ from World.block_lt_of_cell? _ _ q_z0)).trans q_z0
      replace q_z1 := (hB.cell (show (⟨w_9.heap.size, 1, none⟩ : Addr).block < _ from World.block_lt_of_cell? _ _ q_z1)).trans q_z1
      replace b_z : w_9.heap.size < w_12.heap.size := World.block_lt_of_cell? _ _ q_z0
      have Hl := Lib.hid ho
      have HS12 := Lib.hid hB.size
      replace HB := Lib.hid (HB.out.trans (hB.mono HB.out.size))
      clear hB ho
      go_wp2_with fail
      refine (sortImpl_any _ _ xs _ (Hl.out.reads encA_len) (by have := HS1.out; have := HS2.out; have := HS3.out; have := HS4.out; have := HS5.out; have := HS6.out; have := HS7.out; have := HS8.out; have := HS9.out; have := HS10.out; have := HS11.out; have := HS12.out; omega) (by omega)).mono ?_
      rintro e w_13 ⟨v_m, ys, rfl, hso, ho, hb⟩
      have hB := hb
      replace q_a0 := (hB.cell (show (⟨w_1.heap.size, 0, none⟩ : Addr).block < _ from World.block_lt_of_cell? _ _ q_a0)).trans q_a0
      replace q_a1 := (hB.cell (show (⟨w_1.heap.size, 1, none⟩ : Addr).block < _ from World.block_lt_of_cell? _ _ q_a1)).trans q_a1
      replace b_a : w_1.heap.size < w_13.heap.size := World.block_lt_of_cell? _ _ q_a0
      replace q_x0 := (hB.cell (show (⟨w_4.heap.size, 0, none⟩ : Addr).block < _ from World.block_lt_of_cell? _ _ q_x0)).trans q_x0
      replace q_x1 := (hB.cell (show (⟨w_4.heap.size, 1, none⟩ : Addr).block < _ from World.block_lt_of_cell? _ _ q_x1)).trans q_x1
      replace b_x : w_4.heap.size < w_13.heap.size := World.block_lt_of_cell? _ _ q_x0
      replace q_y0 := (hB.cell (show (⟨w_7.heap.size, 0, none⟩ : Addr).block < _ from World.block_lt_of_cell? _ _ q_y0)).trans q_y0
      replace q_y1 := (hB.cell (show (⟨w_7.heap.size, 1, none⟩ : Addr).block < _ from World.block_lt_of_cell? _ _ q_y1)).trans q_y1
      replace b_y : w_7.heap.size < w_13.heap.size := World.block_lt_of_cell? _ _ q_y0
      replace q_z0 := (hB.cell (show (⟨w_9.heap.size, 0, none⟩ : Addr).block < _ from World.block_lt_of_cell? _ _ q_z0)).trans q_z0
      replace q_z1 := (hB.cell (show (⟨w_9.heap.size, 1, none⟩ : Addr).block < _ from World.block_lt_of_cell? _ _ q_z1)).trans q_z1
      replace b_z : w_9.heap.size < w_13.heap.size := World.block_lt_of_cell? _ _ q_z0
      replace Hl := Lib.hid (Hl.out.later hB)
      have Hm := Lib.hid ho
      have HS13 := Lib.hid hB.size
      replace HB := Lib.hid (HB.out.trans (hB.mono HB.out.size))
      clear hB ho
      have hyl := sortedOf_len hso
      have HSO := Lib.hid hso; clear hso
      have hlo : w_12.heap.size ≤ w_13.heap.size := (by have := HS1.out; have := HS2.out; have := HS3.out; have := HS4.out; have := HS5.out; have := HS6.out; have := HS7.out; have := HS8.out; have := HS9.out; have := HS10.out; have := HS11.out; have := HS12.out; have := HS13.out; omega)
      have HRL := Lib.hid ((Hl.out.reads encA_len).mono hlo); have HRM := Lib.hid (Hm.out.reads encA_len); clear hlo
      obtain ⟨al, cl, evl, hl1, hl2, -, hl4⟩ := HRL.out
      obtain ⟨am, cm, evm, hm1, hm2, -, hm4⟩ := HRM.out
      have HL4 := Lib.hid hl4; have HM4 := Lib.hid hm4; clear hl4 hm4
      subst evl; subst evm
      clear q_a0 q_a1 b_a q_x0 q_x1 b_x q_y0 q_y1 b_y q_z0 q_z1 b_z
      have HASL := Lib.hid (fun (wr : World) (hg : Grw w_13 wr) (h p : ByteArray) (hin : (h, p) ∈ xs) n os => has_true (v := .slice al xs.length cl) HRL.out hg hin n os)
      have HASM := Lib.hid (fun (wr : World) (hg : Grw w_13 wr) (h p : ByteArray) (hin : (h, p) ∈ ys) n os => has_true (v := .slice am ys.length cm) HRM.out hg hin n os)
      go_wp2_with fail
      go_loopw [14] (fun i wr => ∃ (k : Nat), k ≤ ys.length ∧ i = .int .i64 k ∧ Grw w_13 wr) (fun i _ => ys.length - (intOf i).toNat)
      case atStart => exact ⟨0, Nat.zero_le _, rfl, Grw.refl _⟩
      case round =>
        obtain ⟨k, hk, rfl, hg⟩ := hrel
        have HG := Lib.hid hg
        clear hg
        by_cases hlt : (k : Int) < (ys.length : Int)
        · rcases HM4.out with h0 | ⟨gm, om, rfl, hgm, hcells⟩
          · omega
          · obtain ⟨p0, p1, hx⟩ := ad_at (xs := ys) (j := k) (by omega)
            have hin : (p0, p1) ∈ xs := (HSO.out.2 _).1 (List.mem_iff_getElem?.2 ⟨k, hx⟩)
            have hgr : gm < wr.heap.size := by have := HG.out.below.size; omega
            have c0 := cell_grown (w := wr) (a := ⟨gm, om + k * 2, none⟩) hgr (by rw [HG.out.below.cell (show gm < _ by omega)]; exact hcells k _ hx 0 (by omega))
            have c1 := cell_grown (w := wr) (a := ⟨gm, om + k * 2 + 1, none⟩) hgr (by rw [HG.out.below.cell (show gm < _ by omega)]; exact hcells k _ hx 1 (by omega))
            have HH := Lib.hid (HASL.out wr HG.out p0 p1 hin)
            by_cases hk0 : k = 0
            · subst hk0
              simp only [Nat.zero_mul, Nat.add_zero] at c0 c1
              clear hcells hx hin
              go_wp2_with fail
              refine wp_region_quiet_grown mixed (by kernel_rfl) ?_
              repeat (go_big_quiet_step (first | (go_at_call 21; refine Calls.grown_of (HH.out _ _))))
              refine wpQuiet_nil ?_
              intro _ hw'
              obtain ⟨⟨nq, osq⟩, hw''⟩ := hw'
              subst hw''
              clear c0 c1
              go_wp2_with fail
              go_roundw
              case rel => exact ⟨0 + 1, by omega, by go_num, HG.out.trans ⟨_, _, rfl⟩⟩
              case measure => simp [intOf]; omega
            · obtain ⟨q0, q1, hy⟩ := ad_at (xs := ys) (j := k - 1) (by omega)
              have hst : cmpA (q0, q1) (p0, p1) = -1 := by
                have h1 := (List.pairwise_iff_getElem.1 HSO.out.1) (k - 1) k (by omega) (by omega) (by omega)
                have e1 := List.getElem?_eq_getElem (l := ys) (i := k) (by omega)
                have e2 := List.getElem?_eq_getElem (l := ys) (i := k - 1) (by omega)
                rw [hx] at e1
                rw [hy] at e2
                rw [← Option.some.inj e1, ← Option.some.inj e2] at h1
                have := cmpA_vals (q0, q1) (p0, p1)
                omega
              have d0 := cell_grown (w := wr) (a := ⟨gm, om + (k - 1) * 2, none⟩) hgr (by rw [HG.out.below.cell (show gm < _ by omega)]; exact hcells (k - 1) _ hy 0 (by omega))
              have d1 := cell_grown (w := wr) (a := ⟨gm, om + (k - 1) * 2 + 1, none⟩) hgr (by rw [HG.out.below.cell (show gm < _ by omega)]; exact hcells (k - 1) _ hy 1 (by omega))
              have HCMP := Lib.hid (fun W => (cmp_impl q0 q1 p0 p1 W).mono fun e w' (h : e = .returned (.int .i64 (cmpA (q0, q1) (p0, p1))) ∧ _) => show e = .returned (.int .i64 (-1)) ∧ _ from ⟨by rw [h.1, hst], h.2⟩)
              have hi0 : (0 : Int) ≤ (k : Int) - 1 := by omega
              have hi1 : (k : Int) - 1 < (ys.length : Int) := by omega
              have hi2 : (0 : Int) < (k : Int) := by omega
              have hi3 : decide (0 < k) = true := decide_eq_true (by omega)
              clear hcells hx hin hy hst
              go_wp2_with fail
              refine wp_region_quiet_grown mixed (by kernel_rfl) ?_
              repeat (go_big_quiet_step (first | (go_at_call 21; refine Calls.grown_of (HH.out _ _)) | (go_at_call 20; refine Calls.grown_of (HCMP.out _))))
              refine wpQuiet_nil ?_
              intro _ hw'
              obtain ⟨⟨nq, osq⟩, hw''⟩ := hw'
              subst hw''
              clear c0 c1 d0 d1 hi0 hi1 hi2 hi3
              go_wp2_with fail
              go_roundw
              case rel => exact ⟨k + 1, by omega, by go_num, HG.out.trans ⟨_, _, rfl⟩⟩
              case measure => simp [intOf]; omega
        · have HG1 := Lib.hid HG.out
          clear HG
          have hkn : decide ((k : Int) < (ys.length : Int)) = false := decide_eq_false hlt
          go_wp2_with fail
          go_loopw [15] (fun i wr => ∃ (k : Nat), k ≤ xs.length ∧ i = .int .i64 k ∧ Grw w_13 wr) (fun i _ => xs.length - (intOf i).toNat)
          case atStart => exact ⟨0, Nat.zero_le _, rfl, HG1.out⟩
          case round =>
            obtain ⟨k2, hk2, rfl, hg⟩ := hrel
            have HG := Lib.hid hg
            clear hg
            by_cases hlt2 : (k2 : Int) < (xs.length : Int)
            · rcases HL4.out with h0 | ⟨gl, ol, rfl, hgl, hcells⟩
              · omega
              · obtain ⟨p0, p1, hx⟩ := ad_at (xs := xs) (j := k2) (by omega)
                have hin : (p0, p1) ∈ ys := (HSO.out.2 _).2 (List.mem_iff_getElem?.2 ⟨k2, hx⟩)
                have c0 : wr.cell? ⟨gl, ol + k2 * 2, none⟩ = some (.string p0) := by rw [HG.out.below.cell (show gl < _ by omega)]; exact hcells k2 _ hx 0 (by omega)
                have c1 : wr.cell? ⟨gl, ol + k2 * 2 + 1, none⟩ = some (.string p1) := by rw [HG.out.below.cell (show gl < _ by omega)]; exact hcells k2 _ hx 1 (by omega)
                have HH := Lib.hid (HASM.out wr HG.out p0 p1 hin)
                clear hcells hx hin
                go_wp2_with fail
                refine (has_now HH.out).mono ?_
                rintro e w_q ⟨rfl, hgq⟩
                have HG2 := Lib.hid (HG.out.trans hgq)
                clear c0 c1 hgq
                go_wp2_with fail
                go_roundw
                case rel => exact ⟨k2 + 1, by omega, by go_num, HG2.out⟩
                case measure => simp [intOf]; omega
            · have hkn2 : decide ((k2 : Int) < (xs.length : Int)) = false := decide_eq_false hlt2
              go_wp2_with fail
              have HBr := Lib.hid (HB.out.trans (HG.out.below.mono HB.out.size))
              refine (drawCmp_any _ len_c _ (codeOk_later HCO.out HBr.out)).mono ?_
              rintro e w_c ⟨h1, p1, h2, p2, rfl, hh1, hp1, hh2, hp2, hbc⟩
              have HBc := Lib.hid (HBr.out.trans (hbc.mono HBr.out.size))
              clear hbc
              go_wp2_with fail
              obtain ⟨w_d, hw⟩ : ∃ x, ((w_c.alloc (.cells #[.string h1, .string p1] 25)).alloc (.cells #[.string h2, .string p2] 25)) = x := ⟨_, rfl⟩
              rw [hw]
              have hBd : Below w_c.heap.size w_c w_d := by rw [← hw]; exact (((Below.refl w_c.heap.size w_c).alloc (by first | (simp; done) | (simp; omega)) _).alloc (by first | (simp; done) | (simp; omega)) _)
              have HBd := Lib.hid (HBc.out.trans (hBd.mono HBc.out.size))
              have q_b0 : w_d.cell? ⟨w_c.heap.size, 0, none⟩ = some (.string h1) := by rw [← hw]; simp
              have q_b1 : w_d.cell? ⟨w_c.heap.size, 1, none⟩ = some (.string p1) := by rw [← hw]; simp
              have q_c0 : w_d.cell? ⟨w_c.heap.size + 1, 0, none⟩ = some (.string h2) := by rw [← hw]; simp
              have q_c1 : w_d.cell? ⟨w_c.heap.size + 1, 1, none⟩ = some (.string p2) := by rw [← hw]; simp
              have g_b0 := cell_grown (show (⟨w_c.heap.size, 0, none⟩ : Addr).block < w_d.heap.size from World.block_lt_of_cell? _ _ q_b0) q_b0
              have g_b1 := cell_grown (show (⟨w_c.heap.size, 1, none⟩ : Addr).block < w_d.heap.size from World.block_lt_of_cell? _ _ q_b1) q_b1
              have g_c0 := cell_grown (show (⟨w_c.heap.size + 1, 0, none⟩ : Addr).block < w_d.heap.size from World.block_lt_of_cell? _ _ q_c0) q_c0
              have g_c1 := cell_grown (show (⟨w_c.heap.size + 1, 1, none⟩ : Addr).block < w_d.heap.size from World.block_lt_of_cell? _ _ q_c1) q_c1
              clear hBd hw q_b0 q_b1 q_c0 q_c1
              have hneg : -cmpA (h2, p2) (h1, p1) = cmpA (h1, p1) (h2, p2) := (cmpA_neg (h2, p2) (h1, p1)).symm
              have hlo : -1 ≤ cmpA (h1, p1) (h2, p2) := by have := cmpA_vals (h1, p1) (h2, p2); omega
              have hhi : cmpA (h1, p1) (h2, p2) ≤ 1 := by have := cmpA_vals (h1, p1) (h2, p2); omega
              refine wp_region_quiet_grown mixed (by kernel_rfl) ?_
              repeat (go_big_quiet_step (first | (go_at_call 20; refine Calls.grown_of (cmp_impl _ _ _ _ _))))
              refine wpQuiet_nil ?_
              intro _ hw'
              obtain ⟨⟨nq, osq⟩, hw''⟩ := hw'
              subst hw''
              go_wp2_with fail
              go_ret
              exact ⟨rfl, HBd.out.trans ((grow_below _ _ _).mono HBd.out.size)⟩
end Go.Proofs.Ytojpbdhkcpfeaaa
