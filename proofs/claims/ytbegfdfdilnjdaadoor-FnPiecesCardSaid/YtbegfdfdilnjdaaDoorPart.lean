/- Helper contracts: the program's firstPart and parsePart. Asked: the string is shorter than 2^30 bytes. -/
import Derived.Test.YtbegfdfdilnjdaaDoorFeedP
import Derived.Test.YtbegfdfdilnjdaaDoorTagJ
namespace Go.Proofs.YtbegfdfdilnjdaaDoor
open Go.ChangeShapes Go.WideShapes Go.ChangeAt Go.RowKit

/-- The text or the tag at the beginning. -/
def fpart (y : List UInt8) : List UInt8 :=
  if 0 < idxB 60 y ∧ idxB 60 y < y.length then y.take (idxB 60 y)
  else if idxB 60 y = 0 ∧ idxB 62 y < y.length then y.take (idxB 62 y + 1)
  else []
theorem fpart_text {y : List UInt8} (h1 : 0 < idxB 60 y) (h2 : idxB 60 y < y.length) : fpart y = y.take (idxB 60 y) := by unfold fpart; rw [if_pos ⟨h1, h2⟩]
theorem fpart_tag {y : List UInt8} (h1 : idxB 60 y = 0) (h2 : idxB 62 y < y.length) : fpart y = y.take (idxB 62 y + 1) := by unfold fpart; rw [if_neg (by omega), if_pos ⟨h1, h2⟩]
theorem fpart_none {y : List UInt8} (h : ¬ (0 < idxB 60 y ∧ idxB 60 y < y.length)) (h2 : ¬ (idxB 60 y = 0 ∧ idxB 62 y < y.length)) : fpart y = [] := by unfold fpart; rw [if_neg h, if_neg h2]

set_option maxRecDepth 100000 in
set_option maxHeartbeats 1000000 in
theorem max2_any (x : Int) (w : World) :
    Calls Tryd.prog 65 #[.int .i64 x, .int .i64 0] w fun e w' => e = .returned (.int .i64 (if x < 0 then 0 else x)) ∧ Grw w w' := by
  refine (max_impl x 0 w).mono ?_
  rintro e w' ⟨rfl, rfl⟩
  refine ⟨?_, (Grw.refl _).alloc _⟩
  unfold maxI
  congr 3

set_option maxRecDepth 100000 in
set_option maxHeartbeats 1000000 in
theorem fpart_any (y : List UInt8) (hy : y.length ≤ 1073741823) (w : World) :
    Calls Tryd.prog 48 #[.string (ofL y)] w fun e w' => e = .returned (.string (ofL (fpart y))) ∧ Grw w w' := by
  have HYL := Lib.hid (ofL_size y)
  have hle := idxB_le 60 y
  have hle2 := idxB_le 62 y
  have HI60 := Lib.hid (fun W => iby_any (ofL y) 60 W)
  have HI62 := Lib.hid (fun W => iby_any (ofL y) 62 W)
  by_cases h1 : idxB 60 y < y.length
  · have HA := Lib.hid (fun W => by
      have h := iby_any (ofL y) 60 W
      rw [ofL_list, if_pos h1] at h
      exact h)
    by_cases h0 : 0 < idxB 60 y
    · have HF := Lib.hid (fpart_text h0 h1)
      obtain ⟨k, hk⟩ : ∃ k, idxB 60 y = k := ⟨_, rfl⟩
      rw [hk] at HA HF h1 h0
      clear hle hle2 hk
      have hq : ((k : Int) == 0) = false := beq_eq_false_iff_ne.2 (by omega)
      have hmx := max2_any (k : Int)
      rw [if_neg (by omega)] at hmx
      have HMX := Lib.hid hmx; clear hmx
      have c1 : (0 : Int) ≤ (k : Int) := by omega
      have c2 : (k : Int) ≤ ((ofL y).size : Int) := by have := HYL.out; omega
      have HT1 := Lib.hid (show (ofL y).extract 0 k = ofL (y.take k) from extract_pre _ _)
      go_enter Tryd.func48, Tryd.ntmps48
      go_wp2_with fail
      refine (HA.out _).mono ?_
      rintro e w' ⟨rfl, rfl⟩
      go_wp2_with fail
      refine (HMX.out _).mono ?_
      rintro e w1 ⟨rfl, hg⟩
      have HG := Lib.hid hg; clear hg
      go_wp2_with fail
      go_ret
      exact ⟨by rw [HF.out, ← HT1.out]; rfl, HG.out⟩
    · have h0' : idxB 60 y = 0 := by omega
      rw [h0'] at HA
      by_cases h2 : idxB 62 y < y.length
      · have HF := Lib.hid (fpart_tag h0' h2)
        have HB := Lib.hid (fun W => by
          have h := iby_any (ofL y) 62 W
          rw [ofL_list, if_pos h2] at h
          exact h)
        obtain ⟨k, hk⟩ : ∃ k, idxB 62 y = k := ⟨_, rfl⟩
        rw [hk] at HB HF h2
        clear hle hle2 hk h0' h0 h1
        have c0 : (k : Int) ≤ 1073741823 := by omega
        have c1 : (0 : Int) ≤ (k : Int) + 1 := by omega
        have c2 : (k : Int) + 1 ≤ ((ofL y).size : Int) := by have := HYL.out; omega
        have HT1 := Lib.hid (show (ofL y).extract 0 (k + 1) = ofL (y.take (k + 1)) from extract_pre _ _)
        go_enter Tryd.func48, Tryd.ntmps48
        go_wp2_with fail
        refine (HA.out _).mono ?_
        rintro e w' ⟨rfl, rfl⟩
        go_wp2_with fail
        refine (HB.out _).mono ?_
        rintro e w' ⟨rfl, rfl⟩
        go_wp2_with fail
        go_ret
        exact ⟨by rw [HF.out, ← HT1.out]; rfl, Grw.refl _⟩
      · have HF := Lib.hid (fpart_none (y := y) (by omega) (by omega))
        have HB := Lib.hid (fun W => by
          have h := iby_any (ofL y) 62 W
          rw [ofL_list, if_neg h2] at h
          exact h)
        have HT1 := Lib.hid (show (ofL y).extract 0 0 = ofL [] from extract_pre _ _)
        clear hle hle2 h0' h0 h1 h2
        go_enter Tryd.func48, Tryd.ntmps48
        go_wp2_with fail
        refine (HA.out _).mono ?_
        rintro e w' ⟨rfl, rfl⟩
        go_wp2_with fail
        refine (HB.out _).mono ?_
        rintro e w' ⟨rfl, rfl⟩
        go_wp2_with fail
        go_ret
        exact ⟨by rw [HF.out]; rfl, Grw.refl _⟩
  · have HA := Lib.hid (fun W => by
      have h := iby_any (ofL y) 60 W
      rw [ofL_list, if_neg h1] at h
      exact h)
    have HF : Go.RowKit.Hid (fpart y = []) := Lib.hid (by
      by_cases hn : y = []
      · subst hn; rfl
      · have : y.length ≠ 0 := fun e => hn (List.eq_nil_of_length_eq_zero e)
        exact fpart_none (by omega) (by omega))
    have hmx := max2_any (-1)
    rw [if_pos (by omega)] at hmx
    have HMX := Lib.hid hmx; clear hmx
    have HT1 := Lib.hid (show (ofL y).extract 0 0 = ofL [] from extract_pre _ _)
    clear hle hle2 h1
    go_enter Tryd.func48, Tryd.ntmps48
    go_wp2_with fail
    refine (HA.out _).mono ?_
    rintro e w' ⟨rfl, rfl⟩
    go_wp2_with fail
    refine (HMX.out _).mono ?_
    rintro e w1 ⟨rfl, hg⟩
    have HG := Lib.hid hg; clear hg
    go_wp2_with fail
    go_ret
    exact ⟨by rw [HF.out]; rfl, HG.out⟩

set_option maxRecDepth 100000 in
set_option maxHeartbeats 1000000 in
theorem ppart_tag (y : List UInt8) (k : Nat) (h0 : idxB 60 y = 0) (hk : idxB 62 y = k) (hky : k < y.length) (hy : y.length ≤ 1073741823) (w : World) :
    Calls Tryd.prog 49 #[.string (ofL (y.take (k + 1)))] w (PtOut (ofL ((y.take k).drop 1)) w) := by
  have h1 : 1 ≤ k := by rw [← hk]; exact idx_tag h0 (by rw [hk]; exact hky)
  have hsz : (ofL (y.take (k + 1))).size = k + 1 := by rw [ofL_size, List.length_take]; omega
  have h6 : ∀ hp : 0 < (ofL (y.take (k + 1))).size, (ofL (y.take (k + 1)))[0] = 60 := by
    intro hp
    have h7 := get_at hp
    rw [ofL_list, List.getElem?_take, if_pos (by omega)] at h7
    have h8 := idxB_at (c := 60) (l := y) (by rw [h0]; omega)
    rw [h0, h7] at h8
    exact Option.some.inj h8
  have hin : (ofL (y.take (k + 1))).extract 1 k = ofL ((y.take k).drop 1) := by
    rw [tag_inside, List.take_take, Nat.min_eq_left (by omega)]
  have hz : (ofL ((y.take k).drop 1)).size ≤ 1099511627 := by rw [ofL_size, List.length_drop, List.length_take]; omega
  obtain ⟨I, hI⟩ : ∃ I, ofL ((y.take k).drop 1) = I := ⟨_, rfl⟩
  obtain ⟨S, hS⟩ : ∃ S, ofL (y.take (k + 1)) = S := ⟨_, rfl⟩
  rw [hI] at hin hz ⊢
  rw [hS] at hsz h6 hin ⊢
  have hp : 0 < S.size := by omega
  have hb : ((S[0].toNat : Int) == 60) = true := by rw [h6 hp]; rfl
  have c1 : (1 : Int) ≤ (k : Int) := by omega
  have c2 : (k : Int) ≤ (S.size : Int) := by omega
  have c3 : (k : Int) ≤ 1073741823 := by omega
  have HPT := Lib.hid (fun W => ptag_any I hz W)
  have HIN := Lib.hid hin
  clear h6 hin hS hI hz h0 hk hky
  go_enter Tryd.func49, Tryd.ntmps49
  go_wp2_with fail
  rw [HIN.out]
  refine (HPT.out _).mono ?_
  rintro e w1 (⟨hno, ⟨m, rfl⟩, hb1⟩ | ⟨r, ht, rfl, hb1⟩ | ⟨n, ats, a, c, ht, rfl, ho1, hb1⟩)
  · have HX := Lib.hid (And.intro hno hb1); clear hno hb1
    go_wp2_with fail
    go_ret2
    exact Or.inl ⟨HX.out.1, ⟨_, rfl⟩, HX.out.2⟩
  · have HX := Lib.hid (And.intro ht hb1); clear ht hb1
    go_wp2_with fail
    go_ret2
    exact Or.inr (Or.inl ⟨r, HX.out.1, rfl, HX.out.2⟩)
  · have HX := Lib.hid (And.intro ht (And.intro ho1 hb1)); clear ht ho1 hb1
    go_wp2_with fail
    go_ret2
    exact Or.inr (Or.inr ⟨n, ats, a, c, HX.out.1, rfl, HX.out.2.1, HX.out.2.2⟩)

set_option maxRecDepth 100000 in
set_option maxHeartbeats 1000000 in
theorem ppart_text (y : List UInt8) (k : Nat) (hk : idxB 60 y = k) (h0 : 0 < k) (hky : k < y.length) (w : World) :
    Calls Tryd.prog 49 #[.string (ofL (y.take k))] w fun e w' => e = .returned (.tuple #[.iface 75 (.agg #[.string (ofL (y.take k))]), .bool true]) ∧ w = w' := by
  have hsz : (ofL (y.take k)).size = k := by rw [ofL_size, List.length_take]; omega
  have h6 : ∀ hp : 0 < (ofL (y.take k)).size, (ofL (y.take k))[0] ≠ 60 := by
    intro hp e
    have h7 := get_at hp
    rw [ofL_list, List.getElem?_take, if_pos (by omega), e] at h7
    exact idxB_before (c := 60) (l := y) (j := 0) (by omega) h7
  obtain ⟨S, hS⟩ : ∃ S, ofL (y.take k) = S := ⟨_, rfl⟩
  rw [hS] at hsz h6 ⊢
  have hp : 0 < S.size := by omega
  have hb : ((S[0].toNat : Int) == 60) = false := (u8_beq S[0] 60).trans (decide_eq_false (h6 hp))
  clear h6 hS hk hky
  go_enter Tryd.func49, Tryd.ntmps49
  go_wp2_with fail
  go_ret2
  exact ⟨rfl, rfl⟩
end Go.Proofs.YtbegfdfdilnjdaaDoor
