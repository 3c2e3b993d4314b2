/- Helper contract: ReadUvarint of the program gives what the model's gives: the integer, the offset behind it, and whether there is one. Asked: the slice reads as the list named, of bytes. -/
import Derived.Test.YtemoegnijnhigaaRead
namespace Go.Proofs.Ytemoegnijnhigaa
open Go.ChangeShapes Go.WideShapes Go.ChangeAt Go.RowKit

theorem rd_take : ∀ (l : List Int) (k : Nat) (acc : Int), rd (l.take (6 - k)) k acc = rd l k acc := by
  intro l
  induction l with
  | nil => intro k acc; simp
  | cons x l ih =>
    intro k acc
    by_cases h : 6 ≤ k
    · rw [rd_stop _ _ _ h, rd_stop _ _ _ h]
    · have e : 6 - k = (6 - (k + 1)) + 1 := by omega
      rw [e, List.take_succ_cons]
      simp only [rd]
      rw [ih]
theorem part_eq (bs : List Int) (p t : Nat) (hp : p ≤ bs.length) (ht : t = if p + 6 ≤ bs.length then p + 6 else bs.length) : rd ((bs.take t).drop p) 0 0 = rd (bs.drop p) 0 0 := by
  rw [← rd_take (bs.drop p) 0 0, List.drop_take]
  subst ht
  split
  · rw [show p + 6 - p = 6 - 0 by omega]
  · rw [List.take_of_length_le (by simp), List.take_of_length_le (by simp; omega)]

set_option maxHeartbeats 4000000 in
theorem implRead_any (v : Value) (hi : Nat) (bs : List Int) (o : Int) (w : World) (hr : Reads .u8 hi w v bs) (hh : hi ≤ w.heap.size) (hb : Bytes bs) (hl : bs.length ≤ 1099511627776) :
    Calls Try.prog 16 #[v, .int .i64 o] w (RdOut bs o w) := by
  have HRE := Lib.hid hr
  obtain ⟨a, cap, rfl, h1, h2, -, -⟩ := hr
  have HB := Lib.hid hb; clear hb
  obtain ⟨n, hn⟩ : ∃ n, bs.length = n := ⟨_, rfl⟩
  rw [hn] at h1 hl HRE ⊢
  have HN := Lib.hid hn; clear hn
  by_cases hin : 0 ≤ o ∧ o ≤ (n : Int)
  · have e1 : inB o 0 n = true := inB_yes hin.1 hin.2
    obtain ⟨p, rfl⟩ := Int.eq_ofNat_of_zero_le hin.1
    have hpn : (p : Int) ≤ (n : Int) := hin.2
    obtain ⟨t, htt⟩ : ∃ t : Nat, t = if p + 6 ≤ n then p + 6 else n := ⟨_, rfl⟩
    have hmin : minI ((p : Int) + 6) n = (t : Int) := by unfold minI; rw [htt]; split <;> split <;> omega
    have hpt : p ≤ t := by rw [htt]; split <;> omega
    have htn : t ≤ n := by rw [htt]; split <;> omega
    have ht6 : t ≤ p + 6 := by rw [htt]; split <;> omega
    have hR : rd ((bs.take t).drop p) 0 0 = readU bs p := by
      rw [part_eq bs p t (by have := HN.out; omega) (by rw [HN.out]; exact htt)]
      unfold readU
      rw [if_pos (by rw [HN.out]; omega)]; rfl
    obtain ⟨R, eR⟩ : ∃ R, readU bs p = R := ⟨_, rfl⟩
    rw [eR] at hR
    have HER := Lib.hid eR; clear eR
    have HR := Lib.hid hR; clear hR htt hin
    go_enter Try.func16, Try.ntmps16
    go_wp2_with (go_at_call 50; refine (rin_any _ _ _ _).mono ?_; rintro e w' ⟨rfl, rfl⟩)
    refine (min_impl _ _ _).mono ?_
    rintro e w1 ⟨rfl, hw1⟩
    rw [hmin]
    have hb1 : Below w.heap.size w w1 := by rw [hw1]; exact (Below.refl _ _).alloc (Nat.le_refl _) _
    have HB1 := Lib.hid hb1; clear hb1 hw1 hmin
    go_wp2_with fail
    refine (take_any _ hi bs p t _ (HRE.out.below HB1.out hh) hpt (by have := HN.out; omega)).mono ?_
    rintro e w2 ⟨⟨v2, rfl, hr2⟩, rfl⟩
    obtain ⟨L, hL⟩ : ∃ L, (bs.take t).drop p = L := ⟨_, rfl⟩
    have hLb : Bytes L := by rw [← hL]; intro z hz; exact HB.out z (List.mem_of_mem_take (List.mem_of_mem_drop hz))
    have hLl : L.length = t - p := by rw [← hL]; simp; have := HN.out; omega
    rw [hL] at HR hr2
    clear hL
    obtain ⟨a2, cap2, rfl, _, _, -, hcells⟩ := hr2
    have HC := Lib.hid hcells; have HLB := Lib.hid hLb; clear hcells hLb
    obtain ⟨m, hm⟩ : ∃ m, L.length = m := ⟨_, rfl⟩
    rw [hm] at hLl HC ⊢
    have HM := Lib.hid hm
    have hm6 : m ≤ 6 := by omega
    clear hm
    go_wp2
    go_loop [7, 24] (fun s i => ∃ (k : Nat) (acc : Int), k ≤ m ∧ i = .int .i64 k ∧ s = .int .i64 acc ∧ 0 ≤ acc ∧ acc < 128 ^ k ∧ rd (L.drop k) k acc = R) (fun _ i => m - (intOf i).toNat)
    case atStart => exact ⟨0, 0, by omega, rfl, rfl, by omega, by decide, HR.out⟩
    case round =>
      obtain ⟨k, acc, hk, rfl, rfl, a0, a1, hrd⟩ := hrel
      by_cases hend : k = m
      · have hR6 := hrd
        rw [List.drop_eq_nil_of_le (by have := HM.out; omega)] at hR6
        have HR6 := Lib.hid hR6; clear hR6 hrd a1
        subst hend
        go_wp2
        go_ret3
        exact ⟨by rw [HER.out, ← HR6.out]; rfl, HB1.out⟩
      rcases HC.out with h0 | ⟨g, off, rfl, hg, hcells⟩
      · omega
      have c1 := hcells k (by omega)
      obtain ⟨x0, x1⟩ := HLB.out.at k
      rw [drop_at (by have := HM.out; omega)] at hrd
      obtain ⟨x, hx⟩ : ∃ x, L.getD k 0 = x := ⟨_, rfl⟩
      rw [hx] at c1 x0 x1 hrd
      clear hcells hx
      obtain ⟨acc', hacc⟩ : ∃ acc', acc + x % 128 * 128 ^ k = acc' := ⟨_, rfl⟩
      have hbd := acc_step (x := x) a0 a1
      rw [hacc] at hbd
      obtain ⟨b0, b1⟩ := hbd
      have HRD := Lib.hid hrd; have HB2 := Lib.hid b1; have HACC := Lib.hid hacc
      clear hrd b1 hacc
      have hk' : k = 0 ∨ k = 1 ∨ k = 2 ∨ k = 3 ∨ k = 4 ∨ k = 5 := by omega
      rcases hk' with rfl | rfl | rfl | rfl | rfl | rfl
      · obtain rfl : acc = 0 := by omega
        have hacc : x % 128 = acc' := by have h := HACC.out; rw [Int.pow_zero] at h; omega
        rw [Nat.add_zero] at c1
        have hlt : (0 : Int) < (m : Int) := by omega
        have hmx : acc' ≤ 1000000000000 := by omega
        clear a1
        by_cases hx : x < 128
        · have HG := Lib.hid (show some (acc', 0 + 1) = R by rw [← HRD.out, rd_good (by omega) hx (by rw [HACC.out]; omega), HACC.out])
          by_cases hz : x = 0
          · subst hz
            have ha : acc' = 0 := by omega
            subst ha
            clear hacc
            go_wp2
            go_ret3
            exact ⟨by rw [HER.out, ← HG.out]; simp [uval, uv, un, ub], HB1.out⟩
          · go_wp2
            go_ret3
            exact ⟨by rw [HER.out, ← HG.out]; simp [uval, uv, un, ub], HB1.out⟩
        · have HG := Lib.hid (show rd (L.drop (0 + 1)) (0 + 1) acc' = R by rw [← HRD.out, rd_more (by omega) hx, HACC.out])
          go_wp2
          go_round
          case rel => exact ⟨0 + 1, acc', by omega, rfl, rfl, b0, HB2.out, HG.out⟩
          case measure => simp [intOf]; omega
      · have hacc : acc + x % 128 * 128 = acc' := HACC.out
        have al : acc < 128 := a1
        have hlt : (1 : Int) < (m : Int) := by omega
        clear a1
        by_cases hx : x < 128
        · by_cases hbad : (x = 0 ∧ 0 < 1) ∨ 1000000000000 < acc'
          · have HG := Lib.hid (show none = R by rw [← HRD.out, rd_bad (by omega) hx (by rw [HACC.out]; exact hbad)])
            have HBD := Lib.hid hbad; clear hbad
            by_cases hz : x = 0
            · subst hz
              go_wp2
              go_ret3
              exact ⟨by rw [HER.out, ← HG.out]; rfl, HB1.out⟩
            · have hmx : (1000000000000 : Int) < acc' := by have := HBD.out; omega
              exfalso; omega
          · have HG := Lib.hid (show some (acc', 1 + 1) = R by rw [← HRD.out, rd_good (by omega) hx (by rw [HACC.out]; exact hbad), HACC.out])
            have hmx : acc' ≤ 1000000000000 := by omega
            have hxn : ¬ x = 0 := by omega
            clear hbad
            go_wp2
            go_ret3
            exact ⟨by rw [HER.out, ← HG.out]; simp [uval, uv, un, ub]; omega, HB1.out⟩
        · have HG := Lib.hid (show rd (L.drop (1 + 1)) (1 + 1) acc' = R by rw [← HRD.out, rd_more (by omega) hx, HACC.out])
          go_wp2
          go_round
          case rel => exact ⟨1 + 1, acc', by omega, rfl, rfl, b0, HB2.out, HG.out⟩
          case measure => simp [intOf]; omega
      · have hacc : acc + x % 128 * 16384 = acc' := HACC.out
        have al : acc < 16384 := a1
        have hlt : (2 : Int) < (m : Int) := by omega
        clear a1
        by_cases hx : x < 128
        · by_cases hbad : (x = 0 ∧ 0 < 2) ∨ 1000000000000 < acc'
          · have HG := Lib.hid (show none = R by rw [← HRD.out, rd_bad (by omega) hx (by rw [HACC.out]; exact hbad)])
            have HBD := Lib.hid hbad; clear hbad
            by_cases hz : x = 0
            · subst hz
              go_wp2
              go_ret3
              exact ⟨by rw [HER.out, ← HG.out]; rfl, HB1.out⟩
            · have hmx : (1000000000000 : Int) < acc' := by have := HBD.out; omega
              exfalso; omega
          · have HG := Lib.hid (show some (acc', 2 + 1) = R by rw [← HRD.out, rd_good (by omega) hx (by rw [HACC.out]; exact hbad), HACC.out])
            have hmx : acc' ≤ 1000000000000 := by omega
            have hxn : ¬ x = 0 := by omega
            clear hbad
            go_wp2
            go_ret3
            exact ⟨by rw [HER.out, ← HG.out]; simp [uval, uv, un, ub]; omega, HB1.out⟩
        · have HG := Lib.hid (show rd (L.drop (2 + 1)) (2 + 1) acc' = R by rw [← HRD.out, rd_more (by omega) hx, HACC.out])
          go_wp2
          go_round
          case rel => exact ⟨2 + 1, acc', by omega, rfl, rfl, b0, HB2.out, HG.out⟩
          case measure => simp [intOf]; omega
      · have hacc : acc + x % 128 * 2097152 = acc' := HACC.out
        have al : acc < 2097152 := a1
        have hlt : (3 : Int) < (m : Int) := by omega
        clear a1
        by_cases hx : x < 128
        · by_cases hbad : (x = 0 ∧ 0 < 3) ∨ 1000000000000 < acc'
          · have HG := Lib.hid (show none = R by rw [← HRD.out, rd_bad (by omega) hx (by rw [HACC.out]; exact hbad)])
            have HBD := Lib.hid hbad; clear hbad
            by_cases hz : x = 0
            · subst hz
              go_wp2
              go_ret3
              exact ⟨by rw [HER.out, ← HG.out]; rfl, HB1.out⟩
            · have hmx : (1000000000000 : Int) < acc' := by have := HBD.out; omega
              exfalso; omega
          · have HG := Lib.hid (show some (acc', 3 + 1) = R by rw [← HRD.out, rd_good (by omega) hx (by rw [HACC.out]; exact hbad), HACC.out])
            have hmx : acc' ≤ 1000000000000 := by omega
            have hxn : ¬ x = 0 := by omega
            clear hbad
            go_wp2
            go_ret3
            exact ⟨by rw [HER.out, ← HG.out]; simp [uval, uv, un, ub]; omega, HB1.out⟩
        · have HG := Lib.hid (show rd (L.drop (3 + 1)) (3 + 1) acc' = R by rw [← HRD.out, rd_more (by omega) hx, HACC.out])
          go_wp2
          go_round
          case rel => exact ⟨3 + 1, acc', by omega, rfl, rfl, b0, HB2.out, HG.out⟩
          case measure => simp [intOf]; omega
      · have hacc : acc + x % 128 * 268435456 = acc' := HACC.out
        have al : acc < 268435456 := a1
        have hlt : (4 : Int) < (m : Int) := by omega
        clear a1
        by_cases hx : x < 128
        · by_cases hbad : (x = 0 ∧ 0 < 4) ∨ 1000000000000 < acc'
          · have HG := Lib.hid (show none = R by rw [← HRD.out, rd_bad (by omega) hx (by rw [HACC.out]; exact hbad)])
            have HBD := Lib.hid hbad; clear hbad
            by_cases hz : x = 0
            · subst hz
              go_wp2
              go_ret3
              exact ⟨by rw [HER.out, ← HG.out]; rfl, HB1.out⟩
            · have hmx : (1000000000000 : Int) < acc' := by have := HBD.out; omega
              exfalso; omega
          · have HG := Lib.hid (show some (acc', 4 + 1) = R by rw [← HRD.out, rd_good (by omega) hx (by rw [HACC.out]; exact hbad), HACC.out])
            have hmx : acc' ≤ 1000000000000 := by omega
            have hxn : ¬ x = 0 := by omega
            clear hbad
            go_wp2
            go_ret3
            exact ⟨by rw [HER.out, ← HG.out]; simp [uval, uv, un, ub]; omega, HB1.out⟩
        · have HG := Lib.hid (show rd (L.drop (4 + 1)) (4 + 1) acc' = R by rw [← HRD.out, rd_more (by omega) hx, HACC.out])
          go_wp2
          go_round
          case rel => exact ⟨4 + 1, acc', by omega, rfl, rfl, b0, HB2.out, HG.out⟩
          case measure => simp [intOf]; omega
      · have hacc : acc + x % 128 * 34359738368 = acc' := HACC.out
        have al : acc < 34359738368 := a1
        have hlt : (5 : Int) < (m : Int) := by omega
        clear a1
        by_cases hx : x < 128
        · by_cases hbad : (x = 0 ∧ 0 < 5) ∨ 1000000000000 < acc'
          · have HG := Lib.hid (show none = R by rw [← HRD.out, rd_bad (by omega) hx (by rw [HACC.out]; exact hbad)])
            have HBD := Lib.hid hbad; clear hbad
            by_cases hz : x = 0
            · subst hz
              go_wp2
              go_ret3
              exact ⟨by rw [HER.out, ← HG.out]; rfl, HB1.out⟩
            · have hmx : (1000000000000 : Int) < acc' := by have := HBD.out; omega
              go_wp2
              go_ret3
              exact ⟨by rw [HER.out, ← HG.out]; rfl, HB1.out⟩
          · have HG := Lib.hid (show some (acc', 5 + 1) = R by rw [← HRD.out, rd_good (by omega) hx (by rw [HACC.out]; exact hbad), HACC.out])
            have hmx : acc' ≤ 1000000000000 := by omega
            have hxn : ¬ x = 0 := by omega
            clear hbad
            go_wp2
            go_ret3
            exact ⟨by rw [HER.out, ← HG.out]; simp [uval, uv, un, ub]; omega, HB1.out⟩
        · have HG := Lib.hid (show rd (L.drop (5 + 1)) (5 + 1) acc' = R by rw [← HRD.out, rd_more (by omega) hx, HACC.out])
          go_wp2
          go_round
          case rel => exact ⟨5 + 1, acc', by omega, rfl, rfl, b0, HB2.out, HG.out⟩
          case measure => simp [intOf]; omega
  · have e1 : inB o 0 n = false := inB_no (by omega)
    have e : readU bs o = none := by unfold readU; rw [if_neg (by rw [HN.out]; omega)]
    have E := Lib.hid e; clear e
    go_enter Try.func16, Try.ntmps16
    go_wp2_with (go_at_call 50; refine (rin_any _ _ _ _).mono ?_; rintro e w' ⟨rfl, rfl⟩)
    go_ret3
    exact ⟨by rw [E.out]; rfl, Below.refl _ _⟩
end Go.Proofs.Ytemoegnijnhigaa
