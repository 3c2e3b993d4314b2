/- Helper contracts: ReadUvarint of the program and of the model give the same: the integer, the offset behind it, and whether there is one. Asked: the slice reads as the list named, of bytes. -/
import Derived.Test.YtemoegnijnhigaaTake
import Derived.Test.YtemoegnijnhigaaApp
namespace Go.Proofs.Ytemoegnijnhigaa
open Go.ChangeShapes Go.WideShapes Go.ChangeAt Go.RowKit

/-- The varint at the head of a list: k groups have been read, and they say acc. -/
def rd : List Int → Nat → Int → Option (Int × Nat)
  | [], _, _ => none
  | x :: l, k, acc => if 6 ≤ k then none else
      if x < 128 then (if (x = 0 ∧ 0 < k) ∨ 1000000000000 < acc + x % 128 * 128 ^ k then none else some (acc + x % 128 * 128 ^ k, k + 1)) else rd l (k + 1) (acc + x % 128 * 128 ^ k)
def readU (bs : List Int) (o : Int) : Option (Int × Nat) := if 0 ≤ o ∧ o ≤ bs.length then rd (bs.drop o.toNat) 0 0 else none
def uv : Option (Int × Nat) → Int | some (n, _) => n | none => 0
def un (o : Int) : Option (Int × Nat) → Int | some (_, k) => o + k | none => 0
def ub : Option (Int × Nat) → Bool | some _ => true | none => false
def uval (o : Int) (r : Option (Int × Nat)) : Value := .tuple #[.int .i64 (uv r), .int .i64 (un o r), .bool (ub r)]

theorem rd_stop (l : List Int) (k : Nat) (acc : Int) (h : 6 ≤ k) : rd l k acc = none := by
  cases l with
  | nil => rfl
  | cons x l => rw [rd, if_pos h]
theorem rd_more {x : Int} {l : List Int} {k : Nat} {acc : Int} (hk : k < 6) (hx : ¬ x < 128) : rd (x :: l) k acc = rd l (k + 1) (acc + x % 128 * 128 ^ k) := by
  rw [rd, if_neg (by omega), if_neg hx]
theorem rd_bad {x : Int} {l : List Int} {k : Nat} {acc : Int} (hk : k < 6) (hx : x < 128) (h : (x = 0 ∧ 0 < k) ∨ 1000000000000 < acc + x % 128 * 128 ^ k) : rd (x :: l) k acc = none := by
  rw [rd, if_neg (by omega), if_pos hx, if_pos h]
theorem rd_good {x : Int} {l : List Int} {k : Nat} {acc : Int} (hk : k < 6) (hx : x < 128) (h : ¬ ((x = 0 ∧ 0 < k) ∨ 1000000000000 < acc + x % 128 * 128 ^ k)) : rd (x :: l) k acc = some (acc + x % 128 * 128 ^ k, k + 1) := by
  rw [rd, if_neg (by omega), if_pos hx, if_neg h]
theorem drop_at {bs : List Int} {i : Nat} (h : i < bs.length) : bs.drop i = bs.getD i 0 :: bs.drop (i + 1) := by
  rw [List.drop_eq_getElem_cons h, List.getD_eq_getElem?_getD, List.getElem?_eq_getElem h]; rfl
theorem acc_step {acc x : Int} {k : Nat} (h0 : 0 ≤ acc) (h1 : acc < 128 ^ k) : 0 ≤ acc + x % 128 * 128 ^ k ∧ acc + x % 128 * 128 ^ k < 128 ^ (k + 1) := by
  have hp : (0 : Int) < 128 ^ k := Int.pow_pos (by omega)
  have m0 : 0 ≤ x % 128 := by omega
  have m1 : x % 128 ≤ 127 := by omega
  have a := Int.mul_nonneg m0 (Int.le_of_lt hp)
  have b := Int.mul_le_mul_of_nonneg_right m1 (Int.le_of_lt hp)
  rw [Int.pow_succ]
  omega
theorem or_step (k : Nat) (hk : k ≤ 5) {acc x : Int} (h0 : 0 ≤ acc) (h1 : acc < 128 ^ k) : bits .or .i64 acc (x % 128 * 128 ^ k) = acc + x % 128 * 128 ^ k := by
  have hs := acc_step (x := x) h0 h1
  have m0 : 0 ≤ x % 128 := by omega
  have hp : (0 : Int) < 128 ^ k := Int.pow_pos (by omega)
  have a := Int.mul_nonneg m0 (Int.le_of_lt hp)
  have e : (128 : Int) ^ k = 2 ^ (7 * k) := by rw [Int.pow_mul]; rfl
  have top : (128 : Int) ^ (k + 1) ≤ 2 ^ 62 := by
    have hk' : k = 0 ∨ k = 1 ∨ k = 2 ∨ k = 3 ∨ k = 4 ∨ k = 5 := by omega
    rcases hk' with rfl | rfl | rfl | rfl | rfl | rfl <;> decide
  refine Go.bits_join_low .i64 62 (by decide) wraps_i64 (7 * k) acc (x % 128 * 128 ^ k) h0 (by rw [← e]; exact h1) (by omega) a (by rw [← e]; exact Int.mul_emod_left _ _) (by omega)

def RdOut (bs : List Int) (o : Int) (w : World) (e : Ending) (w' : World) : Prop := e = .returned (uval o (readU bs o)) ∧ Below w.heap.size w w'

set_option maxHeartbeats 4000000 in
theorem specRead_any (v : Value) (hi : Nat) (bs : List Int) (o : Int) (w : World) (hr : Reads .u8 hi w v bs) (hb : Bytes bs) (o0 : -9223372036854775808 ≤ o) (o1 : o ≤ 9223372036854775807) (hl : bs.length ≤ 1099511627776) :
    Calls Try.prog 19 #[v, .int .i64 o] w (RdOut bs o w) := by
  obtain ⟨a, cap, rfl, h1, h2, -, hcells⟩ := hr
  have HC := Lib.hid hcells; have HB := Lib.hid hb; clear hcells hb
  obtain ⟨n, hn⟩ : ∃ n, bs.length = n := ⟨_, rfl⟩
  rw [hn] at h1 hl HC ⊢
  have HN := Lib.hid hn; clear hn
  by_cases hneg : o < 0
  · have e : readU bs o = none := by unfold readU; rw [if_neg (by omega)]
    have E := Lib.hid e; clear e
    go_enter Try.func19, Try.ntmps19
    go_wp2
    refine wp_loop_rounds 1 ?_
    rw [rounds_succ]
    go_wp2
    go_ret3
    exact ⟨by rw [E.out]; rfl, Below.refl _ _⟩
  · obtain ⟨p, rfl⟩ := Int.eq_ofNat_of_zero_le (show 0 ≤ o by omega)
    have hR : rd (bs.drop (p + 0)) 0 0 = readU bs p := by
      unfold readU
      by_cases hp : p ≤ bs.length
      · rw [if_pos ⟨by omega, by omega⟩]; rfl
      · rw [if_neg (by omega), Nat.add_zero, List.drop_eq_nil_of_le (by omega)]; rfl
    have HR := Lib.hid hR; clear hR hneg
    obtain ⟨R, eR⟩ : ∃ R, readU bs p = R := ⟨_, rfl⟩
    rw [eR] at HR
    have HER := Lib.hid eR; clear eR
    go_enter Try.func19, Try.ntmps19
    go_wp2
    go_loop [7, 8] (fun m i => ∃ (k : Nat) (acc : Int), k ≤ 6 ∧ i = .int .i64 k ∧ m = .int .i64 acc ∧ 0 ≤ acc ∧ acc < 128 ^ k ∧ rd (bs.drop (p + k)) k acc = R) (fun _ i => 6 - (intOf i).toNat)
    case atStart => exact ⟨0, 0, by omega, rfl, rfl, by omega, by decide, HR.out⟩
    case round =>
      obtain ⟨k, acc, hk, rfl, rfl, a0, a1, hrd⟩ := hrel
      by_cases hk6 : k = 6
      · subst hk6
        have hR6 := hrd
        rw [rd_stop _ _ _ (Nat.le_refl _)] at hR6
        have HR6 := Lib.hid hR6; clear hR6 hrd a1
        go_wp2
        go_ret3
        exact ⟨by rw [HER.out, ← HR6.out]; rfl, Below.refl _ _⟩
      by_cases hend : (n : Int) ≤ (p : Int) + (k : Int)
      · have hR6 := hrd
        rw [List.drop_eq_nil_of_le (by have := HN.out; omega)] at hR6
        have HR6 := Lib.hid hR6; clear hR6 hrd a1
        go_wp2
        go_ret3
        exact ⟨by rw [HER.out, ← HR6.out]; rfl, Below.refl _ _⟩
      rcases HC.out with h0 | ⟨g, off, rfl, hg, hcells⟩
      · omega
      have c1 := hcells (p + k) (by omega)
      obtain ⟨x0, x1⟩ := HB.out.at (p + k)
      rw [drop_at (by have := HN.out; omega)] at hrd
      obtain ⟨x, hx⟩ : ∃ x, bs.getD (p + k) 0 = x := ⟨_, rfl⟩
      rw [hx] at c1 x0 x1 hrd
      clear hcells hx
      obtain ⟨acc', hacc⟩ : ∃ acc', acc + x % 128 * 128 ^ k = acc' := ⟨_, rfl⟩
      have hbd := acc_step (x := x) a0 a1
      rw [hacc] at hbd
      obtain ⟨b0, b1⟩ := hbd
      have hor := or_step k (by omega) (x := x) a0 a1
      rw [hacc] at hor
      have top : acc' ≤ 4398046511104 := by
        have hp : (128 : Int) ^ (k + 1) ≤ 128 ^ 6 := by
          have hk' : k = 0 ∨ k = 1 ∨ k = 2 ∨ k = 3 ∨ k = 4 ∨ k = 5 := by omega
          rcases hk' with rfl | rfl | rfl | rfl | rfl | rfl <;> decide
        have : (128 : Int) ^ 6 = 4398046511104 := by decide
        omega
      have HRD := Lib.hid hrd; have HB1 := Lib.hid b1; have HACC := Lib.hid hacc; have HOR := Lib.hid hor
      have had : bits .and .i64 x 127 = x % 128 := and127 x
      clear hrd b1 hacc hor
      have hk' : k = 0 ∨ k = 1 ∨ k = 2 ∨ k = 3 ∨ k = 4 ∨ k = 5 := by omega
      rcases hk' with rfl | rfl | rfl | rfl | rfl | rfl
      · obtain rfl : acc = 0 := by have := a1; omega
        have hacc0 : acc' = x % 128 := by have h := HACC.out; rw [Int.pow_zero] at h; omega
        have hor : bits .or .i64 0 (x % 128) = acc' := by have h := HOR.out; rw [Int.pow_zero, Int.mul_one] at h; exact h
        rw [Nat.add_zero] at c1
        have HA0 := Lib.hid hacc0
        have hm : acc' ≤ 1000000000000 := by omega
        clear a1 hacc0
        by_cases hx : x < 128
        · have HG := Lib.hid (show some (acc', 0 + 1) = R by rw [← HRD.out, rd_good (by omega) hx (by rw [HACC.out]; omega), HACC.out])
          by_cases hz : x = 0
          · subst hz
            have hor0 : bits .or .i64 0 0 = 0 := by decide
            have ha : acc' = 0 := by have := HA0.out; omega
            subst ha
            clear hor
            go_wp2
            go_ret3
            exact ⟨by rw [HER.out, ← HG.out]; simp [uval, uv, un, ub], Below.refl _ _⟩
          · go_wp2
            go_ret3
            exact ⟨by rw [HER.out, ← HG.out]; simp [uval, uv, un, ub], Below.refl _ _⟩
        · have HG := Lib.hid (show rd (bs.drop (p + (0 + 1))) (0 + 1) acc' = R by rw [← HRD.out, rd_more (by omega) hx, HACC.out])
          go_wp2
          go_round
          case rel => exact ⟨0 + 1, acc', by omega, rfl, rfl, b0, HB1.out, HG.out⟩
          case measure => simp [intOf]
      · have hor : bits .or .i64 acc (x % 128 * 128) = acc' := HOR.out
        clear a1
        by_cases hx : x < 128
        · by_cases hbad : (x = 0 ∧ 0 < 1) ∨ 1000000000000 < acc'
          · have HG := Lib.hid (show none = R by rw [← HRD.out, rd_bad (by omega) hx (by rw [HACC.out]; exact hbad)])
            have HBD := Lib.hid hbad; clear hbad
            by_cases hz : x = 0
            · subst hz
              go_wp2
              go_ret3
              exact ⟨by rw [HER.out, ← HG.out]; rfl, Below.refl _ _⟩
            · have hm : (1000000000000 : Int) < acc' := by have := HBD.out; omega
              go_wp2
              go_ret3
              exact ⟨by rw [HER.out, ← HG.out]; rfl, Below.refl _ _⟩
          · have HG := Lib.hid (show some (acc', 1 + 1) = R by rw [← HRD.out, rd_good (by omega) hx (by rw [HACC.out]; exact hbad), HACC.out])
            have hm : acc' ≤ 1000000000000 := by omega
            have hxn : ¬ x = 0 := by omega
            clear hbad
            go_wp2
            go_ret3
            exact ⟨by rw [HER.out, ← HG.out]; simp [uval, uv, un, ub]; omega, Below.refl _ _⟩
        · have HG := Lib.hid (show rd (bs.drop (p + (1 + 1))) (1 + 1) acc' = R by rw [← HRD.out, rd_more (by omega) hx, HACC.out])
          go_wp2
          go_round
          case rel => exact ⟨1 + 1, acc', by omega, rfl, rfl, b0, HB1.out, HG.out⟩
          case measure => simp [intOf]
      · have hor : bits .or .i64 acc (x % 128 * 16384) = acc' := HOR.out
        clear a1
        by_cases hx : x < 128
        · by_cases hbad : (x = 0 ∧ 0 < 2) ∨ 1000000000000 < acc'
          · have HG := Lib.hid (show none = R by rw [← HRD.out, rd_bad (by omega) hx (by rw [HACC.out]; exact hbad)])
            have HBD := Lib.hid hbad; clear hbad
            by_cases hz : x = 0
            · subst hz
              go_wp2
              go_ret3
              exact ⟨by rw [HER.out, ← HG.out]; rfl, Below.refl _ _⟩
            · have hm : (1000000000000 : Int) < acc' := by have := HBD.out; omega
              go_wp2
              go_ret3
              exact ⟨by rw [HER.out, ← HG.out]; rfl, Below.refl _ _⟩
          · have HG := Lib.hid (show some (acc', 2 + 1) = R by rw [← HRD.out, rd_good (by omega) hx (by rw [HACC.out]; exact hbad), HACC.out])
            have hm : acc' ≤ 1000000000000 := by omega
            have hxn : ¬ x = 0 := by omega
            clear hbad
            go_wp2
            go_ret3
            exact ⟨by rw [HER.out, ← HG.out]; simp [uval, uv, un, ub]; omega, Below.refl _ _⟩
        · have HG := Lib.hid (show rd (bs.drop (p + (2 + 1))) (2 + 1) acc' = R by rw [← HRD.out, rd_more (by omega) hx, HACC.out])
          go_wp2
          go_round
          case rel => exact ⟨2 + 1, acc', by omega, rfl, rfl, b0, HB1.out, HG.out⟩
          case measure => simp [intOf]
      · have hor : bits .or .i64 acc (x % 128 * 2097152) = acc' := HOR.out
        clear a1
        by_cases hx : x < 128
        · by_cases hbad : (x = 0 ∧ 0 < 3) ∨ 1000000000000 < acc'
          · have HG := Lib.hid (show none = R by rw [← HRD.out, rd_bad (by omega) hx (by rw [HACC.out]; exact hbad)])
            have HBD := Lib.hid hbad; clear hbad
            by_cases hz : x = 0
            · subst hz
              go_wp2
              go_ret3
              exact ⟨by rw [HER.out, ← HG.out]; rfl, Below.refl _ _⟩
            · have hm : (1000000000000 : Int) < acc' := by have := HBD.out; omega
              go_wp2
              go_ret3
              exact ⟨by rw [HER.out, ← HG.out]; rfl, Below.refl _ _⟩
          · have HG := Lib.hid (show some (acc', 3 + 1) = R by rw [← HRD.out, rd_good (by omega) hx (by rw [HACC.out]; exact hbad), HACC.out])
            have hm : acc' ≤ 1000000000000 := by omega
            have hxn : ¬ x = 0 := by omega
            clear hbad
            go_wp2
            go_ret3
            exact ⟨by rw [HER.out, ← HG.out]; simp [uval, uv, un, ub]; omega, Below.refl _ _⟩
        · have HG := Lib.hid (show rd (bs.drop (p + (3 + 1))) (3 + 1) acc' = R by rw [← HRD.out, rd_more (by omega) hx, HACC.out])
          go_wp2
          go_round
          case rel => exact ⟨3 + 1, acc', by omega, rfl, rfl, b0, HB1.out, HG.out⟩
          case measure => simp [intOf]
      · have hor : bits .or .i64 acc (x % 128 * 268435456) = acc' := HOR.out
        clear a1
        by_cases hx : x < 128
        · by_cases hbad : (x = 0 ∧ 0 < 4) ∨ 1000000000000 < acc'
          · have HG := Lib.hid (show none = R by rw [← HRD.out, rd_bad (by omega) hx (by rw [HACC.out]; exact hbad)])
            have HBD := Lib.hid hbad; clear hbad
            by_cases hz : x = 0
            · subst hz
              go_wp2
              go_ret3
              exact ⟨by rw [HER.out, ← HG.out]; rfl, Below.refl _ _⟩
            · have hm : (1000000000000 : Int) < acc' := by have := HBD.out; omega
              go_wp2
              go_ret3
              exact ⟨by rw [HER.out, ← HG.out]; rfl, Below.refl _ _⟩
          · have HG := Lib.hid (show some (acc', 4 + 1) = R by rw [← HRD.out, rd_good (by omega) hx (by rw [HACC.out]; exact hbad), HACC.out])
            have hm : acc' ≤ 1000000000000 := by omega
            have hxn : ¬ x = 0 := by omega
            clear hbad
            go_wp2
            go_ret3
            exact ⟨by rw [HER.out, ← HG.out]; simp [uval, uv, un, ub]; omega, Below.refl _ _⟩
        · have HG := Lib.hid (show rd (bs.drop (p + (4 + 1))) (4 + 1) acc' = R by rw [← HRD.out, rd_more (by omega) hx, HACC.out])
          go_wp2
          go_round
          case rel => exact ⟨4 + 1, acc', by omega, rfl, rfl, b0, HB1.out, HG.out⟩
          case measure => simp [intOf]
      · have hor : bits .or .i64 acc (x % 128 * 34359738368) = acc' := HOR.out
        clear a1
        by_cases hx : x < 128
        · by_cases hbad : (x = 0 ∧ 0 < 5) ∨ 1000000000000 < acc'
          · have HG := Lib.hid (show none = R by rw [← HRD.out, rd_bad (by omega) hx (by rw [HACC.out]; exact hbad)])
            have HBD := Lib.hid hbad; clear hbad
            by_cases hz : x = 0
            · subst hz
              go_wp2
              go_ret3
              exact ⟨by rw [HER.out, ← HG.out]; rfl, Below.refl _ _⟩
            · have hm : (1000000000000 : Int) < acc' := by have := HBD.out; omega
              go_wp2
              go_ret3
              exact ⟨by rw [HER.out, ← HG.out]; rfl, Below.refl _ _⟩
          · have HG := Lib.hid (show some (acc', 5 + 1) = R by rw [← HRD.out, rd_good (by omega) hx (by rw [HACC.out]; exact hbad), HACC.out])
            have hm : acc' ≤ 1000000000000 := by omega
            have hxn : ¬ x = 0 := by omega
            clear hbad
            go_wp2
            go_ret3
            exact ⟨by rw [HER.out, ← HG.out]; simp [uval, uv, un, ub]; omega, Below.refl _ _⟩
        · have HG := Lib.hid (show rd (bs.drop (p + (5 + 1))) (5 + 1) acc' = R by rw [← HRD.out, rd_more (by omega) hx, HACC.out])
          go_wp2
          go_round
          case rel => exact ⟨5 + 1, acc', by omega, rfl, rfl, b0, HB1.out, HG.out⟩
          case measure => simp [intOf]
end Go.Proofs.Ytemoegnijnhigaa
