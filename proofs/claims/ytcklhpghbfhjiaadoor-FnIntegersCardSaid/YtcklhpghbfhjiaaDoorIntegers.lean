/- The law FnIntegers returns true for every input. Asked: the library's listed variables lie in memory as their initialisers lay them. Beside it helper contracts over CeilDiv, Mod and the draws of this law. -/
import Derived.Test.YtcklhpghbfhjiaaDoorParse
import Derived.Test.YtcklhpghbfhjiaaDoorDrawInt
import Derived.Deep.DeepCutAuto
import Derived.Test.YtcklhpghbfhjiaaDoorRowOf
namespace Go.Proofs.YtcklhpghbfhjiaaDoor
open Go.ChangeShapes Go.WideShapes Go.ChangeAt Go.RowKit

theorem ret_i {a b : Int} (h : a = b) : Ending.returned (.int .i64 a) = .returned (.int .i64 b) := by rw [h]
def cdivI (a b : Int) : Int := if 0 ≤ a ∧ a ≤ 1000000000000 ∧ 1 ≤ b ∧ b ≤ 1000000000000 then (a + b - 1) / b else 0

theorem cdiv_impl (a b : Int) (w : World) :
    Calls Tryd.prog 12 #[.int .i64 a, .int .i64 b] w fun e w' => e = .returned (.int .i64 (cdivI a b)) ∧ w = w' := by
  by_cases h1 : 0 ≤ a ∧ a ≤ 1000000000000
  · obtain ⟨h1, h2⟩ := h1
    have e1 : inB a 0 1000000000000 = true := inB_yes h1 h2
    by_cases h3 : 1 ≤ b ∧ b ≤ 1000000000000
    · obtain ⟨h3, h4⟩ := h3
      have e2 : inB b 1 1000000000000 = true := inB_yes h3 h4
      go_enter Tryd.func12, Tryd.ntmps12
      go_wp2_with (go_at_call 21; refine (rin_any _ _ _ _).mono ?_; rintro e w' ⟨rfl, rfl⟩)
      go_ret
      exact ⟨ret_i (by unfold cdivI; rw [if_pos ⟨h1, h2, h3, h4⟩]), rfl⟩
    · have e2 : inB b 1 1000000000000 = false := inB_no (by omega)
      go_enter Tryd.func12, Tryd.ntmps12
      go_wp2_with (go_at_call 21; refine (rin_any _ _ _ _).mono ?_; rintro e w' ⟨rfl, rfl⟩)
      go_ret
      exact ⟨ret_i (by unfold cdivI; rw [if_neg (by omega)]), rfl⟩
  · have e1 : inB a 0 1000000000000 = false := inB_no (by omega)
    go_enter Tryd.func12, Tryd.ntmps12
    go_wp2_with (go_at_call 21; refine (rin_any _ _ _ _).mono ?_; rintro e w' ⟨rfl, rfl⟩)
    go_ret
    exact ⟨ret_i (by unfold cdivI; rw [if_neg (by omega)]), rfl⟩

def modI (a b : Int) : Int := if 1 ≤ b ∧ b ≤ 1000000000000 then a % b else 0
theorem tmod_neg_lt {a b : Int} (hb : 1 ≤ b) (h : a.tmod b < 0) : a.tmod b + b = a % b := by
  have := Int.emod_eq_add_self_emod (a := a) (b := b)
  rw [Int.tmod_eq_emod] at *
  split at h <;> rename_i hc
  · have := Int.emod_nonneg a (b := b) (by omega); omega
  · rw [if_neg hc]; have : (b.natAbs : Int) = b := by omega
    omega
theorem tmod_nonneg_eq {a b : Int} (hb : 1 ≤ b) (h : ¬ a.tmod b < 0) : a.tmod b = a % b := by
  rw [Int.tmod_eq_emod] at *
  split <;> rename_i hc
  · omega
  · rw [if_neg hc] at h; have : (b.natAbs : Int) = b := by omega
    have := Int.emod_lt_of_pos a (b := b) (by omega); omega
theorem tmod_bd {a b : Int} (hb : 1 ≤ b) : -b < a.tmod b ∧ a.tmod b < b := by
  have h1 := Int.emod_lt_of_pos a (b := b) (by omega)
  have h2 := Int.emod_nonneg a (b := b) (by omega)
  rw [Int.tmod_eq_emod]
  have : (b.natAbs : Int) = b := by omega
  split <;> omega

theorem mod_impl (a b : Int) (w : World) :
    Calls Tryd.prog 13 #[.int .i64 a, .int .i64 b] w fun e w' => e = .returned (.int .i64 (modI a b)) ∧ w = w' := by
  by_cases h1 : 1 ≤ b ∧ b ≤ 1000000000000
  · obtain ⟨h1, h2⟩ := h1
    have e1 : inB b 1 1000000000000 = true := inB_yes h1 h2
    have em : modI a b = a % b := by unfold modI; rw [if_pos ⟨h1, h2⟩]
    have Em := Lib.hid em; clear em
    by_cases h3 : 0 ≤ a
    · have h4 := Int.emod_nonneg a (b := b) (by omega)
      have h5 := Int.emod_lt_of_pos a (b := b) (by omega)
      go_enter Tryd.func13, Tryd.ntmps13
      go_wp2_with (go_at_call 21; refine (rin_any _ _ _ _).mono ?_; rintro e w' ⟨rfl, rfl⟩)
      go_ret
      exact ⟨ret_i Em.out.symm, rfl⟩
    · have hb := tmod_bd (a := a) h1
      obtain ⟨hb1, hb2⟩ := hb
      by_cases h4 : a.tmod b < 0
      · have e2 := tmod_neg_lt h1 h4
        have E2 := Lib.hid e2; clear e2
        go_enter Tryd.func13, Tryd.ntmps13
        go_wp2_with (go_at_call 21; refine (rin_any _ _ _ _).mono ?_; rintro e w' ⟨rfl, rfl⟩)
        go_ret
        exact ⟨ret_i (by rw [Em.out, ← E2.out]), rfl⟩
      · have e2 := tmod_nonneg_eq h1 h4
        have E2 := Lib.hid e2; clear e2
        go_enter Tryd.func13, Tryd.ntmps13
        go_wp2_with (go_at_call 21; refine (rin_any _ _ _ _).mono ?_; rintro e w' ⟨rfl, rfl⟩)
        go_ret
        exact ⟨ret_i (by rw [Em.out, ← E2.out]), rfl⟩
  · have e1 : inB b 1 1000000000000 = false := inB_no (by omega)
    go_enter Tryd.func13, Tryd.ntmps13
    go_wp2_with (go_at_call 21; refine (rin_any _ _ _ _).mono ?_; rintro e w' ⟨rfl, rfl⟩)
    go_ret
    exact ⟨ret_i (by unfold modI; rw [if_neg h1]), rfl⟩


theorem CodeOk.later {w w' : World} {sv : Value} {len : Nat} (h : CodeOk w.heap.size w sv len) (k : Below w.heap.size w w') : CodeOk w'.heap.size w' sv len := by
  obtain ⟨a, cap, e, h1, h2⟩ := h
  refine ⟨a, cap, e, h1, ?_⟩
  rcases h2 with h2 | ⟨blk, off, e2, hb, hc⟩
  · exact Or.inl h2
  · have := k.size
    refine Or.inr ⟨blk, off, e2, by omega, fun j hj => ?_⟩
    obtain ⟨n, n0, n1, hn⟩ := hc j hj
    exact ⟨n, n0, n1, by rw [k.cell (by exact hb)]; exact hn⟩

def DrawnInt (w : World) (e : Ending) (w' : World) : Prop :=
  ∃ x : Int, e = .returned (.int .i64 x) ∧ -9223372036854775808 ≤ x ∧ x ≤ 9223372036854775807 ∧ Below w.heap.size w w'
def DrawnTwo (w : World) (e : Ending) (w' : World) : Prop :=
  ∃ x y : Int, e = .returned (.tuple #[.int .i64 x, .int .i64 y]) ∧ -9223372036854775808 ≤ x ∧ x ≤ 9223372036854775807 ∧ -9223372036854775808 ≤ y ∧ y ≤ 9223372036854775807 ∧ Below w.heap.size w w'
def DrawnStr (w : World) (e : Ending) (w' : World) : Prop :=
  ∃ s : ByteArray, e = .returned (.string s) ∧ s.size ≤ 100 ∧ Below w.heap.size w w'

theorem draw_int (sv : Value) (len : Nat) (w : World) (hc : CodeOk w.heap.size w sv len) :
    Calls Tryd.prog 9 #[sv] w (DrawnInt w) := by
  go_enter Tryd.func9, Tryd.ntmps9
  go_wp2_with fail
  refine (new_any sv len _ hc).mono ?_
  rintro e w1 ⟨rfl, hc1, hb1⟩
  have HC1 := Lib.hid hc1; have HB1 := Lib.hid hb1; clear hc1 hb1 hc
  go_wp2_with fail
  refine (one_any _ sv len _ HC1.out).mono ?_
  rintro e w2 ⟨x, rfl, x0, x1, hc2, hk2⟩
  have HK2 := Lib.hid hk2; clear hk2 hc2
  go_wp2_with fail
  go_ret
  exact ⟨x, rfl, x0, x1, HB1.out.trans (HK2.out.below HB1.out.size)⟩

theorem draw_two (sv : Value) (len : Nat) (w : World) (hc : CodeOk w.heap.size w sv len) :
    Calls Tryd.prog 11 #[sv] w (DrawnTwo w) := by
  go_enter Tryd.func11, Tryd.ntmps11
  go_wp2_with fail
  refine (new_any sv len _ hc).mono ?_
  rintro e w1 ⟨rfl, hc1, hb1⟩
  have HC1 := Lib.hid hc1; have HB1 := Lib.hid hb1; clear hc1 hb1 hc
  go_wp2_with fail
  refine (one_any _ sv len _ HC1.out).mono ?_
  rintro e w2 ⟨x, rfl, x0, x1, hc2, hk2⟩
  have HK2 := Lib.hid hk2; have HC2 := Lib.hid hc2; clear hk2 hc2
  go_wp2_with fail
  refine (one_any _ sv len _ HC2.out).mono ?_
  rintro e w3 ⟨y, rfl, y0, y1, hc3, hk3⟩
  have HK3 := Lib.hid hk3; clear hk3 hc3
  go_wp2_with fail
  go_ret2
  exact ⟨x, y, rfl, x0, x1, y0, y1, HB1.out.trans ((HK2.out.trans HK3.out).below HB1.out.size)⟩

theorem fmtS_len {n : Int} (h0 : -9223372036854775808 ≤ n) (h1 : n ≤ 9223372036854775807) : (fmtS n).size ≤ 100 := by
  have e : (fmtS n).size = (Lib.itoa n).length := by unfold fmtS; rw [ByteArray.size]; simp
  rw [e]; unfold Lib.itoa
  split
  · have := dec_len n.natAbs (by omega); simp; omega
  · have := dec_len n.toNat (by omega); omega
set_option maxHeartbeats 1000000 in
theorem draw_str (sv : Value) (len : Nat) (w : World) (hc : CodeOk w.heap.size w sv len) :
    Calls Tryd.prog 7 #[sv] w (DrawnStr w) := by
  go_enter Tryd.func7, Tryd.ntmps7
  go_wp2_with fail
  refine (new_any sv len _ hc).mono ?_
  rintro e w1 ⟨rfl, hc1, hb1⟩
  have HC1 := Lib.hid hc1; have HB1 := Lib.hid hb1; clear hc1 hb1 hc
  go_wp2_with fail
  refine (once_any _ sv len 2 _ HC1.out).mono ?_
  rintro e w2 ⟨x, rfl, hc2, hk2⟩
  have HK2 := Lib.hid hk2; have HC2 := Lib.hid hc2; clear hk2 hc2
  cases x
  · go_wp2_with fail
    refine (num_any _ sv len _ HC2.out).mono ?_
    rintro e w3 ⟨v, rfl, v0, v1, hc3, hk3⟩
    have HK3 := Lib.hid hk3; clear hk3 hc3
    go_wp2_with fail
    refine (fmt_spec v v0 v1 _).mono ?_
    rintro e w4 ⟨rfl, hb4⟩
    have HB4 := Lib.hid hb4; clear hb4
    go_wp2_with fail
    go_ret
    exact ⟨fmtS v, rfl, fmtS_len v0 v1, (HB1.out.trans ((HK2.out.trans HK3.out).below HB1.out.size)).trans (HB4.out.mono (Nat.le_trans HB1.out.size (Nat.le_trans HK2.out.size HK3.out.size)))⟩
  · go_wp2_with fail
    refine (str_any _ sv len _ 11 11 _ (HC2.out.alloc _) (by have := (HC2.out).lt; omega) (by omega) (by omega) ?_).mono ?_
    · exact cells_str _ _ _ _ (by rfl) (by kernel_rfl)
    rintro e w3 ⟨s, rfl, s1, hc3, hk3⟩
    have HK3 := Lib.hid hk3; clear hk3 hc3
    go_wp2_with fail
    go_ret
    exact ⟨s, rfl, s1, HB1.out.trans ((HK2.out.trans ((Kept.alloc _ w2 _).trans HK3.out)).below HB1.out.size)⟩

/-- What ParseInt returns, part by part. -/
def pv (o : Option Nat) : Int := match o with | some k => k | none => 0
def pb (o : Option Nat) : Bool := match o with | some _ => true | none => false
theorem parsed_eq (o : Option Nat) : parsed o = .tuple #[.int .i64 (pv o), .bool (pb o)] := by cases o <;> rfl
theorem numOf_itoa (m : Int) : numOf (Lib.itoa m) = if 0 ≤ m ∧ m ≤ 1000000000000 then some m.toNat else none := by
  by_cases h : m < 0
  · rw [if_neg (by omega)]
    unfold Lib.itoa
    rw [if_pos h]
    exact numOf_byte (j := 0) (b := 45) rfl (by decide)
  · have e : Lib.itoa m = Lib.decDigits m.toNat := by unfold Lib.itoa; rw [if_neg h]
    rw [e]
    by_cases h2 : m ≤ 1000000000000
    · rw [if_pos ⟨by omega, h2⟩]; exact numOf_dec (by omega)
    · rw [if_neg (by omega)]
      exact numOf_val (decFrom_dec _) (Or.inl (by omega))

theorem big_yes (a : Option Addr) (len cap : Nat) (w : World) (h : (1048576 : Int) < (len : Int)) :
    Calls Tryd.prog 6 #[.slice a len cap] w fun e w' => e = .returned (.bool true) ∧ w = w' := by
  go_enter Tryd.func6, Tryd.ntmps6
  go_wp2
  go_ret
  exact ⟨rfl, rfl⟩
theorem big_no (a : Option Addr) (len cap : Nat) (w : World) (h : ¬ (1048576 : Int) < (len : Int)) :
    Calls Tryd.prog 6 #[.slice a len cap] w fun e w' => e = .returned (.bool false) ∧ w = w' := by
  go_enter Tryd.func6, Tryd.ntmps6
  go_wp2
  go_ret
  exact ⟨rfl, rfl⟩

theorem integers_big (a : Option Addr) (len cap : Nat) (w : World) (h : (1048576 : Int) < (len : Int)) :
    Calls Tryd.prog 3 #[.slice a len cap] w fun e w' => e = .returned (.bool true) ∧ Below w.heap.size w w' := by
  go_enter Tryd.func3, Tryd.ntmps3
  go_wp2_with (go_at_call 6; refine (big_yes _ _ _ _ h).mono ?_; rintro e w' ⟨rfl, rfl⟩)
  go_ret
  exact ⟨rfl, Below.refl _ _⟩

theorem ceil_facts {a b : Int} (hb : 1 ≤ b) : a ≤ (a + b - 1) / b * b ∧ (a + b - 1) / b * b - a < b := by
  have h1 := Int.mul_ediv_add_emod (a + b - 1) b
  have h2 := Int.emod_nonneg (a + b - 1) (show b ≠ 0 by omega)
  have h3 := Int.emod_lt_of_pos (a + b - 1) (show 0 < b by omega)
  rw [Int.mul_comm] at h1
  omega
theorem tmod_facts {a b : Int} (ha : a < 0) (hb : 1 ≤ b) : (a.tmod b = 0 ∧ a % b = 0) ∨ (a.tmod b < 0 ∧ a.tmod b - a % b = -b) := by
  have h1 := Int.emod_lt_of_pos a (b := b) (by omega)
  have h2 := Int.emod_nonneg a (b := b) (by omega)
  rw [Int.tmod_eq_emod]
  have hn : (b.natAbs : Int) = b := by omega
  by_cases hd : 0 ≤ a ∨ b ∣ a
  · rw [if_pos hd]
    rcases hd with hd | hd
    · exact absurd ha (by omega)
    · have e := Int.emod_eq_zero_of_dvd hd
      exact Or.inl ⟨by rw [e]; omega, e⟩
  · rw [if_neg hd]
    refine Or.inr ⟨by omega, by omega⟩

set_option maxRecDepth 100000 in
set_option maxHeartbeats 4000000 in
theorem walkIntegers (a0 : Option Addr) (cap : Nat) (len : Nat) (w : World) (hL : Laid w) (hc : CodeOk w.heap.size w (.slice a0 len cap) len) :
    Calls Tryd.prog 3 #[.slice a0 len cap] w fun e w' => e = .returned (.bool true) ∧ Below w.heap.size w w' := by
  have hlen : ¬ (1048576 : Int) < (len : Int) := by obtain ⟨_, _, _, h, _⟩ := hc; omega
  have HL := Lib.hid hL; have HC := Lib.hid hc; clear hL hc
  go_enter Tryd.func3, Tryd.ntmps3
  go_wp2_with (go_at_call 6; refine (big_no _ _ _ _ hlen).mono ?_; rintro e w' ⟨rfl, rfl⟩)
  refine (draw_str _ len _ HC.out).mono ?_
  rintro e w1 ⟨s, rfl, s1, hb1⟩
  have HB1 := Lib.hid hb1; clear hb1
  go_wp2_with fail
  refine (parse_impl s (by omega) _ (laid_on HL.out HB1.out)).mono ?_
  rintro e w2 ⟨he2, hb2⟩
  rw [parsed_eq] at he2
  subst he2
  have HB2 := Lib.hid (HB1.out.trans (hb2.mono HB1.out.size)); clear hb2
  go_wp2_with fail
  refine (draw_int _ len _ (HC.out.later HB2.out)).mono ?_
  rintro e w3 ⟨m, rfl, m0, m1, hb3⟩
  have HB3 := Lib.hid (HB2.out.trans (hb3.mono HB2.out.size)); clear hb3
  go_wp2_with fail
  refine (fmt_impl m m0 m1 _ (laid_on HL.out HB3.out).tab).mono ?_
  rintro e w4 ⟨rfl, hb4⟩
  have HB4 := Lib.hid (HB3.out.trans (hb4.mono HB3.out.size)); clear hb4
  go_wp2_with fail
  refine (parse_impl (fmtS m) (by have := fmtS_len m0 m1; omega) _ (laid_on HL.out HB4.out)).mono ?_
  rintro e w5 ⟨he5, hb5⟩
  rw [parsed_eq, show (fmtS m).data.toList = Lib.itoa m from rfl] at he5
  subst he5
  have HB5 := Lib.hid (HB4.out.trans (hb5.mono HB4.out.size)); clear hb5
  go_wp2_with fail
  refine (draw_two _ len _ (HC.out.later HB5.out)).mono ?_
  rintro e w6 ⟨a, b, rfl, ax, ay, bx, by0, hb6⟩
  have HB6 := Lib.hid (HB5.out.trans (hb6.mono HB5.out.size)); clear hb6
  go_wp2_with fail
  refine (cdiv_impl a b _).mono ?_
  rintro e w7 ⟨rfl, rfl⟩
  go_wp2_with fail
  refine (mod_impl a b _).mono ?_
  rintro e w7 ⟨rfl, rfl⟩
  clear HB1 HB2 HB3 HB4 HB5
  obtain ⟨n1, hn1⟩ : ∃ x, pv (numOf s.data.toList) = x := ⟨_, rfl⟩
  obtain ⟨b1, hp1⟩ : ∃ x, pb (numOf s.data.toList) = x := ⟨_, rfl⟩
  obtain ⟨n2, hn2⟩ : ∃ x, pv (numOf (Lib.itoa m)) = x := ⟨_, rfl⟩
  obtain ⟨b2, hp2⟩ : ∃ x, pb (numOf (Lib.itoa m)) = x := ⟨_, rfl⟩
  rw [hn1, hp1, hn2, hp2]
  have HN1 := Lib.hid hn1; have HP1 := Lib.hid hp1; have HN2 := Lib.hid hn2; have HP2 := Lib.hid hp2
  clear hn1 hp1 hn2 hp2
  go_upto_region 10 with (fail)
  go_cut [65] (fun v wx => v = .bool false ∧ Below w.heap.size w wx)
  case first =>
    have hn1 := HN1.out; have hp1 := HP1.out; have hn2 := HN2.out; have hp2 := HP2.out
    clear HN1 HP1 HN2 HP2
    cases ho1 : numOf s.data.toList with
    | none =>
      rw [ho1] at hp1
      obtain rfl : b1 = false := hp1.symm
      clear ho1 hn1 hp1
      by_cases hm : 0 ≤ m ∧ m ≤ 1000000000000
      · rw [numOf_itoa, if_pos hm] at hn2 hp2
        obtain ⟨hm1, hm2⟩ := hm
        obtain rfl : n2 = m := by rw [← hn2]; show (m.toNat : Int) = m; omega
        obtain rfl : b2 = true := hp2.symm
        clear hn2 hp2
        go_wp2_with fail
        go_meet
        exact ⟨rfl, HB6.out⟩
      · rw [numOf_itoa, if_neg hm] at hn2 hp2
        obtain rfl : b2 = false := hp2.symm
        clear hn2 hp2
        by_cases hm0 : 0 ≤ m
        · have hm3 : decide (m ≤ 1000000000000) = false := decide_eq_false (by omega)
          clear hm
          go_wp2_with fail
          go_meet
          exact ⟨rfl, HB6.out⟩
        · have hm3 : decide (0 ≤ m) = false := decide_eq_false hm0
          clear hm
          go_wp2_with fail
          go_meet
          exact ⟨rfl, HB6.out⟩
    | some k =>
      rw [ho1] at hp1 hn1
      obtain rfl : b1 = true := hp1.symm
      obtain rfl : n1 = (k : Int) := hn1.symm
      obtain ⟨hk, hks⟩ := numOf_some ho1
      have hfs : ((fmtS k).toList == s.toList) = true := by
        have e9 : fmtS k = s := by
          unfold fmtS; rw [Lib.itoa, if_neg (by omega), Int.toNat_natCast]; exact str_eq.2 hks.symm
        rw [e9]; exact beq_self_eq_true _
      clear ho1 hks hn1 hp1
      by_cases hm : 0 ≤ m ∧ m ≤ 1000000000000
      · rw [numOf_itoa, if_pos hm] at hn2 hp2
        obtain ⟨hm1, hm2⟩ := hm
        obtain rfl : n2 = m := by rw [← hn2]; show (m.toNat : Int) = m; omega
        obtain rfl : b2 = true := hp2.symm
        clear hn2 hp2
        go_wp2_with fail
        refine (fmt_impl k (by omega) (by omega) _ (laid_on HL.out HB6.out).tab).mono ?_
        rintro e w7 ⟨rfl, hb7⟩
        have HB7 := Lib.hid (HB6.out.trans (hb7.mono HB6.out.size)); clear hb7
        go_wp2_with fail
        go_meet
        exact ⟨rfl, HB7.out⟩
      · rw [numOf_itoa, if_neg hm] at hn2 hp2
        obtain rfl : b2 = false := hp2.symm
        clear hn2 hp2
        by_cases hm0 : 0 ≤ m
        · have hm3 : decide (m ≤ 1000000000000) = false := decide_eq_false (by omega)
          clear hm
          go_wp2_with fail
          refine (fmt_impl k (by omega) (by omega) _ (laid_on HL.out HB6.out).tab).mono ?_
          rintro e w7 ⟨rfl, hb7⟩
          have HB7 := Lib.hid (HB6.out.trans (hb7.mono HB6.out.size)); clear hb7
          go_wp2_with fail
          go_meet
          exact ⟨rfl, HB7.out⟩
        · have hm3 : decide (0 ≤ m) = false := decide_eq_false hm0
          clear hm
          go_wp2_with fail
          refine (fmt_impl k (by omega) (by omega) _ (laid_on HL.out HB6.out).tab).mono ?_
          rintro e w7 ⟨rfl, hb7⟩
          have HB7 := Lib.hid (HB6.out.trans (hb7.mono HB6.out.size)); clear hb7
          go_wp2_with fail
          go_meet
          exact ⟨rfl, HB7.out⟩
  case rest =>
    obtain ⟨rfl, hb⟩ := hcut
    have HBC := Lib.hid hb; clear hb HB6 HN1 HP1 HN2 HP2
    by_cases hb0 : 1 ≤ b ∧ b ≤ 1000000000000
    · have em : modI a b = a % b := by unfold modI; rw [if_pos hb0]
      obtain ⟨hb1, hb2⟩ := hb0
      have r0 := Int.emod_nonneg a (b := b) (by omega)
      have r1 := Int.emod_lt_of_pos a (b := b) (by omega)
      have hb3 : decide (b < 1) = false := decide_eq_false (by omega)
      rw [em]
      clear em
      by_cases ha : 0 ≤ a
      · by_cases ha2 : a ≤ 1000000000000
        · have eq : cdivI a b = (a + b - 1) / b := by unfold cdivI; rw [if_pos ⟨ha, ha2, hb1, hb2⟩]
          obtain ⟨q1, q2⟩ := ceil_facts (a := a) hb1
          rw [eq]
          clear eq
          obtain ⟨q, hq⟩ : ∃ q, (a + b - 1) / b = q := ⟨_, rfl⟩
          rw [hq] at q1 q2 ⊢
          clear hq
          go_wp2_with fail
          go_ret
          exact ⟨rfl, HBC.out⟩
        · have eq : cdivI a b = 0 := by unfold cdivI; rw [if_neg (by omega)]
          rw [eq]
          clear eq
          go_wp2_with fail
          go_ret
          exact ⟨rfl, HBC.out⟩
      · have eq : cdivI a b = 0 := by unfold cdivI; rw [if_neg (by omega)]
        rw [eq]
        clear eq
        have ht := tmod_facts (show a < 0 by omega) hb1
        obtain ⟨t, et⟩ : ∃ t, a.tmod b = t := ⟨_, rfl⟩
        obtain ⟨r, er⟩ : ∃ r, a % b = r := ⟨_, rfl⟩
        rw [et, er] at ht
        rw [er] at r0 r1 ⊢
        clear er
        rcases ht with ⟨rfl, rfl⟩ | ⟨ht1, ht2⟩
        · go_wp2_with fail
          go_ret
          exact ⟨rfl, HBC.out⟩
        · go_wp2_with fail
          go_ret
          exact ⟨rfl, HBC.out⟩
    · have em : modI a b = 0 := by unfold modI; rw [if_neg hb0]
      have eq : cdivI a b = 0 := by unfold cdivI; rw [if_neg (by omega)]
      rw [em, eq]
      clear em eq
      by_cases hb1 : b < 1
      · go_wp2_with fail
        go_ret
        exact ⟨rfl, HBC.out⟩
      · have hb3 : decide (b < 1) = false := decide_eq_false hb1
        have hb4 : (1000000000000 : Int) < b := by omega
        clear hb0
        go_wp2_with fail
        go_ret
        exact ⟨rfl, HBC.out⟩

theorem integers_all (a : Option Addr) (len cap : Nat) (zs : List Int) (w : World) (hL : Laid w) (h : IsRow .u8 w a len cap zs) :
    Calls Tryd.prog 3 #[.slice a len cap] w fun e w' => e = .returned (.bool true) ∧ Below w.heap.size w w' := by
  by_cases hb : (1048576 : Int) < (len : Int)
  · exact integers_big a len cap w hb
  · exact walkIntegers a cap len w hL (code_of_row h (by omega))
end Go.Proofs.YtcklhpghbfhjiaaDoor
