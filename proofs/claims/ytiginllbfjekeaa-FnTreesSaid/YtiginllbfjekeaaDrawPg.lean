/- The draw of a page of at most 10, 6 or 3 pieces. -/
import Derived.Test.YtiginllbfjekeaaDrawT
namespace Go.Proofs.Ytiginllbfjekeaa
open Go.ChangeShapes Go.WideShapes Go.ChangeAt Go.RowKit

set_option maxRecDepth 100000 in
set_option maxHeartbeats 2000000 in
theorem page10_any (b : Nat) (sv : Value) (len : Nat) (w : World) (hc : Cur b sv len w) :
    Calls Try.prog 24 #[.pointer (some ⟨b, 0, none⟩), .int .i64 10] w (StrP Pg b sv len w) := by
  have HC := Lib.hid hc; clear hc
  go_enter Try.func24, Try.ntmps24
  go_wp2_with fail
  refine (below_any b sv len 11 _ HC.out).mono ?_
  rintro e w1 ⟨x, rfl, hx0, hx1, hx2, hc1, ho1⟩
  have hx3 := hx1 (by omega)
  obtain ⟨m, rfl⟩ := Int.eq_ofNat_of_zero_le hx0
  have hm : m ≤ 10 := by omega
  have HC1 := Lib.hid hc1; have HO1 := Lib.hid ho1.kept; clear hc1 ho1 hx1 hx2 hx0 hx3
  go_wp2_with fail
  go_loopw [5, 6] (fun s i wr => ∃ (k : Nat) (S : ByteArray), k ≤ 10 ∧ i = .int .i64 k ∧ s = .string S ∧ S.size + 500 * k ≤ 5000 ∧ Cur b sv len wr ∧ Kept b w wr) (fun _ i _ => (intOf i).toNat)
  case atStart => exact ⟨m, ⟨#[]⟩, hm, rfl, rfl, by show 0 + 500 * m ≤ 5000; omega, HC1.out, HO1.out⟩
  case round =>
    obtain ⟨k, S, hk, rfl, rfl, hS, hcu, hke⟩ := hrel
    have HCU := Lib.hid hcu; have HK := Lib.hid hke
    clear hcu hke HC1 HO1
    by_cases hlt : (0 : Int) < (k : Int)
    · go_wp2_with fail
      refine (once_any b sv len 3 _ HCU.out).mono ?_
      rintro e w2 ⟨t, rfl, hc2, ho2⟩
      have HC2 := Lib.hid hc2; have HO2 := Lib.hid (HK.out.trans ho2); have HL2 := Lib.hid hc2.lt
      clear hc2 ho2
      cases t with
      | true =>
        go_wp2_with fail
        refine (str_any b sv len _ 5 5 _ (HC2.out.alloc _) (by have := HL2.out; omega) (by omega) (by omega) ?_).mono ?_
        · exact cells_str _ _ _ _ (by rfl) (by kernel_rfl)
        rintro e w3 ⟨s, rfl, hs, hc3, ho3⟩
        have HC3 := Lib.hid hc3; have HO3 := Lib.hid (HO2.out.trans ((Kept.alloc b w2 _).trans ho3))
        clear hc3 ho3
        go_wp2
        go_roundw
        case rel => exact ⟨k - 1, _, by omega, by go_num, rfl, by rw [size_app]; omega, HC3.out, HO3.out⟩
        case measure => simp [intOf] <;> omega
      | false =>
        go_wp2_with fail
        refine (tag_any b sv len _ HC2.out).mono ?_
        rintro e w3 ⟨s, rfl, hs, hc3, ho3⟩
        have hsz := hs.1
        have HC3 := Lib.hid hc3; have HO3 := Lib.hid (HO2.out.trans ho3)
        clear hc3 ho3 hs
        go_wp2
        go_roundw
        case rel => exact ⟨k - 1, _, by omega, by go_num, rfl, by rw [size_app, size_app, size_app]; show S.size + 1 + s.size + 1 + _ ≤ _; omega, HC3.out, HO3.out⟩
        case measure => simp [intOf] <;> omega
    · go_wp2_with fail
      refine (once_any b sv len 6 _ HCU.out).mono ?_
      rintro e w2 ⟨t, rfl, hc2, ho2⟩
      have HC2 := Lib.hid hc2; have HO2 := Lib.hid (HK.out.trans ho2); have HL2 := Lib.hid hc2.lt
      clear hc2 ho2
      cases t with
      | true =>
        go_wp2_with fail
        refine (str_any b sv len _ 3 3 _ (HC2.out.alloc _) (by have := HL2.out; omega) (by omega) (by omega) ?_).mono ?_
        · exact cells_str _ _ _ _ (by rfl) (by kernel_rfl)
        rintro e w3 ⟨s, rfl, hs, hc3, ho3⟩
        have HC3 := Lib.hid hc3; have HO3 := Lib.hid (HO2.out.trans ((Kept.alloc b w2 _).trans ho3))
        clear hc3 ho3
        go_wp2_with fail
        go_ret
        exact ⟨_, rfl, by show (S ++ s).size ≤ 6000; rw [size_app]; omega, HC3.out, HO3.out⟩
      | false =>
        go_wp2_with fail
        go_ret
        exact ⟨_, rfl, by show S.size ≤ 6000; omega, HC2.out, HO2.out⟩

set_option maxRecDepth 100000 in
set_option maxHeartbeats 2000000 in
theorem page6_any (b : Nat) (sv : Value) (len : Nat) (w : World) (hc : Cur b sv len w) :
    Calls Try.prog 24 #[.pointer (some ⟨b, 0, none⟩), .int .i64 6] w (StrP Pg b sv len w) := by
  have HC := Lib.hid hc; clear hc
  go_enter Try.func24, Try.ntmps24
  go_wp2_with fail
  refine (below_any b sv len 7 _ HC.out).mono ?_
  rintro e w1 ⟨x, rfl, hx0, hx1, hx2, hc1, ho1⟩
  have hx3 := hx1 (by omega)
  obtain ⟨m, rfl⟩ := Int.eq_ofNat_of_zero_le hx0
  have hm : m ≤ 6 := by omega
  have HC1 := Lib.hid hc1; have HO1 := Lib.hid ho1.kept; clear hc1 ho1 hx1 hx2 hx0 hx3
  go_wp2_with fail
  go_loopw [5, 6] (fun s i wr => ∃ (k : Nat) (S : ByteArray), k ≤ 6 ∧ i = .int .i64 k ∧ s = .string S ∧ S.size + 500 * k ≤ 3000 ∧ Cur b sv len wr ∧ Kept b w wr) (fun _ i _ => (intOf i).toNat)
  case atStart => exact ⟨m, ⟨#[]⟩, hm, rfl, rfl, by show 0 + 500 * m ≤ 3000; omega, HC1.out, HO1.out⟩
  case round =>
    obtain ⟨k, S, hk, rfl, rfl, hS, hcu, hke⟩ := hrel
    have HCU := Lib.hid hcu; have HK := Lib.hid hke
    clear hcu hke HC1 HO1
    by_cases hlt : (0 : Int) < (k : Int)
    · go_wp2_with fail
      refine (once_any b sv len 3 _ HCU.out).mono ?_
      rintro e w2 ⟨t, rfl, hc2, ho2⟩
      have HC2 := Lib.hid hc2; have HO2 := Lib.hid (HK.out.trans ho2); have HL2 := Lib.hid hc2.lt
      clear hc2 ho2
      cases t with
      | true =>
        go_wp2_with fail
        refine (str_any b sv len _ 5 5 _ (HC2.out.alloc _) (by have := HL2.out; omega) (by omega) (by omega) ?_).mono ?_
        · exact cells_str _ _ _ _ (by rfl) (by kernel_rfl)
        rintro e w3 ⟨s, rfl, hs, hc3, ho3⟩
        have HC3 := Lib.hid hc3; have HO3 := Lib.hid (HO2.out.trans ((Kept.alloc b w2 _).trans ho3))
        clear hc3 ho3
        go_wp2
        go_roundw
        case rel => exact ⟨k - 1, _, by omega, by go_num, rfl, by rw [size_app]; omega, HC3.out, HO3.out⟩
        case measure => simp [intOf] <;> omega
      | false =>
        go_wp2_with fail
        refine (tag_any b sv len _ HC2.out).mono ?_
        rintro e w3 ⟨s, rfl, hs, hc3, ho3⟩
        have hsz := hs.1
        have HC3 := Lib.hid hc3; have HO3 := Lib.hid (HO2.out.trans ho3)
        clear hc3 ho3 hs
        go_wp2
        go_roundw
        case rel => exact ⟨k - 1, _, by omega, by go_num, rfl, by rw [size_app, size_app, size_app]; show S.size + 1 + s.size + 1 + _ ≤ _; omega, HC3.out, HO3.out⟩
        case measure => simp [intOf] <;> omega
    · go_wp2_with fail
      refine (once_any b sv len 6 _ HCU.out).mono ?_
      rintro e w2 ⟨t, rfl, hc2, ho2⟩
      have HC2 := Lib.hid hc2; have HO2 := Lib.hid (HK.out.trans ho2); have HL2 := Lib.hid hc2.lt
      clear hc2 ho2
      cases t with
      | true =>
        go_wp2_with fail
        refine (str_any b sv len _ 3 3 _ (HC2.out.alloc _) (by have := HL2.out; omega) (by omega) (by omega) ?_).mono ?_
        · exact cells_str _ _ _ _ (by rfl) (by kernel_rfl)
        rintro e w3 ⟨s, rfl, hs, hc3, ho3⟩
        have HC3 := Lib.hid hc3; have HO3 := Lib.hid (HO2.out.trans ((Kept.alloc b w2 _).trans ho3))
        clear hc3 ho3
        go_wp2_with fail
        go_ret
        exact ⟨_, rfl, by show (S ++ s).size ≤ 6000; rw [size_app]; omega, HC3.out, HO3.out⟩
      | false =>
        go_wp2_with fail
        go_ret
        exact ⟨_, rfl, by show S.size ≤ 6000; omega, HC2.out, HO2.out⟩

set_option maxRecDepth 100000 in
set_option maxHeartbeats 2000000 in
theorem page3_any (b : Nat) (sv : Value) (len : Nat) (w : World) (hc : Cur b sv len w) :
    Calls Try.prog 24 #[.pointer (some ⟨b, 0, none⟩), .int .i64 3] w (StrP Pg b sv len w) := by
  have HC := Lib.hid hc; clear hc
  go_enter Try.func24, Try.ntmps24
  go_wp2_with fail
  refine (below_any b sv len 4 _ HC.out).mono ?_
  rintro e w1 ⟨x, rfl, hx0, hx1, hx2, hc1, ho1⟩
  have hx3 := hx1 (by omega)
  obtain ⟨m, rfl⟩ := Int.eq_ofNat_of_zero_le hx0
  have hm : m ≤ 3 := by omega
  have HC1 := Lib.hid hc1; have HO1 := Lib.hid ho1.kept; clear hc1 ho1 hx1 hx2 hx0 hx3
  go_wp2_with fail
  go_loopw [5, 6] (fun s i wr => ∃ (k : Nat) (S : ByteArray), k ≤ 3 ∧ i = .int .i64 k ∧ s = .string S ∧ S.size + 500 * k ≤ 1500 ∧ Cur b sv len wr ∧ Kept b w wr) (fun _ i _ => (intOf i).toNat)
  case atStart => exact ⟨m, ⟨#[]⟩, hm, rfl, rfl, by show 0 + 500 * m ≤ 1500; omega, HC1.out, HO1.out⟩
  case round =>
    obtain ⟨k, S, hk, rfl, rfl, hS, hcu, hke⟩ := hrel
    have HCU := Lib.hid hcu; have HK := Lib.hid hke
    clear hcu hke HC1 HO1
    by_cases hlt : (0 : Int) < (k : Int)
    · go_wp2_with fail
      refine (once_any b sv len 3 _ HCU.out).mono ?_
      rintro e w2 ⟨t, rfl, hc2, ho2⟩
      have HC2 := Lib.hid hc2; have HO2 := Lib.hid (HK.out.trans ho2); have HL2 := Lib.hid hc2.lt
      clear hc2 ho2
      cases t with
      | true =>
        go_wp2_with fail
        refine (str_any b sv len _ 5 5 _ (HC2.out.alloc _) (by have := HL2.out; omega) (by omega) (by omega) ?_).mono ?_
        · exact cells_str _ _ _ _ (by rfl) (by kernel_rfl)
        rintro e w3 ⟨s, rfl, hs, hc3, ho3⟩
        have HC3 := Lib.hid hc3; have HO3 := Lib.hid (HO2.out.trans ((Kept.alloc b w2 _).trans ho3))
        clear hc3 ho3
        go_wp2
        go_roundw
        case rel => exact ⟨k - 1, _, by omega, by go_num, rfl, by rw [size_app]; omega, HC3.out, HO3.out⟩
        case measure => simp [intOf] <;> omega
      | false =>
        go_wp2_with fail
        refine (tag_any b sv len _ HC2.out).mono ?_
        rintro e w3 ⟨s, rfl, hs, hc3, ho3⟩
        have hsz := hs.1
        have HC3 := Lib.hid hc3; have HO3 := Lib.hid (HO2.out.trans ho3)
        clear hc3 ho3 hs
        go_wp2
        go_roundw
        case rel => exact ⟨k - 1, _, by omega, by go_num, rfl, by rw [size_app, size_app, size_app]; show S.size + 1 + s.size + 1 + _ ≤ _; omega, HC3.out, HO3.out⟩
        case measure => simp [intOf] <;> omega
    · go_wp2_with fail
      refine (once_any b sv len 6 _ HCU.out).mono ?_
      rintro e w2 ⟨t, rfl, hc2, ho2⟩
      have HC2 := Lib.hid hc2; have HO2 := Lib.hid (HK.out.trans ho2); have HL2 := Lib.hid hc2.lt
      clear hc2 ho2
      cases t with
      | true =>
        go_wp2_with fail
        refine (str_any b sv len _ 3 3 _ (HC2.out.alloc _) (by have := HL2.out; omega) (by omega) (by omega) ?_).mono ?_
        · exact cells_str _ _ _ _ (by rfl) (by kernel_rfl)
        rintro e w3 ⟨s, rfl, hs, hc3, ho3⟩
        have HC3 := Lib.hid hc3; have HO3 := Lib.hid (HO2.out.trans ((Kept.alloc b w2 _).trans ho3))
        clear hc3 ho3
        go_wp2_with fail
        go_ret
        exact ⟨_, rfl, by show (S ++ s).size ≤ 6000; rw [size_app]; omega, HC3.out, HO3.out⟩
      | false =>
        go_wp2_with fail
        go_ret
        exact ⟨_, rfl, by show S.size ≤ 6000; omega, HC2.out, HO2.out⟩
end Go.Proofs.Ytiginllbfjekeaa
