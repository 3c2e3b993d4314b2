/- The walk of the law FnCipher: it returns true, and writes nothing that was there. -/
import Derived.Test.YtlehahpgdafnoaaCipherS
import Derived.Test.YtlehahpgdafnoaaDrawP3
import Derived.Test.YtlehahpgdafnoaaSame
import Derived.Test.YtlehahpgdafnoaaBig
namespace Go.Proofs.Ytlehahpgdafnoaa
open Go.ChangeShapes Go.WideShapes Go.ChangeAt Go.RowKit

theorem dec_enc_id (k : Int) (zs : List Int) (h : Bytes zs) : decB k (encB k zs zs.length) (encB k zs zs.length).length = zs := by
  rw [encB_len]
  apply List.ext_getElem?
  intro j
  by_cases hj : j < zs.length
  · rw [getD_at (show j < (decB k (encB k zs zs.length) zs.length).length by rw [decB_len]; exact hj), getD_at hj, decB_at hj, encB_at hj]
    have := h.at j
    congr 1
    omega
  · rw [List.getElem?_eq_none (by rw [decB_len]; omega), List.getElem?_eq_none (by omega)]
theorem enc_dec_id (k : Int) (zs : List Int) (h : Bytes zs) : encB k (decB k zs zs.length) (decB k zs zs.length).length = zs := by
  rw [decB_len]
  apply List.ext_getElem?
  intro j
  by_cases hj : j < zs.length
  · rw [getD_at (show j < (encB k (decB k zs zs.length) zs.length).length by rw [encB_len]; exact hj), getD_at hj, encB_at hj, decB_at hj]
    have := h.at j
    congr 1
    omega
  · rw [List.getElem?_eq_none (by rw [encB_len]; omega), List.getElem?_eq_none (by omega)]

theorem cipher_big (a : Option Addr) (len cap : Nat) (w : World) (h : (1048576 : Int) < (len : Int)) :
    Calls Try.prog 3 #[.slice a len cap] w fun e w' => e = .returned (.bool true) ∧ Below w.heap.size w w' := by
  go_enter Try.func3, Try.ntmps3
  go_wp2_with (go_at_call 12; refine (big_yes _ _ _ _ h).mono ?_; rintro e w' ⟨rfl, rfl⟩)
  go_ret
  exact ⟨rfl, Below.refl _ _⟩

set_option maxRecDepth 100000 in
set_option maxHeartbeats 4000000 in
theorem walkCipher (a0 : Option Addr) (cap : Nat) (len : Nat) (w : World) (hc : CodeOk w.heap.size w (.slice a0 len cap) len) :
    Calls Try.prog 3 #[.slice a0 len cap] w fun e w' => e = .returned (.bool true) ∧ Below w.heap.size w w' := by
  have hlen : ¬ (1048576 : Int) < (len : Int) := by obtain ⟨_, _, _, h, _⟩ := hc; omega
  have HC := Lib.hid hc; clear hc
  go_enter Try.func3, Try.ntmps3
  go_wp2_with (go_at_call 12; refine (big_no _ _ _ _ hlen).mono ?_; rintro e w' ⟨rfl, rfl⟩)
  refine (drawEn_any _ len _ HC.out).mono ?_
  rintro e w1 ⟨k, v, zs, rfl, -, hown, hzb, hzl, hb1⟩
  have HB1 := Lib.hid hb1; have HO1 := Lib.hid hown; have HZB := Lib.hid hzb; have HZL := Lib.hid hzl
  have HID1 := Lib.hid (dec_enc_id k zs hzb); have HID2 := Lib.hid (enc_dec_id k zs hzb)
  clear hb1 hown hzb hzl
  obtain ⟨av, cv, rfl, -⟩ := HO1.out.reads
  go_wp2_with fail
  refine (implEncr_any k _ w1.heap.size zs w1 HO1.out.reads (Nat.le_refl _) HZB.out (by have := HZL.out; omega)).mono ?_
  rintro e w2 ⟨c, rfl, hoc, hb2⟩
  have HOV2 := Lib.hid (HO1.out.later hb2); have HB2 := Lib.hid (HB1.out.trans (hb2.mono HB1.out.size)); have HOC := Lib.hid hoc; have HS2 := Lib.hid hb2.size
  clear hoc hb2
  go_wp2_with fail
  refine (implDecr_any k c w2.heap.size _ w2 HOC.out.reads (Nat.le_refl _) (encB_bytes _ _ _) (by rw [encB_len]; have := HZL.out; omega)).mono ?_
  rintro e w3 ⟨d, rfl, hod, hb3⟩
  rw [HID1.out] at hod
  have HOV3 := Lib.hid (HOV2.out.later hb3); have HB3 := Lib.hid (HB2.out.trans (hb3.mono HB2.out.size)); have HOD := Lib.hid hod; have HS3 := Lib.hid hb3.size
  clear hod hb3
  go_wp2_with fail
  refine (same8_any _ _ _ _ zs _ HOD.out.reads HOV3.out.reads).mono ?_
  rintro e w4 ⟨rfl, hs4⟩
  have HOV4 := Lib.hid (HOV3.out.later (hs4.below _)); have HB4 := Lib.hid (HB3.out.trans (hs4.below _)); have HS4 := Lib.hid (Nat.le_trans (Nat.le_trans (HS2.out) HS3.out) (hs4.below 0).size); clear hs4
  go_wp2_with fail
  refine (implDecr_any k _ w1.heap.size zs w4 HOV4.out.reads HS4.out HZB.out (by have := HZL.out; omega)).mono ?_
  rintro e w5 ⟨d2, rfl, hod2, hb5⟩
  have HOV5 := Lib.hid (HOV4.out.later hb5); have HB5 := Lib.hid (HB4.out.trans (hb5.mono HB4.out.size)); have HOD2 := Lib.hid hod2; have HS5 := Lib.hid (Nat.le_trans HS4.out hb5.size)
  clear hod2 hb5
  go_wp2_with fail
  refine (implEncr_any k d2 w5.heap.size _ w5 HOD2.out.reads (Nat.le_refl _) (decB_bytes _ _ _) (by rw [decB_len]; have := HZL.out; omega)).mono ?_
  rintro e w6 ⟨d3, rfl, hod3, hb6⟩
  rw [HID2.out] at hod3
  have HOV6 := Lib.hid (HOV5.out.later hb6); have HB6 := Lib.hid (HB5.out.trans (hb6.mono HB5.out.size)); have HOD3 := Lib.hid hod3; have HS6 := Lib.hid (Nat.le_trans HS5.out hb6.size)
  clear hod3 hb6
  go_wp2_with fail
  refine (same8_any _ _ _ _ zs _ HOD3.out.reads HOV6.out.reads).mono ?_
  rintro e w7 ⟨rfl, hs7⟩
  have HOV7 := Lib.hid (HOV6.out.later (hs7.below _)); have HB7 := Lib.hid (HB6.out.trans (hs7.below _)); have HS7 := Lib.hid (Nat.le_trans HS6.out (hs7.below 0).size); clear hs7
  go_wp2_with fail
  refine (implEncr_any k _ w1.heap.size zs w7 HOV7.out.reads HS7.out HZB.out (by have := HZL.out; omega)).mono ?_
  rintro e w8 ⟨c8, rfl, ho8, hb8⟩
  have HB8 := Lib.hid (HB7.out.trans (hb8.mono HB7.out.size))
  obtain ⟨a8, c8, rfl, -⟩ := ho8.reads
  clear hb8 ho8
  rw [encB_len]
  go_wp2_with fail
  go_ret
  exact ⟨rfl, HB8.out⟩

theorem cipher_all (a : Option Addr) (len cap : Nat) (zs : List Int) (w : World) (h : IsRow .u8 w a len cap zs) :
    Calls Try.prog 3 #[.slice a len cap] w fun e w' => e = .returned (.bool true) ∧ Below w.heap.size w w' := by
  by_cases hb : (1048576 : Int) < (len : Int)
  · exact cipher_big a len cap w hb
  · exact walkCipher a cap len w (code_of_row h (by omega))
end Go.Proofs.Ytlehahpgdafnoaa
