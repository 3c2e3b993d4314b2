/- The walk of the law FnByteStrings: it returns true, and writes nothing that was there. -/
import Derived.Test.YtemoegnijnhigaaVarints
import Derived.Test.YtemoegnijnhigaaHelpI
namespace Go.Proofs.Ytemoegnijnhigaa
open Go.ChangeShapes Go.WideShapes Go.ChangeAt Go.RowKit

theorem strings_big (a : Option Addr) (len cap : Nat) (w : World) (h : (1048576 : Int) < (len : Int)) :
    Calls Try.prog 4 #[.slice a len cap] w fun e w' => e = .returned (.bool true) ∧ Below w.heap.size w w' := by
  go_enter Try.func4, Try.ntmps4
  go_wp2_with (go_at_call 13; refine (big_yes _ _ _ _ h).mono ?_; rintro e w' ⟨rfl, rfl⟩)
  go_ret
  exact ⟨rfl, Below.refl _ _⟩

theorem mul255 {x y : Int} (x0 : 0 ≤ x) (x1 : x ≤ 255) (y0 : 0 ≤ y) (y1 : y ≤ 255) : 0 ≤ x * y ∧ x * y ≤ 65025 := by
  have h1 := Int.mul_nonneg x0 y0
  have h2 := Int.mul_le_mul x1 y1 y0 (show (0 : Int) ≤ 255 by omega)
  omega
theorem mul65025 {x y : Int} (x0 : 0 ≤ x) (x1 : x ≤ 65025) (y0 : 0 ≤ y) (y1 : y ≤ 255) : 0 ≤ x * y ∧ x * y ≤ 16581375 := by
  have h1 := Int.mul_nonneg x0 y0
  have h2 := Int.mul_le_mul x1 y1 y0 (show (0 : Int) ≤ 65025 by omega)
  omega
theorem enc_bytes (zs : List Int) : ∀ k, Bytes (enc zs k) := by
  intro k
  induction k with
  | zero => intro z hz; cases hz
  | succ k ih =>
    intro z hz
    simp only [enc] at hz
    rcases List.mem_append.1 hz with h | h
    · exact ih z h
    · exact vint_bytes _ z h
/-- Numbers that have a varint. -/
def Small (zs : List Int) : Prop := ∀ z ∈ zs, 0 ≤ z ∧ z ≤ 1000000000000
theorem Small.at {zs : List Int} (h : Small zs) (j : Nat) : 0 ≤ zs.getD j 0 ∧ zs.getD j 0 ≤ 1000000000000 := by
  by_cases hj : j < zs.length
  · rw [List.getD_eq_getElem?_getD, List.getElem?_eq_getElem hj]; exact h _ (List.getElem_mem hj)
  · rw [List.getD_eq_getElem?_getD, List.getElem?_eq_none (by omega)]; simp

set_option maxRecDepth 100000 in
set_option maxHeartbeats 4000000 in
theorem walkByteStrings (a0 : Option Addr) (cap : Nat) (len : Nat) (w : World) (hc : CodeOk w.heap.size w (.slice a0 len cap) len) :
    Calls Try.prog 4 #[.slice a0 len cap] w fun e w' => e = .returned (.bool true) ∧ Below w.heap.size w w' := by
  obtain ⟨i0, hi0, hz0, hz1, hz2⟩ := info_parts info64
  have hlen : ¬ (1048576 : Int) < (len : Int) := by obtain ⟨_, _, _, h, _⟩ := hc; omega
  have HC := Lib.hid hc; clear hc
  go_enter Try.func4, Try.ntmps4
  go_wp2_with (go_at_call 13; refine (big_no _ _ _ _ hlen).mono ?_; rintro e w' ⟨rfl, rfl⟩)
  refine (drawAB_any _ len _ HC.out).mono ?_
  rintro e w1 ⟨v, bs, u, ds, rfl, hov, hbs, hbl, hou, hds, hdl, hb1⟩
  have HB1 := Lib.hid hb1; have HOV := Lib.hid hov; have HOU := Lib.hid hou; have HBS := Lib.hid hbs; have HBL := Lib.hid hbl; have HDS := Lib.hid hds; have HDL := Lib.hid hdl
  clear hb1 hov hou hbs hbl hds hdl
  go_wp2_with fail
  refine (implB_any v u w1.heap.size w1.heap.size bs ds w1 HOV.out.reads (Nat.le_refl _) (by have := HBL.out; omega) HOU.out.reads (Nat.le_refl _) (by have := HDL.out; omega)).mono ?_
  rintro e w2 ⟨x, rfl, hox, hb2⟩
  have hr1 := readB_app bs ds (by have := HDL.out; omega)
  have hr2 := readB_short bs ds (by have := HDL.out; omega)
  obtain ⟨X, hX⟩ : ∃ X, bs ++ (vint ds.length ++ ds) = X := ⟨_, rfl⟩
  rw [hX] at hox hr1 hr2
  have hXb : Bytes X := by
    rw [← hX]; intro z hz
    rcases List.mem_append.1 hz with h | h
    · exact HBS.out z h
    · rcases List.mem_append.1 h with h | h
      · exact vint_bytes _ z h
      · exact HDS.out z h
  have hXl : X.length ≤ 46 := by have h1 := vint_len ds.length; have h2 := HBL.out; have h3 := HDL.out; rw [← hX, List.length_append, List.length_append]; omega
  have HXB := Lib.hid hXb; have HXL := Lib.hid hXl; have HOX := Lib.hid hox; have HR1 := Lib.hid hr1; have HR2 := Lib.hid hr2
  have HOV2 := Lib.hid (HOV.out.later hb2); have HOU2 := Lib.hid (HOU.out.later hb2)
  have HB2 := Lib.hid (HB1.out.trans (hb2.mono HB1.out.size))
  clear hX hXb hXl hox hb2 hr1 hr2
  obtain ⟨av, cv, rfl, -⟩ := HOV2.out.reads
  obtain ⟨au, cu, rfl, -⟩ := HOU2.out.reads
  obtain ⟨ax, cx, rfl, -⟩ := HOX.out.reads
  go_wp2_with fail
  refine (implReadB_any _ w2.heap.size X bs.length ds.length w2 HOX.out.reads (Nat.le_refl _) HXB.out (by have := HXL.out; omega)).mono ?_
  rintro e w3 ⟨y, he, hoy, hb3⟩
  rw [HR1.out] at he hoy
  simp only [bn, bb, bl] at he hoy
  subst he
  have HOX3 := Lib.hid (HOX.out.later hb3); have HOU3 := Lib.hid (HOU2.out.later hb3); have HOY := Lib.hid hoy
  have HB3 := Lib.hid (HB2.out.trans (hb3.mono HB2.out.size))
  have HS3 := Lib.hid hb3.size
  clear hb3 hoy
  have hdl3 : (ds.length : Int) ≤ 20 := by have := HDL.out; omega
  go_wp2_with fail
  refine (implReadB_any _ w2.heap.size X bs.length (ds.length - 1) w3 HOX3.out.reads HS3.out HXB.out (by have := HXL.out; omega)).mono ?_
  rintro e w4 ⟨y2, he, hoy2, hb4⟩
  rw [HR2.out] at he
  simp only [bn, bb] at he
  subst he
  have HOU4 := Lib.hid (HOU3.out.later hb4); have HOY4 := Lib.hid (HOY.out.later hb4)
  have HB4 := Lib.hid (HB3.out.trans (hb4.mono HB3.out.size))
  clear hb4 hoy2
  go_wp2_with fail
  refine (same8_any _ _ _ _ ds _ HOY4.out.reads HOU4.out.reads).mono ?_
  rintro e w5 ⟨rfl, hs5⟩
  have HB5 := Lib.hid (HB4.out.trans (hs5.below _)); clear hs5
  clear HB1 HB2 HB3 HB4 HOV HOU HOV2 HOU2 HOX HOX3 HOU3 HOU4 HOY HOY4 HR1 HR2 HXB HBS HDS
  clear hdl3
  have HM0 := Lib.hid (Mine.empty .i64 3 w w5 w.heap.size HB5.out HB5.out.size)
  go_wp2_with fail
  go_loopw [12, 13] (fun v i wr => ∃ (k : Nat) (L : List Int), k ≤ 5 ∧ i = .int .i64 k ∧ L.length = k ∧ Small L ∧ Mine .i64 3 w.heap.size w wr v L) (fun _ i _ => 6 - (intOf i).toNat)
  case atStart => exact ⟨0, [], by omega, rfl, rfl, (fun z hz => by cases hz), HM0.out⟩
  case round =>
    obtain ⟨k, L, hk, rfl, hL, hsm, hmine⟩ := hrel
    have HL := Lib.hid hL; have HSM := Lib.hid hsm; have HMI := Lib.hid hmine
    clear hL hsm hmine HM0 HB5
    go_wp2_with fail
    refine (at_any a0 cap len 0 wr (codeOk_later HC.out HMI.out.below) (by omega) (by omega)).mono ?_
    rintro e w6 ⟨⟨x0, rfl, x00, x01⟩, rfl⟩
    by_cases hlt : (k : Int) < x0 % 6
    · go_wp2_with fail
      refine (at_any a0 cap len _ wr (codeOk_later HC.out HMI.out.below) (by omega) (by omega)).mono ?_
      rintro e w6 ⟨⟨x1, rfl, x10, x11⟩, rfl⟩
      go_wp2_with fail
      refine (at_any a0 cap len _ wr (codeOk_later HC.out HMI.out.below) (by omega) (by omega)).mono ?_
      rintro e w6 ⟨⟨x2, rfl, x20, x21⟩, rfl⟩
      obtain ⟨m0, m1⟩ := mul255 x10 x11 x20 x21
      obtain ⟨q, hq⟩ : ∃ q, x1 * x2 = q := ⟨_, rfl⟩
      rw [hq] at m0 m1
      go_wp2_with fail
      refine (at_any a0 cap len _ wr (codeOk_later HC.out HMI.out.below) (by omega) (by omega)).mono ?_
      rintro e w6 ⟨⟨x3, rfl, x30, x31⟩, rfl⟩
      obtain ⟨p0, p1⟩ := mul65025 m0 m1 x30 x31
      obtain ⟨z, hz⟩ : ∃ z, q * x3 = z := ⟨_, rfl⟩
      rw [hz] at p0 p1
      have HZB := Lib.hid (show 0 ≤ z ∧ z ≤ 1000000000000 from ⟨p0, by omega⟩)
      go_wp2_with (at_builtin; refine wpList_app rfl _ _ 35 rfl .i64 3 i0 (.int .i64 0) 8 Try.underlying35 hi0 hz0 hz1 hz2 rfl w.heap.size w _ L rfl (HMI.out.alloc _) _ _ [z] rfl (reads_one _ _ _ ?cz) (by decide) ?c3 ?_)
      case cz => first | rfl | (rw [hz]) | (rw [hq, hz])
      case c3 => have := HL.out; simp; omega
      intro v' w7 hm7
      have HM7 := Lib.hid hm7; clear hm7
      go_wp2
      go_roundw
      case rel => exact ⟨k + 1, L ++ [z], by omega, by go_num, by rw [List.length_append, HL.out]; rfl, (fun y hy => by
          rcases List.mem_append.1 hy with h | h
          · exact HSM.out y h
          · simp at h; rw [h]; exact HZB.out), HM7.out⟩
      case measure => simp [intOf]; omega
    · go_wp2_with fail
      refine (implEnc_any _ wr.heap.size L wr HMI.out.own.reads (Nat.le_refl _) (by have := HL.out; omega)).mono ?_
      rintro e w7 ⟨ev, rfl, hoe, hb7⟩
      have hd1 := readD_enc L (by have := HL.out; omega) HSM.out.at
      have hd2 := readD_more L (by have := HL.out; omega) HSM.out.at
      have hel := enc_len L L.length
      have heb : Bytes (enc L L.length) := enc_bytes L L.length
      obtain ⟨E, hE⟩ : ∃ E, enc L L.length = E := ⟨_, rfl⟩
      rw [hE] at hoe hd1 hd2 hel heb
      have hel2 : E.length ≤ 30 := by have := HL.out; omega
      have hkl : (L.length : Int) ≤ 5 := by have := HL.out; omega
      have HOE := Lib.hid hoe; have HD1 := Lib.hid hd1; have HD2 := Lib.hid hd2; have HEL := Lib.hid hel2; have HEB := Lib.hid heb
      have HL7 := Lib.hid (HMI.out.own.later hb7)
      have HB7 := Lib.hid (HMI.out.below.trans (hb7.mono HMI.out.size))
      clear hoe hd1 hd2 hel hel2 heb hE hb7
      obtain ⟨al, cl, hul, -⟩ := HL7.out.reads
      subst hul
      obtain ⟨ae, ce, rfl, -⟩ := HOE.out.reads
      go_wp2_with fail
      refine (implDec_any _ w7.heap.size E 0 L.length w7 HOE.out.reads (Nat.le_refl _) HEB.out (by have := HEL.out; omega)).mono ?_
      rintro e w8 ⟨dv, he, hod, hb8⟩
      rw [HD1.out] at he hod
      simp only [bn, bb, bl] at he hod
      subst he
      have HOE8 := Lib.hid (HOE.out.later hb8); have HL8 := Lib.hid (HL7.out.later hb8); have HOD := Lib.hid hod
      have HB8 := Lib.hid (HB7.out.trans (hb8.mono HB7.out.size)); have HS8 := Lib.hid hb8.size
      clear hb8 hod
      go_wp2_with fail
      refine (implDec_any _ w7.heap.size E 0 (L.length + 1) w8 HOE8.out.reads HS8.out HEB.out (by have := HEL.out; omega)).mono ?_
      rintro e w9 ⟨dv2, he, hod2, hb9⟩
      rw [HD2.out] at he
      simp only [bn, bb] at he
      subst he
      have HL9 := Lib.hid (HL8.out.later hb9); have HOD9 := Lib.hid (HOD.out.later hb9)
      have HB9 := Lib.hid (HB8.out.trans (hb9.mono HB8.out.size))
      clear hb9 hod2
      go_wp2_with fail
      refine (same64_any _ _ _ _ L _ HOD9.out.reads HL9.out.reads).mono ?_
      rintro e w10 ⟨rfl, hs⟩
      have HB10 := Lib.hid (HB9.out.trans (hs.below _)); clear hs
      go_wp2_with fail
      go_ret
      exact ⟨rfl, HB10.out⟩

theorem strings_all (a : Option Addr) (len cap : Nat) (zs : List Int) (w : World) (h : IsRow .u8 w a len cap zs) :
    Calls Try.prog 4 #[.slice a len cap] w fun e w' => e = .returned (.bool true) ∧ Below w.heap.size w w' := by
  by_cases hb : (1048576 : Int) < (len : Int)
  · exact strings_big a len cap w hb
  · exact walkByteStrings a cap len w (code_of_row h (by omega))
end Go.Proofs.Ytemoegnijnhigaa
