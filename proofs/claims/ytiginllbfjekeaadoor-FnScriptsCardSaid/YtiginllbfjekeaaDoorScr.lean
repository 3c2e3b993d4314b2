/- The walk of the law FnScripts: it returns true, and writes nothing that was there. -/
import Derived.Test.YtiginllbfjekeaaDoorDr8
import Derived.Test.YtiginllbfjekeaaDoorPas
import Derived.Test.YtiginllbfjekeaaDoorMkI
import Derived.Test.YtiginllbfjekeaaDoorFsM
import Derived.Test.YtiginllbfjekeaaDoorRowOf
namespace Go.Proofs.YtiginllbfjekeaaDoor
open Go.ChangeShapes Go.WideShapes Go.ChangeAt Go.RowKit

/-- A parsed line's form is what it was parsed from. -/
theorem frm_lnOf {p : ByteArray} {x : Lnv} (h : lnOf p = some x) : frm x = some p := by
  unfold lnOf at h
  split at h
  · rename_i hi
    unfold lnW at h
    split at h
    · rename_i h1
      obtain rfl := (Option.some.inj h).symm
      have h5 := wdN_le (p.extract 0 (idxB 32 p.data.toList))
      rw [frm_yes (by constructor <;> show _ ≤ _ <;> simp only <;> omega)]
      congr 1
      show wd ((wdN _ : Nat) : Int).toNat ++ sp ++ _ = p
      rw [Int.toNat_natCast, ← wdN_is (w := p.extract 0 (idxB 32 p.data.toList)) rfl h1.1]
      refine bytesEq ?_
      rw [append_list, append_list, extract_pre, extract_suf]
      show p.data.toList.take (idxB 32 p.data.toList) ++ [32] ++ p.data.toList.drop (idxB 32 p.data.toList + 1) = p.data.toList
      conv => rhs; rw [← List.take_append_drop (idxB 32 p.data.toList) p.data.toList]
      rw [List.append_assoc]
      congr 1
      conv => rhs; rw [List.drop_eq_getElem_cons (show idxB 32 p.data.toList < p.data.toList.length by rw [size_list]; exact hi)]
      have := idxB_at (c := 32) (l := p.data.toList) (by rw [size_list]; exact hi)
      rw [List.getElem?_eq_getElem (by rw [size_list]; exact hi)] at this
      rw [Option.some.inj this]; rfl
    · cases h
  · cases h
theorem frms_prs : ∀ {ps : List ByteArray} {xs : List Lnv}, prsLs ps = some xs → frms xs = ps
  | [], xs, h => by
    obtain rfl : [] = xs := Option.some.inj h
    rfl
  | q :: ps, xs, h => by
    rw [prsLs] at h
    cases hq : lnOf q with
    | none => rw [hq] at h; cases h
    | some y =>
      cases hp : prsLs ps with
      | none => rw [hq, hp] at h; cases h
      | some ys =>
        rw [hq, hp] at h
        obtain rfl : y :: ys = xs := Option.some.inj h
        have ih := frms_prs hp
        unfold frms at ih ⊢
        rw [List.filterMap_cons_some (frm_lnOf hq), ih]
theorem join_mine (c : UInt8) : ∀ ps : List (List UInt8), Lib.join ps [c] = joinB c ps
  | [] => rfl
  | [p] => by rw [Lib.join_one]; rfl
  | p :: q :: ps => by
    have ih := join_mine c (q :: ps)
    rw [Lib.join_cons] at ih ⊢
    show p ++ Lib.joinTail [c] (q :: ps) = p ++ c :: joinB c (q :: ps)
    rw [← ih]
    have h2 : Lib.joinTail [c] (q :: ps) = [c] ++ (q ++ Lib.joinTail [c] ps) := by unfold Lib.joinTail; simp
    rw [h2]; rfl
/-- A parsed script's form is what it was parsed from. -/
theorem fmt_prs {s : ByteArray} {xs : List Lnv} (h : prsSc s = some xs) : fmtSc xs = s := by
  refine bytesEq ?_
  rw [fmtSc_list]
  unfold prsSc at h
  split at h
  · rename_i h0
    obtain rfl := (Option.some.inj h).symm
    have : s.data.toList = [] := List.length_eq_zero_iff.1 (by rw [size_list]; exact h0)
    rw [this]; rfl
  split at h
  · cases h
  · rw [frms_prs h, join_mine]
    unfold splS
    rw [List.map_map, show ((fun f : ByteArray => f.data.toList) ∘ ofL) = id from rfl, List.map_id, joinB_split]
theorem sumL_len : ∀ (xs : List Lnv) (n : Nat), (∀ x ∈ xs, x.2.size ≤ n) → sumL xs ≤ n * xs.length
  | [], _, _ => Nat.zero_le _
  | x :: xs, n, h => by
    have h1 := h x List.mem_cons_self
    have h2 := sumL_len xs n fun y hy => h y (List.mem_cons_of_mem _ hy)
    have h3 : sumL (x :: xs) = x.2.size + sumL xs := by unfold sumL; rw [List.map_cons, List.sum_cons]
    rw [h3, List.length_cons, Nat.mul_add, Nat.mul_one]; omega

def StrGot (n : Nat) (w : World) (e : Ending) (w' : World) : Prop := ∃ s : ByteArray, e = .returned (.string s) ∧ s.size ≤ n ∧ Below w.heap.size w w'
set_option maxRecDepth 100000 in
set_option maxHeartbeats 1000000 in
theorem drawParse8_any (sv : Value) (len : Nat) (w : World) (hc : CodeOk w.heap.size w sv len) :
    Calls Tryd.prog 8 #[sv] w (StrGot 600 w) := by
  have HCO := Lib.hid hc; clear hc
  go_enter Tryd.func8, Tryd.ntmps8
  go_wp2_with fail
  refine (new_any sv len _ HCO.out).mono ?_
  rintro e w1 ⟨rfl, hc1, hb1⟩
  have HC1 := Lib.hid hc1; have HB1 := Lib.hid hb1; clear hc1 hb1
  go_wp2_with fail
  refine (once_any _ sv len 3 _ HC1.out).mono ?_
  rintro e w2 ⟨x, rfl, hc2, ho2⟩
  have HC2 := Lib.hid hc2
  have HB2 := Lib.hid (HB1.out.trans (ho2.below HB1.out.size)); have HL2 := Lib.hid hc2.lt
  clear hc2 ho2
  cases x with
  | true =>
    go_wp2_with fail
    refine (str_any _ sv len _ 12 12 _ (HC2.out.alloc _) (by have := HL2.out; omega) (by omega) (by omega) ?_).mono ?_
    · exact cells_str _ _ _ _ (by rfl) (by kernel_rfl)
    rintro e w3 ⟨s, rfl, hs, hc3, ho3⟩
    have HB3 := Lib.hid ((HB2.out.alloc HB2.out.size _).trans (ho3.below (Nat.le_trans HB2.out.size (by rw [size_alloc0]; omega))))
    clear hc3 ho3
    go_wp2_with fail
    go_ret
    exact ⟨_, rfl, by omega, HB3.out⟩
  | false =>
    go_wp2_with fail
    refine (text8_any _ sv len 5 (Or.inr rfl) _ HC2.out).mono ?_
    rintro e w3 ⟨s, rfl, hs, hc3, ho3⟩
    have HB3 := Lib.hid (HB2.out.trans (ho3.below HB2.out.size))
    clear hc3 ho3
    go_wp2_with fail
    go_ret
    exact ⟨_, rfl, hs, HB3.out⟩

set_option maxRecDepth 100000 in
set_option maxHeartbeats 1000000 in
theorem drawMarkup_any (sv : Value) (len : Nat) (w : World) (hc : CodeOk w.heap.size w sv len) :
    Calls Tryd.prog 13 #[sv] w (StrGot 100 w) := by
  have HCO := Lib.hid hc; clear hc
  go_enter Tryd.func13, Tryd.ntmps13
  go_wp2_with fail
  refine (new_any sv len _ HCO.out).mono ?_
  rintro e w1 ⟨rfl, hc1, hb1⟩
  have HC1 := Lib.hid hc1; have HB1 := Lib.hid hb1; have HL1 := Lib.hid hc1.lt; clear hc1 hb1
  go_wp2_with fail
  refine (str_any _ sv len _ 5 5 _ (HC1.out.alloc _) (by have := HL1.out; omega) (by omega) (by omega) ?_).mono ?_
  · exact cells_str _ _ _ _ (by rfl) (by kernel_rfl)
  rintro e w3 ⟨s, rfl, hs, hc3, ho3⟩
  have HB3 := Lib.hid ((HB1.out.alloc HB1.out.size _).trans (ho3.below (Nat.le_trans HB1.out.size (by rw [size_alloc0]; omega))))
  clear hc3 ho3
  go_wp2_with fail
  go_ret
  exact ⟨_, rfl, hs, HB3.out⟩

def LinesDrawn (w : World) (e : Ending) (w' : World) : Prop :=
  ∃ a n c xs, e = .returned (.slice a n c) ∧ OwnK encL 2 47 w.heap.size w'.heap.size w' (.slice a n c) xs ∧ xs.length ≤ 7 ∧ (∀ x ∈ xs, x.2.size ≤ 600 ∧ LnOk x) ∧ Below w.heap.size w w'
set_option maxRecDepth 100000 in
set_option maxHeartbeats 1000000 in
theorem drawFormat8_any (sv : Value) (len : Nat) (w : World) (hc : CodeOk w.heap.size w sv len) :
    Calls Tryd.prog 12 #[sv] w (LinesDrawn w) := by
  have HCO := Lib.hid hc; clear hc
  go_enter Tryd.func12, Tryd.ntmps12
  go_wp2_with fail
  refine (new_any sv len _ HCO.out).mono ?_
  rintro e w1 ⟨rfl, hc1, hb1⟩
  have HC1 := Lib.hid hc1; have HB1 := Lib.hid hb1; clear hc1 hb1
  go_wp2_with fail
  refine (lines_any _ sv len _ HC1.out).mono ?_
  rintro e w2 ⟨a, n, c, xs, rfl, ho, hl, hx, hc2, hk2⟩
  have HO := Lib.hid (ho.mono HB1.out.size (Nat.le_refl _)); have HX := Lib.hid hx
  have HB2 := Lib.hid (HB1.out.trans (hk2.below HB1.out.size))
  clear ho hx hc2 hk2
  go_wp2_with fail
  go_ret
  exact ⟨_, _, _, xs, rfl, HO.out, hl, HX.out, HB2.out⟩

set_option maxRecDepth 100000 in
set_option maxHeartbeats 8000000 in
theorem scripts_go (a : Option Addr) (len cap : Nat) (w : World) (hmx : Max0 w) (r : CodeOk w.heap.size w (.slice a len cap) len) (hb : ¬ (1048576 : Int) < (len : Int)) :
    Calls Tryd.prog 3 #[.slice a len cap] w fun e w' => e = .returned (.bool true) ∧ Below w.heap.size w w' := by
  have HCO := Lib.hid r; have HMX := Lib.hid hmx; clear r hmx
  go_enter Tryd.func3, Tryd.ntmps3
  go_wp2_with fail
  refine (big_no a len cap _ (by omega)).mono ?_
  rintro e w1 ⟨rfl, rfl⟩
  go_wp2_with fail
  refine (drawParse8_any _ len _ HCO.out).mono ?_
  rintro e w2 ⟨s, rfl, hs, hb2⟩
  have HB2 := Lib.hid hb2; clear hb2
  have HFM := Lib.hid (fun xs h => fmt_prs (s := s) (xs := xs) h)
  have HLL := Lib.hid (scL_len s)
  have HSH := Lib.hid (prsSc_short (s := s))
  go_wp2_with fail
  refine (pscript_impl s (by omega) _).mono ?_
  rintro e w3 ⟨la, ln, lc, rfl, hm3⟩
  have hb3 := hm3.below
  go_wp2_with fail
  refine (pscript_spec s (by omega) _).mono ?_
  rintro e w4 ⟨ka, kn, kc, rfl, hm4⟩
  have HB4 := Lib.hid ((HB2.out.trans (hb3.mono HB2.out.size)).trans (hm4.below.mono (Nat.le_trans HB2.out.size hb3.size)))
  have HLI := Lib.hid ((hm3.later hm4.below).own.reads encL_len)
  clear hm3 hm4 hb3
  obtain ⟨R, hR⟩ : ∃ R, prsSc s = R := ⟨_, rfl⟩
  rw [hR] at HFM HLL HSH HLI ⊢
  clear hR
  obtain ⟨_, _, e1, _⟩ := id HLI.out
  injection e1 with e2 hln e3
  clear e2 e3
  have hln6 : ln ≤ 6 := by have := HLL.out; omega
  have h6 : ¬ (6 : Int) < (ln : Int) := by omega
  have h6d : decide ((6 : Int) < (ln : Int)) = false := decide_eq_false h6
  clear hln
  cases R with
  | none =>
    rw [show scB none = false from rfl]
    go_wp2_with fail
    refine (drawFormat8_any _ len _ (codeOk_later HCO.out HB4.out)).mono ?_
    rintro e w6 ⟨ma, mn, mc, ms, rfl, hom, hml, hmx6, hb6⟩
    have HOM := Lib.hid hom; have HM6 := Lib.hid hmx6
    have HB6 := Lib.hid (HB4.out.trans (hb6.mono HB4.out.size))
    clear hom hmx6 hb6
    go_wp2_with fail
    refine (drawMarkup_any _ len _ (codeOk_later HCO.out HB6.out)).mono ?_
    rintro e w7 ⟨t, rfl, htz, hb7⟩
    have HRM := Lib.hid (((HOM.out.later hb7).reads encL_len).mono hb7.size)
    have HB7 := Lib.hid (HB6.out.trans (hb7.mono HB6.out.size))
    clear hb7
    have HMS := Lib.hid (show ms.length ≤ 1048576 ∧ sumL ms ≤ 1048576 by
      have h2 := sumL_len ms 600 fun x hx => (HM6.out x hx).1
      omega)
    obtain ⟨F, hF⟩ : ∃ F, fmtSc ms = F := ⟨_, rfl⟩
    have HF := Lib.hid hF; clear hF
    have hFF : (F.toList == F.toList) = true := beq_self_eq_true _
    obtain ⟨P, hP⟩ : ∃ P, pasB ms = P := ⟨_, rfl⟩
    have HPP := Lib.hid hP; clear hP
    have hPPb : (P == P) = true := beq_self_eq_true _
    obtain ⟨M, hM⟩ : ∃ M, mkU t = M := ⟨_, rfl⟩
    have HMM := Lib.hid hM
    have HM2 := Lib.hid (show mkU M = M by rw [← hM]; exact mkU_two t)
    have hMz : M.size = t.size := by rw [← hM]; exact mkU_size t
    have HMZ := Lib.hid hMz
    have hmz : M.size ≤ 100 := by omega
    have hMMb : (M.toList == M.toList) = true := beq_self_eq_true _
    have hzz : ((M.size : Int) == (t.size : Int)) = true := beq_iff_eq.2 (by omega)
    clear hM hMz
    go_wp2_with fail
    refine (HF.out ▸ fscript_impl _ ms _ HRM.out HMS.out.1 HMS.out.2).mono ?_
    rintro e w8 ⟨rfl, hb8⟩
    have HR8 := Lib.hid ((HRM.out.below hb8 (Nat.le_refl _)).mono hb8.size)
    have HB8 := Lib.hid (HB7.out.trans (hb8.mono HB7.out.size)); clear hb8
    go_wp2_with fail
    refine (HF.out ▸ fscript_spec _ ms _ HR8.out HMS.out.1 HMS.out.2).mono ?_
    rintro e w9 ⟨rfl, hb9⟩
    have HR9 := Lib.hid ((HR8.out.below hb9 (Nat.le_refl _)).mono hb9.size)
    have HB9 := Lib.hid (HB8.out.trans (hb9.mono HB8.out.size)); clear hb9
    go_wp2_with fail
    refine (HPP.out ▸ pas_impl _ ms _ HR9.out).mono ?_
    rintro e w10 ⟨rfl, hg10⟩
    have HR10 := Lib.hid ((HR9.out.below hg10.below (Nat.le_refl _)).mono hg10.below.size)
    have HB10 := Lib.hid (HB9.out.trans (hg10.below.mono HB9.out.size)); clear hg10
    go_wp2_with fail
    refine (HPP.out ▸ pas_spec _ ms _ HR10.out).mono ?_
    rintro e w11 ⟨rfl, rfl⟩
    go_wp2_with fail
    refine (HMM.out ▸ markup_impl t (by omega) _ (HMX.out.on HB10.out)).mono ?_
    rintro e w12 ⟨rfl, hb12⟩
    have HB12 := Lib.hid (HB10.out.trans (hb12.mono HB10.out.size)); clear hb12
    go_wp2_with fail
    refine (markup_impl M (by omega) _ (HMX.out.on HB12.out)).mono ?_
    rintro e w13 ⟨he13, hb13⟩
    rw [HM2.out] at he13
    subst he13
    have HB13 := Lib.hid (HB12.out.trans (hb13.mono HB12.out.size)); clear hb13
    go_wp2_with fail
    refine (HMM.out ▸ markup_impl t (by omega) _ (HMX.out.on HB13.out)).mono ?_
    rintro e w14 ⟨rfl, hb14⟩
    have HB14 := Lib.hid (HB13.out.trans (hb14.mono HB13.out.size)); clear hb14
    go_wp2_with fail
    refine (HMM.out ▸ markup_impl t (by omega) _ (HMX.out.on HB14.out)).mono ?_
    rintro e w15 ⟨rfl, hb15⟩
    have HB15 := Lib.hid (HB14.out.trans (hb15.mono HB14.out.size)); clear hb15
    go_wp2_with fail
    go_ret
    exact ⟨rfl, HB15.out⟩
  | some xs =>
    rw [show scB (some xs) = true from rfl]
    have hfs := HFM.out xs rfl
    have HL2 := Lib.hid (show xs.length ≤ 1048576 ∧ sumL xs ≤ 1048576 by
      have h1 : xs.length ≤ 6 := HLL.out
      have h2 := sumL_len xs 600 fun x hx => by have := (HSH.out x hx).1; omega
      omega)
    have hrr : (s.toList == s.toList) = true := beq_self_eq_true _
    have hrn : (s.toList != s.toList) = false := by rw [bne, hrr]; rfl
    have HFI := Lib.hid (hfs ▸ fscript_impl _ xs w4 HLI.out HL2.out.1 HL2.out.2)
    clear hfs
    go_wp2_with fail
    refine HFI.out.mono ?_
    rintro e w5 ⟨rfl, hb5⟩
    replace HB4 := Lib.hid (HB4.out.trans (hb5.mono HB4.out.size))
    clear hb5
    go_wp2_with fail
    refine (drawFormat8_any _ len _ (codeOk_later HCO.out HB4.out)).mono ?_
    rintro e w6 ⟨ma, mn, mc, ms, rfl, hom, hml, hmx6, hb6⟩
    have HOM := Lib.hid hom; have HM6 := Lib.hid hmx6
    have HB6 := Lib.hid (HB4.out.trans (hb6.mono HB4.out.size))
    clear hom hmx6 hb6
    go_wp2_with fail
    refine (drawMarkup_any _ len _ (codeOk_later HCO.out HB6.out)).mono ?_
    rintro e w7 ⟨t, rfl, htz, hb7⟩
    have HRM := Lib.hid (((HOM.out.later hb7).reads encL_len).mono hb7.size)
    have HB7 := Lib.hid (HB6.out.trans (hb7.mono HB6.out.size))
    clear hb7
    have HMS := Lib.hid (show ms.length ≤ 1048576 ∧ sumL ms ≤ 1048576 by
      have h2 := sumL_len ms 600 fun x hx => (HM6.out x hx).1
      omega)
    obtain ⟨F, hF⟩ : ∃ F, fmtSc ms = F := ⟨_, rfl⟩
    have HF := Lib.hid hF; clear hF
    have hFF : (F.toList == F.toList) = true := beq_self_eq_true _
    obtain ⟨P, hP⟩ : ∃ P, pasB ms = P := ⟨_, rfl⟩
    have HPP := Lib.hid hP; clear hP
    have hPPb : (P == P) = true := beq_self_eq_true _
    obtain ⟨M, hM⟩ : ∃ M, mkU t = M := ⟨_, rfl⟩
    have HMM := Lib.hid hM
    have HM2 := Lib.hid (show mkU M = M by rw [← hM]; exact mkU_two t)
    have hMz : M.size = t.size := by rw [← hM]; exact mkU_size t
    have HMZ := Lib.hid hMz
    have hmz : M.size ≤ 100 := by omega
    have hMMb : (M.toList == M.toList) = true := beq_self_eq_true _
    have hzz : ((M.size : Int) == (t.size : Int)) = true := beq_iff_eq.2 (by omega)
    clear hM hMz
    go_wp2_with fail
    refine (HF.out ▸ fscript_impl _ ms _ HRM.out HMS.out.1 HMS.out.2).mono ?_
    rintro e w8 ⟨rfl, hb8⟩
    have HR8 := Lib.hid ((HRM.out.below hb8 (Nat.le_refl _)).mono hb8.size)
    have HB8 := Lib.hid (HB7.out.trans (hb8.mono HB7.out.size)); clear hb8
    go_wp2_with fail
    refine (HF.out ▸ fscript_spec _ ms _ HR8.out HMS.out.1 HMS.out.2).mono ?_
    rintro e w9 ⟨rfl, hb9⟩
    have HR9 := Lib.hid ((HR8.out.below hb9 (Nat.le_refl _)).mono hb9.size)
    have HB9 := Lib.hid (HB8.out.trans (hb9.mono HB8.out.size)); clear hb9
    go_wp2_with fail
    refine (HPP.out ▸ pas_impl _ ms _ HR9.out).mono ?_
    rintro e w10 ⟨rfl, hg10⟩
    have HR10 := Lib.hid ((HR9.out.below hg10.below (Nat.le_refl _)).mono hg10.below.size)
    have HB10 := Lib.hid (HB9.out.trans (hg10.below.mono HB9.out.size)); clear hg10
    go_wp2_with fail
    refine (HPP.out ▸ pas_spec _ ms _ HR10.out).mono ?_
    rintro e w11 ⟨rfl, rfl⟩
    go_wp2_with fail
    refine (HMM.out ▸ markup_impl t (by omega) _ (HMX.out.on HB10.out)).mono ?_
    rintro e w12 ⟨rfl, hb12⟩
    have HB12 := Lib.hid (HB10.out.trans (hb12.mono HB10.out.size)); clear hb12
    go_wp2_with fail
    refine (markup_impl M (by omega) _ (HMX.out.on HB12.out)).mono ?_
    rintro e w13 ⟨he13, hb13⟩
    rw [HM2.out] at he13
    subst he13
    have HB13 := Lib.hid (HB12.out.trans (hb13.mono HB12.out.size)); clear hb13
    go_wp2_with fail
    refine (HMM.out ▸ markup_impl t (by omega) _ (HMX.out.on HB13.out)).mono ?_
    rintro e w14 ⟨rfl, hb14⟩
    have HB14 := Lib.hid (HB13.out.trans (hb14.mono HB13.out.size)); clear hb14
    go_wp2_with fail
    refine (HMM.out ▸ markup_impl t (by omega) _ (HMX.out.on HB14.out)).mono ?_
    rintro e w15 ⟨rfl, hb15⟩
    have HB15 := Lib.hid (HB14.out.trans (hb15.mono HB14.out.size)); clear hb15
    go_wp2_with fail
    go_ret
    exact ⟨rfl, HB15.out⟩
theorem scripts_all (a : Option Addr) (len cap : Nat) (zs : List Int) (w : World) (hmx : Max0 w) (h : IsRow .u8 w a len cap zs) :
    Calls Tryd.prog 3 #[.slice a len cap] w fun e w' => e = .returned (.bool true) ∧ Below w.heap.size w w' := by
  by_cases hb : (1048576 : Int) < (len : Int)
  · go_enter Tryd.func3, Tryd.ntmps3
    go_wp2_with fail
    refine (big_yes a len cap _ hb).mono ?_
    rintro e w1 ⟨rfl, rfl⟩
    go_wp2
    go_ret
    exact ⟨rfl, Below.refl _ _⟩
  · exact scripts_go a len cap w hmx (code_of_row h (by omega)) hb
end Go.Proofs.YtiginllbfjekeaaDoor
