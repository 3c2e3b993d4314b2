/- The draws of chapter 8's laws: a script's text, lines. Whatever the bytes: they are short, and of what lay in memory only the reader's block is written. -/
import Derived.Test.YtiginllbfjekeaaDoorPrM
import Derived.Test.YtiginllbfjekeaaDoorDrawT
import Derived.Laws.Concat
namespace Go.Proofs.YtiginllbfjekeaaDoor
open Go.ChangeShapes Go.WideShapes Go.ChangeAt Go.RowKit

theorem ownK_keptB {α : Type} {enc : α → List Value} {k : Nat} {e : TypeId} {lo hi b : Nat} {w w' : World} {v : Value} {xs : List α} (h : OwnK enc k e lo hi w v xs) (hk : Kept b w w') (hb : b < lo) : OwnK enc k e lo hi w' v xs := by
  refine ⟨⟨h.1.1, ?_⟩, h.2⟩
  rcases h.1.2 with h1 | ⟨g, cap, cur, e1, h2, h3, h4⟩
  · exact Or.inl h1
  · exact Or.inr ⟨g, cap, cur, e1, h2, by rw [hk.block g (heap_lt h3) (by omega)]; exact h3, h4⟩
theorem kept_below {b lo : Nat} {w w1 w2 : World} (h : Kept b w w1) (hb : Below lo w1 w2) (hl : w.heap.size ≤ lo) : Kept b w w2 :=
  ⟨hb.os.trans h.os, hb.tape.trans h.tape, hb.output.trans h.output, Nat.le_trans h.size hb.size, fun k hk hne => (hb.block k (by omega)).trans (h.block k hk hne)⟩
theorem Cur.keptLo {b lo : Nat} {sv : Value} {len : Nat} {w w' : World} (h : Cur b sv len w) (k : Below lo w w') (hl : b < lo) : Cur b sv len w' := by
  obtain ⟨i, x, h1, h2, a, cap, e, h3, h4⟩ := h
  refine ⟨i, x, by rw [k.block b hl]; exact h1, h2, a, cap, e, h3, ?_⟩
  rcases h4 with h4 | ⟨blk, off, e2, hb, hc⟩
  · exact Or.inl h4
  · refine Or.inr ⟨blk, off, e2, hb, fun j hj => ?_⟩
    obtain ⟨n, n0, n1, hn⟩ := hc j hj
    exact ⟨n, n0, n1, by rw [k.cell (by show blk < _; omega)]; exact hn⟩
def Short (n : Nat) (s : ByteArray) : Prop := s.size ≤ n
def TextGot (b : Nat) (sv : Value) (len : Nat) (w : World) (e : Ending) (w' : World) : Prop :=
  ∃ s : ByteArray, e = .returned (.string s) ∧ s.size ≤ 600 ∧ Cur b sv len w' ∧ Kept b w w'

set_option maxRecDepth 100000 in
set_option maxHeartbeats 2000000 in
theorem text8_any (b : Nat) (sv : Value) (len : Nat) (M : Nat) (hM : M = 4 ∨ M = 5) (w : World) (hc : Cur b sv len w) :
    Calls Tryd.prog 27 #[.pointer (some ⟨b, 0, none⟩), .int .i64 (M : Int)] w (TextGot b sv len w) := by
  have HC := Lib.hid hc; clear hc
  have hM5 : M ≤ 5 := by omega
  have hM1 : 1 ≤ M := by omega
  clear hM
  go_enter Tryd.func27, Tryd.ntmps27
  go_wp2_with fail
  refine (below_any b sv len (M : Int) _ HC.out).mono ?_
  rintro e w1 ⟨x, rfl, hx0, hx1, hx2, hc1, ho1⟩
  have hx3 := hx1 (by omega)
  obtain ⟨K, rfl⟩ := Int.eq_ofNat_of_zero_le hx0
  have hK : K < 5 := by omega
  have HC1 := Lib.hid hc1; have HK1 := Lib.hid ho1.kept
  clear hc1 ho1 hx1 hx2 hx3 hx0
  go_wp2_with fail
  go_loopw [5, 6] (fun q i wr => ∃ (k : Nat) (s : ByteArray), k ≤ K + 1 ∧ i = .int .i64 k ∧ q = .string s ∧ s.size + 101 * k ≤ 101 * (K + 1) ∧ Cur b sv len wr ∧ Kept b w wr)
    (fun _ i _ => (intOf i).toNat)
  case atStart => exact ⟨K + 1, ⟨#[]⟩, Nat.le_refl _, by go_num, rfl, by show 0 + _ ≤ _; omega, HC1.out, HK1.out⟩
  case round =>
    obtain ⟨k, s, hk, rfl, rfl, hs, hc, hk2⟩ := hrel
    have HCR := Lib.hid hc; have HKR := Lib.hid hk2; clear hc hk2
    by_cases hlt : (0 : Int) < (k : Int)
    · have hltd : decide ((0 : Int) < (k : Int)) = true := decide_eq_true hlt
      obtain ⟨j, rfl⟩ : ∃ j, k = j + 1 := ⟨k - 1, by omega⟩
      have hs6 : s.size ≤ 600 := by omega
      have hHC := HCR.out.lt
      by_cases h0 : s.size = 0
      · have hxe : (s.toList == []) = true := by rw [emp_size, decide_eq_true h0]
        have hxn : (s.toList != []) = false := by rw [bne, hxe]; rfl
        go_wp2_with fail
        refine (str_any _ sv len _ 11 11 _ (HCR.out.alloc _) (by omega) (by omega) (by omega) ?_).mono ?_
        · exact cells_str _ _ _ _ (by rfl) (by kernel_rfl)
        rintro e w2 ⟨t, rfl, ht, hc2, ho2⟩
        have a1 : ∀ W, (Op.stringOp .add s t).run Tryd.prog W = .ok (.string (s ++ t)) W := fun W => run_string_add_sum _ _ _ (by omega)
        have HC2 := Lib.hid hc2
        have HK2 := Lib.hid (HKR.out.trans ((Kept.alloc b _ _).trans ho2))
        have HZ := Lib.hid (show (s ++ t).size + 101 * j ≤ 101 * (K + 1) by rw [ByteArray.size_append]; omega)
        clear hc2 ho2
        go_wp2_with fail
        go_roundw
        case rel => exact ⟨j, s ++ t, by omega, by go_num, rfl, HZ.out, HC2.out, HK2.out⟩
        case measure => simp [intOf] <;> omega
      · have hxe : (s.toList == []) = false := by rw [emp_size, decide_eq_false h0]
        have hxn : (s.toList != []) = true := by rw [bne, hxe]; rfl
        have a0 : ∀ W, (Op.stringOp .add s ⟨#[59]⟩).run Tryd.prog W = .ok (.string (s ++ ⟨#[59]⟩)) W := fun W => run_string_add_sum _ _ _ (by rw [show (⟨#[59]⟩ : ByteArray).size = 1 from rfl]; omega)
        obtain ⟨u, hu⟩ : ∃ u, s ++ ⟨#[59]⟩ = u := ⟨_, rfl⟩
        have huz : u.size = s.size + 1 := by rw [← hu, ByteArray.size_append]; rfl
        rw [hu] at a0
        clear hu
        go_wp2_with fail
        refine (str_any _ sv len _ 11 11 _ (HCR.out.alloc _) (by omega) (by omega) (by omega) ?_).mono ?_
        · exact cells_str _ _ _ _ (by rfl) (by kernel_rfl)
        rintro e w2 ⟨t, rfl, ht, hc2, ho2⟩
        have a1 : ∀ W, (Op.stringOp .add u t).run Tryd.prog W = .ok (.string (u ++ t)) W := fun W => run_string_add_sum _ _ _ (by omega)
        have HC2 := Lib.hid hc2
        have HK2 := Lib.hid (HKR.out.trans ((Kept.alloc b _ _).trans ho2))
        have HZ := Lib.hid (show (u ++ t).size + 101 * j ≤ 101 * (K + 1) by rw [ByteArray.size_append]; omega)
        clear hc2 ho2 a0
        go_wp2_with fail
        go_roundw
        case rel => exact ⟨j, u ++ t, by omega, by go_num, rfl, HZ.out, HC2.out, HK2.out⟩
        case measure => simp [intOf] <;> omega
    · have hltd : decide ((0 : Int) < (k : Int)) = false := decide_eq_false hlt
      go_wp2_with fail
      go_ret
      exact ⟨s, rfl, by omega, HCR.out, HKR.out⟩

/-- Drawn lines. -/
def LinesGot (b : Nat) (sv : Value) (len : Nat) (w : World) (e : Ending) (w' : World) : Prop :=
  ∃ a n c xs, e = .returned (.slice a n c) ∧ OwnK encL 2 47 w.heap.size w'.heap.size w' (.slice a n c) xs ∧ xs.length ≤ 7 ∧ (∀ x ∈ xs, x.2.size ≤ 600 ∧ LnOk x) ∧ Cur b sv len w' ∧ Kept b w w'
theorem prsSc_short {s : ByteArray} : ∀ x ∈ scL (prsSc s), x.2.size ≤ s.size ∧ 1 ≤ x.1 ∧ x.1 ≤ 5 := by
  intro x hx
  cases h : prsSc s with
  | none => rw [h] at hx; cases hx
  | some xs =>
    rw [h] at hx
    unfold prsSc at h
    split at h
    · obtain rfl := (Option.some.inj h).symm; cases hx
    split at h
    · cases h
    · obtain ⟨p, hp, hx2⟩ := (prsLs_mem h).2 x hx
      have h1 := lnOf_text hx2
      have h2 := sc_size hp
      exact ⟨by omega, h1.2⟩

set_option maxRecDepth 100000 in
set_option maxHeartbeats 2000000 in
theorem lines_any (b : Nat) (sv : Value) (len : Nat) (w : World) (hc : Cur b sv len w) :
    Calls Tryd.prog 34 #[.pointer (some ⟨b, 0, none⟩)] w (LinesGot b sv len w) := by
  have HC := Lib.hid hc; clear hc
  go_enter Tryd.func34, Tryd.ntmps34
  go_wp2_with fail
  refine (text8_any b sv len 4 (Or.inl rfl) _ HC.out).mono ?_
  rintro e w1 ⟨s, rfl, hs, hc1, hk1⟩
  have HC1 := Lib.hid hc1; have HK1 := Lib.hid hk1
  have HLB := Lib.hid HC.out.lt
  clear hc1 hk1
  go_wp2_with fail
  refine (pscript_spec s (by omega) w1).mono ?_
  rintro e w2 ⟨xa, xn, xc, rfl, hm⟩
  have hsh := prsSc_short (s := s)
  have hll := scL_len s
  obtain ⟨xs, hxs⟩ : ∃ xs, scL (prsSc s) = xs := ⟨_, rfl⟩
  obtain ⟨bb, hbb⟩ : ∃ bb, scB (prsSc s) = bb := ⟨_, rfl⟩
  rw [hxs] at hm hsh hll
  rw [hbb]
  have HXS := Lib.hid (show ∀ x ∈ xs, x.2.size ≤ 600 ∧ LnOk x from fun x hx => ⟨by have := (hsh x hx).1; omega, by have := (hsh x hx).1; omega, by have := (hsh x hx).2; omega, by have := (hsh x hx).2; omega⟩)
  have HO2 := Lib.hid (show OwnK encL 2 47 w1.heap.size w2.heap.size w2 (.slice xa xn xc) xs from hm.own)
  have HC2 := Lib.hid (HC1.out.below hm.below)
  have HK2 := Lib.hid (kept_below HK1.out hm.below HK1.out.size)
  have HS2 := Lib.hid (show w1.heap.size ≤ w2.heap.size from hm.size)
  have HL1 := Lib.hid HC1.out.lt
  clear hm hsh hxs hbb
  go_wp2_with fail
  refine (once_any b sv len 10 _ HC2.out).mono ?_
  rintro e w3 ⟨x, rfl, hc3, ho3⟩
  have HC3 := Lib.hid hc3; have HK3 := Lib.hid (HK2.out.trans ho3)
  have HO3 := Lib.hid ((ownK_keptB HO2.out ho3 HL1.out).mono (Nat.le_refl _) ho3.size)
  have HS3 := Lib.hid (Nat.le_trans HS2.out ho3.size)
  have HL3 := Lib.hid hc3.lt
  clear hc3 ho3
  cases x with
  | false =>
    go_wp2_with fail
    go_ret
    exact ⟨_, _, _, xs, rfl, HO3.out.mono HK1.out.size (Nat.le_refl _), by omega, HXS.out, HC3.out, HK3.out⟩
  | true =>
    go_wp2_with fail
    refine (int_any _ sv len _ 3 3 _ (HC3.out.alloc _) (by have := HL3.out; omega) (by omega) (by omega) ?_).mono ?_
    · exact cells_int _ _ _ _ (by rfl) (by kernel_rfl)
    rintro e w4 ⟨op, rfl, o0, o1, hc4, ho4⟩
    have HC4 := Lib.hid hc4; have HK4 := Lib.hid ((Kept.alloc b w3 (.cells #[.int .i64 0, .int .i64 6, .int .i64 2] 3)).trans ho4)
    have HL4 := Lib.hid hc4.lt
    clear hc4 ho4
    go_wp2_with fail
    refine (str_any _ sv len _ 3 3 _ (HC4.out.alloc _) (by have := HL4.out; omega) (by omega) (by omega) ?_).mono ?_
    · exact cells_str _ _ _ _ (by rfl) (by kernel_rfl)
    rintro e w5 ⟨t, rfl, ht, hc5, ho5⟩
    have hk5 := HK4.out.trans ((Kept.alloc b w4 (.cells #[.string ⟨#[]⟩, .string ⟨#[81]⟩, .string ⟨#[112]⟩] 9)).trans ho5)
    have HC5 := Lib.hid hc5
    have HK5 := Lib.hid (HK3.out.trans hk5)
    have HO5 := Lib.hid ((ownK_keptB HO3.out hk5 HL1.out).mono (Nat.le_refl _) hk5.size)
    have HS5 := Lib.hid (Nat.le_trans HS3.out hk5.size)
    clear hc5 ho5 hk5
    obtain ⟨W6, hW6⟩ : ∃ W, w5.alloc (.cells #[.int .i64 op, .string t] 47) = W := ⟨_, rfl⟩
    have hb6 : Below w5.heap.size w5 W6 := by rw [← hW6]; exact (Below.refl _ _).alloc (Nat.le_refl _) _
    have hM6 : MineK encL 2 47 w1.heap.size w5 W6 (.slice xa xn xc) xs := ⟨(HO5.out.later hb6).1, hb6.mono HS5.out, Nat.le_trans HS5.out hb6.size⟩
    have HM6 := Lib.hid (show MineK encL 2 47 w1.heap.size w5 (w5.alloc (.cells #[.int .i64 op, .string t] 47)) (.slice xa xn xc) xs by rw [hW6]; exact hM6)
    have HRD := Lib.hid (readsL_at w5 w5.heap.size rfl op t)
    clear hM6 hb6 hW6
    go_wp2_with (at_builtin; refine wpList_appLG rfl _ _ rfl w1.heap.size w5 _ xs rfl HM6.out _ _ [(op, t)] rfl HRD.out ?cl ?_)
    case cl => rw [List.length_singleton]; omega
    intro v' w' hm' hgr
    obtain ⟨ya, yc, rfl, _⟩ := mineL_form hm'
    have hlen : (xs ++ [(op, t)]).length ≤ 7 := by rw [List.length_append, List.length_singleton]; omega
    obtain ⟨yn, hyn⟩ : ∃ n, (xs ++ [(op, t)]).length = n := ⟨_, rfl⟩
    rw [hyn] at hm' hlen ⊢
    have HMF := Lib.hid hm'
    have HLF := Lib.hid (hyn ▸ hlen)
    have HYN := Lib.hid hyn
    clear hm' hgr hyn
    go_wp2_with fail
    go_ret
    refine ⟨_, _, _, xs ++ [(op, t)], rfl, HMF.out.own.mono HK1.out.size (Nat.le_refl _), by rw [HYN.out]; exact hlen, fun x hx => ?_, (HC5.out.keptLo HMF.out.below HL1.out), kept_below HK5.out HMF.out.below HK1.out.size⟩
    rcases List.mem_append.1 hx with h | h
    · exact HXS.out x h
    · rw [List.mem_singleton] at h; subst h
      exact ⟨by show t.size ≤ 600; omega, by show t.size ≤ _; omega, o0, o1⟩
end Go.Proofs.YtiginllbfjekeaaDoor
