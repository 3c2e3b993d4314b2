/- Helper contracts over the draws of chapter 5's laws: whatever the bytes, the strings that are drawn are short, a drawn tag holds no ">", and nothing that lay in memory before is written but the reader's own block. -/
import Derived.Test.YtiginllbfjekeaaBig
import Derived.Test.YtiginllbfjekeaaStr
namespace Go.Proofs.Ytiginllbfjekeaa
open Go.ChangeShapes Go.WideShapes Go.ChangeAt Go.RowKit

/-- A short string without ">". -/
def Gt (s : ByteArray) : Prop := s.size ≤ 100 ∧ ∀ b ∈ s.data.toList, b ≠ 62
def gtCell : Value → Bool
  | .string s => decide (s.size ≤ 100) && s.data.toList.all (fun b => !(b == 62))
  | _ => false
theorem gtCell_ok {s : ByteArray} (h : gtCell (.string s) = true) : Gt s := by
  simp only [gtCell, Bool.and_eq_true, decide_eq_true_eq] at h
  refine ⟨h.1, fun b hb e => ?_⟩
  have := List.all_eq_true.1 h.2 b hb
  subst e
  exact absurd this (by decide)
theorem cells_gt (w : World) (C : Array Value) (T : TypeId) (m : Nat) (hm : C.size = m) (h : C.all gtCell = true) : ∀ j, j < m → ∃ s : ByteArray, Gt s ∧ (w.alloc (.cells C T)).cell? ⟨w.heap.size, j, none⟩ = some (.string s) := by
  subst hm
  intro j hj
  have h1 : gtCell C[j] = true := by rw [Array.all_eq_true] at h; exact h j hj
  have h2 : (w.alloc (.cells C T)).cell? ⟨w.heap.size, j, none⟩ = some C[j] := by
    unfold World.cell?
    have h3 : (w.alloc (.cells C T)).heap[w.heap.size]? = some (.cells C T) := by
      show (w.heap.push _)[w.heap.size]? = _
      simp
    rw [h3]
    simp [hj]
  rw [h2]
  cases hc : C[j] with
  | string s => rw [hc] at h1; exact ⟨s, gtCell_ok h1, rfl⟩
  | _ => rw [hc] at h1; simp [gtCell] at h1
def StrP (Q : ByteArray → Prop) (b : Nat) (sv : Value) (len : Nat) (w : World) (e : Ending) (w' : World) : Prop :=
  ∃ s : ByteArray, e = .returned (.string s) ∧ Q s ∧ Cur b sv len w' ∧ Kept b w w'
theorem strP_any (Q : ByteArray → Prop) (b : Nat) (sv : Value) (len : Nat) (g m cap : Nat) (w : World) (hc : Cur b sv len w) (hgb : g ≠ b) (hm : 0 < m) (hm2 : m ≤ 1000)
    (hcells : ∀ j, j < m → ∃ s : ByteArray, Q s ∧ w.cell? ⟨g, j, none⟩ = some (.string s)) :
    Calls Try.prog 47 #[.pointer (some ⟨b, 0, none⟩), .slice (some ⟨g, 0, none⟩) m cap] w (StrP Q b sv len w) := by
  have HC := Lib.hid hc; have HS := Lib.hid hcells; clear hc hcells
  go_enter Try.func47, Try.ntmps47
  go_wp2_with fail
  refine (below_any b sv len m _ HC.out).mono ?_
  rintro e w1 ⟨x, rfl, hx0, hx1, hx2, hc1, ho1⟩
  have hx3 := hx1 (by omega)
  obtain ⟨k, rfl⟩ := Int.eq_ofNat_of_zero_le hx0
  obtain ⟨s, s1, hv⟩ := HS.out k (by omega)
  rw [← ho1.cell (show (⟨g, k, none⟩ : Addr).block ≠ b from hgb)] at hv
  have HC1 := Lib.hid hc1; have HO1 := Lib.hid ho1; clear hc1 ho1 hx1
  go_wp2_with fail
  go_ret
  exact ⟨s, rfl, s1, HC1.out, HO1.out.kept⟩

/-- A drawn tag: not long, without ">". -/
def Tg (s : ByteArray) : Prop := s.size ≤ 400 ∧ ∀ b ∈ s.data.toList, b ≠ 62
theorem Gt.tg {s : ByteArray} (h : Gt s) : Tg s := ⟨by have := h.1; omega, h.2⟩
theorem tg_append {a b : ByteArray} (h1 : ∀ x ∈ a.data.toList, x ≠ 62) (h2 : ∀ x ∈ b.data.toList, x ≠ 62) : ∀ x ∈ (a ++ b).data.toList, x ≠ 62 := by
  intro x hx
  rw [append_list] at hx
  rcases List.mem_append.1 hx with h | h
  · exact h1 x h
  · exact h2 x h
theorem size_alloc0 (w : World) (o : Obj) : (w.alloc o).heap.size = w.heap.size + 1 := by show (w.heap.push o).size = _; simp
theorem size_app (a b : ByteArray) : (a ++ b).size = a.size + b.size := ByteArray.size_append

set_option maxRecDepth 100000 in
set_option maxHeartbeats 4000000 in
theorem tag_any (b : Nat) (sv : Value) (len : Nat) (w : World) (hc : Cur b sv len w) :
    Calls Try.prog 51 #[.pointer (some ⟨b, 0, none⟩)] w (StrP Tg b sv len w) := by
  have HC := Lib.hid hc; clear hc
  go_enter Try.func51, Try.ntmps51
  go_wp2_with fail
  refine (below_any b sv len 8 _ HC.out).mono ?_
  rintro e w1 ⟨x, rfl, hx0, hx1, hx2, hc1, ho1⟩
  have HC1 := Lib.hid hc1; have HO1 := Lib.hid ho1.kept; clear hc1 ho1 hx1 hx2 hx0
  have HL1 := Lib.hid HC1.out.lt
  by_cases x0 : x = 0
  · subst x
    go_wp2_with fail
    refine (strP_any Gt b sv len _ 4 4 _ (HC1.out.alloc _) (by have := HL1.out; omega) (by omega) (by omega) ?_).mono ?_
    · exact cells_gt _ _ _ _ (by rfl) (by kernel_rfl)
    rintro e w2 ⟨s, rfl, hs, hc_w2, ho_w2⟩
    have HC_w2 := Lib.hid hc_w2; have HO_w2 := Lib.hid ho_w2; have HQ_s := Lib.hid hs
    have hz_s := hs.1
    clear hc_w2 ho_w2 hs
    go_wp2_with fail
    go_ret
    exact ⟨_, rfl, ⟨by rw [size_app]; show 1 + s.size ≤ 400; omega, tg_append (by decide) HQ_s.out.2⟩, HC_w2.out, HO1.out.trans ((Kept.alloc b w1 _).trans HO_w2.out)⟩
  have k0 : (x == 0) = false := beq_eq_false_iff_ne.2 x0
  clear x0
  by_cases x1 : x = 1
  · subst x
    go_wp2_with fail
    refine (strP_any Gt b sv len _ 4 4 _ (HC1.out.alloc _) (by have := HL1.out; omega) (by omega) (by omega) ?_).mono ?_
    · exact cells_gt _ _ _ _ (by rfl) (by kernel_rfl)
    rintro e w2 ⟨s, rfl, hs, hc_w2, ho_w2⟩
    have HC_w2 := Lib.hid hc_w2; have HO_w2 := Lib.hid ho_w2; have HQ_s := Lib.hid hs
    have hz_s := hs.1
    clear hc_w2 ho_w2 hs
    go_wp2_with fail
    go_ret
    exact ⟨_, rfl, ⟨by rw [size_app]; show 11 + s.size ≤ 400; omega, tg_append (by decide) HQ_s.out.2⟩, HC_w2.out, HO1.out.trans ((Kept.alloc b w1 _).trans HO_w2.out)⟩
  have k1 : (x == 1) = false := beq_eq_false_iff_ne.2 x1
  clear x1
  by_cases x2 : x = 2
  · subst x
    go_wp2_with fail
    refine (strP_any Gt b sv len _ 2 2 _ (HC1.out.alloc _) (by have := HL1.out; omega) (by omega) (by omega) ?_).mono ?_
    · exact cells_gt _ _ _ _ (by rfl) (by kernel_rfl)
    rintro e w2 ⟨s, rfl, hs, hc_w2, ho_w2⟩
    have HC_w2 := Lib.hid hc_w2; have HO_w2 := Lib.hid ho_w2; have HQ_s := Lib.hid hs
    have hz_s := hs.1
    clear hc_w2 ho_w2 hs
    have HL2 := Lib.hid HC_w2.out.lt
    go_wp2_with fail
    refine (strP_any Gt b sv len _ 2 2 _ (HC_w2.out.alloc _) (by have := HL2.out; omega) (by omega) (by omega) ?_).mono ?_
    · exact cells_gt _ _ _ _ (by rfl) (by kernel_rfl)
    rintro e w3 ⟨t, rfl, ht, hc_w3, ho_w3⟩
    have HC_w3 := Lib.hid hc_w3; have HO_w3 := Lib.hid ho_w3; have HQ_t := Lib.hid ht
    have hz_t := ht.1
    clear hc_w3 ho_w3 ht
    go_wp2_with fail
    go_ret
    exact ⟨_, rfl, ⟨by rw [size_app, size_app, size_app]; show 11 + s.size + 6 + t.size ≤ 400; omega, tg_append (tg_append (tg_append (by decide) HQ_s.out.2) (by decide)) HQ_t.out.2⟩, HC_w3.out, (HO1.out.trans ((Kept.alloc b w1 _).trans HO_w2.out)).trans ((Kept.alloc b w2 _).trans HO_w3.out)⟩
  have k2 : (x == 2) = false := beq_eq_false_iff_ne.2 x2
  clear x2
  by_cases x3 : x = 3
  · subst x
    go_wp2_with fail
    refine (strP_any Gt b sv len _ 2 2 _ (HC1.out.alloc _) (by have := HL1.out; omega) (by omega) (by omega) ?_).mono ?_
    · exact cells_gt _ _ _ _ (by rfl) (by kernel_rfl)
    rintro e w2 ⟨s, rfl, hs, hc_w2, ho_w2⟩
    have HC_w2 := Lib.hid hc_w2; have HO_w2 := Lib.hid ho_w2; have HQ_s := Lib.hid hs
    have hz_s := hs.1
    clear hc_w2 ho_w2 hs
    go_wp2_with fail
    go_ret
    exact ⟨_, rfl, ⟨by rw [size_app]; show 8 + s.size ≤ 400; omega, tg_append (by decide) HQ_s.out.2⟩, HC_w2.out, HO1.out.trans ((Kept.alloc b w1 _).trans HO_w2.out)⟩
  have k3 : (x == 3) = false := beq_eq_false_iff_ne.2 x3
  clear x3
  by_cases x4 : x = 4
  · subst x
    go_wp2_with fail
    refine (strP_any Gt b sv len _ 2 2 _ (HC1.out.alloc _) (by have := HL1.out; omega) (by omega) (by omega) ?_).mono ?_
    · exact cells_gt _ _ _ _ (by rfl) (by kernel_rfl)
    rintro e w2 ⟨s, rfl, hs, hc_w2, ho_w2⟩
    have HC_w2 := Lib.hid hc_w2; have HO_w2 := Lib.hid ho_w2; have HQ_s := Lib.hid hs
    have hz_s := hs.1
    clear hc_w2 ho_w2 hs
    go_wp2_with fail
    go_ret
    exact ⟨_, rfl, ⟨by rw [size_app]; show 10 + s.size ≤ 400; omega, tg_append (by decide) HQ_s.out.2⟩, HC_w2.out, HO1.out.trans ((Kept.alloc b w1 _).trans HO_w2.out)⟩
  have k4 : (x == 4) = false := beq_eq_false_iff_ne.2 x4
  clear x4
  by_cases x5 : x = 5
  · subst x
    go_wp2_with fail
    refine (strP_any Gt b sv len _ 10 10 _ (HC1.out.alloc _) (by have := HL1.out; omega) (by omega) (by omega) ?_).mono ?_
    · exact cells_gt _ _ _ _ (by rfl) (by kernel_rfl)
    rintro e w2 ⟨s, rfl, hs, hc_w2, ho_w2⟩
    have HC_w2 := Lib.hid hc_w2; have HO_w2 := Lib.hid ho_w2; have HQ_s := Lib.hid hs
    have hz_s := hs.1
    clear hc_w2 ho_w2 hs
    go_wp2_with fail
    go_ret
    exact ⟨_, rfl, HQ_s.out.tg, HC_w2.out, HO1.out.trans ((Kept.alloc b w1 _).trans HO_w2.out)⟩
  have k5 : (x == 5) = false := beq_eq_false_iff_ne.2 x5
  clear x5
  go_wp2_with fail
  refine (strP_any Gt b sv len _ 4 4 _ (HC1.out.alloc _) (by have := HL1.out; omega) (by omega) (by omega) ?_).mono ?_
  · exact cells_gt _ _ _ _ (by rfl) (by kernel_rfl)
  rintro e w2 ⟨s, rfl, hs, hc_w2, ho_w2⟩
  have HC_w2 := Lib.hid hc_w2; have HO_w2 := Lib.hid ho_w2; have HQ_s := Lib.hid hs
  have hz_s := hs.1
  clear hc_w2 ho_w2 hs
  go_wp2_with fail
  go_ret
  exact ⟨_, rfl, HQ_s.out.tg, HC_w2.out, HO1.out.trans ((Kept.alloc b w1 _).trans HO_w2.out)⟩

/-- A string, and a slice of numbers, that were drawn; nothing old is written. -/
def DrawnT (Q : ByteArray → Prop) (w : World) (en : Ending) (w' : World) : Prop := ∃ s : ByteArray, en = .returned (.string s) ∧ Q s ∧ Below w.heap.size w w'

/-- A drawn page. -/
def Pg (s : ByteArray) : Prop := s.size ≤ 6000
set_option maxRecDepth 100000 in
set_option maxHeartbeats 2000000 in
theorem page_any (b : Nat) (sv : Value) (len : Nat) (w : World) (hc : Cur b sv len w) :
    Calls Try.prog 24 #[.pointer (some ⟨b, 0, none⟩), .int .i64 8] w (StrP Pg b sv len w) := by
  have HC := Lib.hid hc; clear hc
  go_enter Try.func24, Try.ntmps24
  go_wp2_with fail
  refine (below_any b sv len 9 _ HC.out).mono ?_
  rintro e w1 ⟨x, rfl, hx0, hx1, hx2, hc1, ho1⟩
  have hx3 := hx1 (by omega)
  obtain ⟨m, rfl⟩ := Int.eq_ofNat_of_zero_le hx0
  have hm : m ≤ 8 := by omega
  have HC1 := Lib.hid hc1; have HO1 := Lib.hid ho1.kept; clear hc1 ho1 hx1 hx2 hx0 hx3
  go_wp2_with fail
  go_loopw [5, 6] (fun s i wr => ∃ (k : Nat) (S : ByteArray), k ≤ 8 ∧ i = .int .i64 k ∧ s = .string S ∧ S.size + 500 * k ≤ 4000 ∧ Cur b sv len wr ∧ Kept b w wr) (fun _ i _ => (intOf i).toNat)
  case atStart => exact ⟨m, ⟨#[]⟩, hm, rfl, rfl, by show 0 + 500 * m ≤ 4000; omega, HC1.out, HO1.out⟩
  case round =>
    obtain ⟨k, S, hk, rfl, rfl, hS, hcu, hke⟩ := hrel
    have HCU := Lib.hid hcu; have HK := Lib.hid hke
    clear hcu hke HC1 HO1
    by_cases hlt : (0 : Int) < (k : Int)
    · go_wp2_with fail
      refine (once_any b sv len 3 _ HCU.out).mono ?_
      rintro e w2 ⟨t, rfl, hc2, ho2⟩
      have HC2 := Lib.hid hc2; have HO2 := Lib.hid (HK.out.trans ho2); have HL2 := Lib.hid hc2.lt
      clear hc2 ho2
      cases t with
      | true =>
        go_wp2_with fail
        refine (str_any b sv len _ 5 5 _ (HC2.out.alloc _) (by have := HL2.out; omega) (by omega) (by omega) ?_).mono ?_
        · exact cells_str _ _ _ _ (by rfl) (by kernel_rfl)
        rintro e w3 ⟨s, rfl, hs, hc3, ho3⟩
        have HC3 := Lib.hid hc3; have HO3 := Lib.hid (HO2.out.trans ((Kept.alloc b w2 _).trans ho3))
        clear hc3 ho3
        go_wp2
        go_roundw
        case rel => exact ⟨k - 1, _, by omega, by go_num, rfl, by rw [size_app]; omega, HC3.out, HO3.out⟩
        case measure => simp [intOf] <;> omega
      | false =>
        go_wp2_with fail
        refine (tag_any b sv len _ HC2.out).mono ?_
        rintro e w3 ⟨s, rfl, hs, hc3, ho3⟩
        have hsz := hs.1
        have HC3 := Lib.hid hc3; have HO3 := Lib.hid (HO2.out.trans ho3)
        clear hc3 ho3 hs
        go_wp2
        go_roundw
        case rel => exact ⟨k - 1, _, by omega, by go_num, rfl, by rw [size_app, size_app, size_app]; show S.size + 1 + s.size + 1 + _ ≤ _; omega, HC3.out, HO3.out⟩
        case measure => simp [intOf] <;> omega
    · go_wp2_with fail
      refine (once_any b sv len 6 _ HCU.out).mono ?_
      rintro e w2 ⟨t, rfl, hc2, ho2⟩
      have HC2 := Lib.hid hc2; have HO2 := Lib.hid (HK.out.trans ho2); have HL2 := Lib.hid hc2.lt
      clear hc2 ho2
      cases t with
      | true =>
        go_wp2_with fail
        refine (str_any b sv len _ 3 3 _ (HC2.out.alloc _) (by have := HL2.out; omega) (by omega) (by omega) ?_).mono ?_
        · exact cells_str _ _ _ _ (by rfl) (by kernel_rfl)
        rintro e w3 ⟨s, rfl, hs, hc3, ho3⟩
        have HC3 := Lib.hid hc3; have HO3 := Lib.hid (HO2.out.trans ((Kept.alloc b w2 _).trans ho3))
        clear hc3 ho3
        go_wp2_with fail
        go_ret
        exact ⟨_, rfl, by show (S ++ s).size ≤ 6000; rw [size_app]; omega, HC3.out, HO3.out⟩
      | false =>
        go_wp2_with fail
        go_ret
        exact ⟨_, rfl, by show S.size ≤ 6000; omega, HC2.out, HO2.out⟩
end Go.Proofs.Ytiginllbfjekeaa
