/- Helper contracts over the draws of chapter 3's laws: whatever the bytes, what is drawn is in range, and nothing that lay in memory before is written. -/
import Derived.Test.YtlehahpgdafnoaaDrawB
import Derived.Test.YtlehahpgdafnoaaHelpI
namespace Go.Proofs.Ytlehahpgdafnoaa
open Go.ChangeShapes Go.WideShapes Go.ChangeAt Go.RowKit

/-- Numbers that a draw of chapter 3 yields. -/
def Word (z : Int) : Prop := -1 ≤ z ∧ z ≤ 2147483648
def wordCell : Value → Bool
  | .int .i64 n => decide (-1 ≤ n) && decide (n ≤ 2147483648)
  | _ => false
theorem cells_word (w : World) (C : Array Value) (T : TypeId) (m : Nat) (hm : C.size = m) (h : C.all wordCell = true) : ∀ j, j < m → ∃ v : Int, Word v ∧ (w.alloc (.cells C T)).cell? ⟨w.heap.size, j, none⟩ = some (.int .i64 v) := by
  subst hm
  intro j hj
  have h1 : wordCell C[j] = true := by rw [Array.all_eq_true] at h; exact h j hj
  have h2 : (w.alloc (.cells C T)).cell? ⟨w.heap.size, j, none⟩ = some C[j] := by
    unfold World.cell?
    have h3 : (w.alloc (.cells C T)).heap[w.heap.size]? = some (.cells C T) := by
      show (w.heap.push _)[w.heap.size]? = _
      simp
    rw [h3]
    simp [hj]
  rw [h2]
  cases hc : C[j] with
  | int k n =>
    cases k
    all_goals first
      | (rw [hc] at h1; simp [wordCell] at h1; done)
      | (rw [hc] at h1; simp only [wordCell, Bool.and_eq_true, decide_eq_true_eq] at h1; exact ⟨n, h1, rfl⟩)
  | _ => rw [hc] at h1; simp [wordCell] at h1

def WordOut (b : Nat) (sv : Value) (len : Nat) (w : World) (e : Ending) (w' : World) : Prop :=
  ∃ x : Int, e = .returned (.int .i64 x) ∧ Word x ∧ Cur b sv len w' ∧ Kept b w w'
theorem pick_any (b : Nat) (sv : Value) (len : Nat) (g m cap : Nat) (w : World) (hc : Cur b sv len w) (hgb : g ≠ b) (hm : 0 < m) (hm2 : m ≤ 1000)
    (hcells : ∀ j, j < m → ∃ v : Int, Word v ∧ w.cell? ⟨g, j, none⟩ = some (.int .i64 v)) :
    Calls Try.prog 54 #[.pointer (some ⟨b, 0, none⟩), .slice (some ⟨g, 0, none⟩) m cap] w (WordOut b sv len w) := by
  have HC := Lib.hid hc; have HS := Lib.hid hcells; clear hc hcells
  go_enter Try.func54, Try.ntmps54
  go_wp2_with fail
  refine (below_any b sv len m _ HC.out).mono ?_
  rintro e w1 ⟨x, rfl, hx0, hx1, hx2, hc1, ho1⟩
  have hx3 := hx1 (by omega)
  obtain ⟨k, rfl⟩ := Int.eq_ofNat_of_zero_le hx0
  obtain ⟨v, v0, hv⟩ := HS.out k (by omega)
  rw [← ho1.cell (show (⟨g, k, none⟩ : Addr).block ≠ b from hgb)] at hv
  have HC1 := Lib.hid hc1; have HO1 := Lib.hid ho1; have HV := Lib.hid v0; clear hc1 ho1 hx1 v0
  go_wp2_with fail
  go_ret
  exact ⟨v, rfl, HV.out, HC1.out, HO1.out.kept⟩

theorem mul_word {x y : Int} (x0 : 0 ≤ x) (x1 : x < 1000000) (y0 : 0 ≤ y) (y1 : y < 2000) : 0 ≤ x * y ∧ x * y ≤ 2000000000 := by
  have h1 := Int.mul_nonneg x0 y0
  have h2 := Int.mul_le_mul (show x ≤ 1000000 by omega) (show y ≤ 2000 by omega) y0 (show (0 : Int) ≤ 1000000 by omega)
  omega

set_option maxHeartbeats 1000000 in
theorem word_any (b : Nat) (sv : Value) (len : Nat) (w : World) (hc : Cur b sv len w) :
    Calls Try.prog 42 #[.pointer (some ⟨b, 0, none⟩)] w (WordOut b sv len w) := by
  have HC := Lib.hid hc; clear hc
  go_enter Try.func42, Try.ntmps42
  go_wp2_with fail
  refine (once_any b sv len 10 _ HC.out).mono ?_
  rintro e w1 ⟨x, rfl, hc1, ho1⟩
  have HC1 := Lib.hid hc1; have HO1 := Lib.hid ho1; clear hc1 ho1
  cases x
  · go_wp2_with fail
    refine (once_any b sv len 4 _ HC1.out).mono ?_
    rintro e w2 ⟨y, rfl, hc2, ho2⟩
    have HC2 := Lib.hid hc2; have HO2 := Lib.hid ho2; clear hc2 ho2
    cases y
    · go_wp2_with fail
      refine (below_any b sv len 1000000 _ HC2.out).mono ?_
      rintro e w3 ⟨v, rfl, v0, v1, v2, hc3, ho3⟩
      have v3 := v1 (by omega)
      have HC3 := Lib.hid hc3; have HO3 := Lib.hid ho3.kept; clear hc3 ho3 v1
      go_wp2_with fail
      refine (below_any b sv len 2000 _ HC3.out).mono ?_
      rintro e w4 ⟨y, rfl, y0, y1, y2, hc4, ho4⟩
      have y3 := y1 (by omega)
      have HC4 := Lib.hid hc4; have HO4 := Lib.hid ho4.kept; clear hc4 ho4 y1
      obtain ⟨p0, p1⟩ := mul_word v0 v3 y0 y3
      go_wp2_with fail
      go_ret
      exact ⟨v * y, rfl, ⟨by omega, by omega⟩, HC4.out, ((HO1.out.trans HO2.out).trans HO3.out).trans HO4.out⟩
    · go_wp2_with fail
      refine (pick_any b sv len _ 3 3 _ (HC2.out.alloc _) (by have := (HC2.out).lt; omega) (by omega) (by omega) ?_).mono ?_
      · exact cells_word _ _ _ _ (by rfl) (by simp [wordCell])
      rintro e w3 ⟨v, rfl, v0, hc3, ho3⟩
      have HC3 := Lib.hid hc3; have HO3 := Lib.hid ho3; have HV := Lib.hid v0; clear hc3 ho3 v0
      go_wp2_with fail
      go_ret
      exact ⟨v, rfl, HV.out, HC3.out, (HO1.out.trans HO2.out).trans ((Kept.alloc b w2 _).trans HO3.out)⟩
  · go_wp2_with fail
    refine (pick_any b sv len _ 3 3 _ (HC1.out.alloc _) (by have := (HC1.out).lt; omega) (by omega) (by omega) ?_).mono ?_
    · exact cells_word _ _ _ _ (by rfl) (by simp [wordCell])
    rintro e w3 ⟨v, rfl, v0, hc3, ho3⟩
    have HC3 := Lib.hid hc3; have HO3 := Lib.hid ho3; have HV := Lib.hid v0; clear hc3 ho3 v0
    go_wp2_with fail
    go_ret
    exact ⟨v, rfl, HV.out, HC3.out, HO1.out.trans ((Kept.alloc b w1 _).trans HO3.out)⟩

def Words (zs : List Int) : Prop := ∀ z ∈ zs, Word z
/-- A new slice of at most four words; the reader goes on. -/
def WordsOut (b : Nat) (sv : Value) (len : Nat) (w : World) (en : Ending) (w' : World) : Prop :=
  ∃ v zs, en = .returned v ∧ Own .i64 3 w.heap.size w'.heap.size w' v zs ∧ Words zs ∧ zs.length ≤ 4 ∧ Cur b sv len w' ∧ Kept b w w'

set_option maxHeartbeats 2000000 in
theorem words_any (b : Nat) (sv : Value) (len : Nat) (w : World) (hc : Cur b sv len w) :
    Calls Try.prog 46 #[.pointer (some ⟨b, 0, none⟩)] w (WordsOut b sv len w) := by
  obtain ⟨i0, hi0, hz0, hz1, hz2⟩ := info_parts info64
  have hbl := hc.lt
  have HC0 := Lib.hid (hc.alloc (.cells #[] 3)); clear hc
  have HM := Lib.hid (Mine.empty .i64 3 w w w.heap.size (Below.refl _ _) (Nat.le_refl _))
  go_enter Try.func46, Try.ntmps46
  go_wp2_with fail
  refine (below_any b sv len 5 _ HC0.out).mono ?_
  rintro e w1 ⟨y, rfl, y0, y1, y2, hc1, ho1⟩
  have hy := y1 (by omega)
  have hown1 := own_kept HM.out.own ho1.kept (Or.inl hbl)
  have hk1 : Kept b w w1 := (Kept.alloc b w _).trans ho1.kept
  have hs1 : w.heap.size ≤ w1.heap.size := hk1.size
  have HC1 := Lib.hid hc1; have HO1 := Lib.hid hown1; have HK1 := Lib.hid hk1; have HS1 := Lib.hid hs1
  clear hc1 ho1 y1 hown1 hk1 hs1
  obtain ⟨m, rfl⟩ := Int.eq_ofNat_of_zero_le y0
  go_wp2
  go_loopw [3, 4] (fun v i wr => ∃ (k : Nat) (zs : List Int), k ≤ m ∧ i = .int .i64 k ∧ zs.length + k = m ∧ Words zs ∧ wr.ownsRow w.heap.size 3 1 v zs.length (zs.map (.int .i64)) ∧ w.heap.size ≤ wr.heap.size ∧ Cur b sv len wr ∧ Kept b w wr) (fun _ i _ => (intOf i).toNat)
  case atStart => exact ⟨m, [], Nat.le_refl _, rfl, by simp, (fun z hz => by cases hz), HO1.out.1, HS1.out, HC1.out, HK1.out⟩
  case round =>
    obtain ⟨k, zs, hk, rfl, hz, hzb, hown, hsz, hcur, hkept⟩ := hrel
    have HZ := Lib.hid hz; have HZB := Lib.hid hzb; have HO := Lib.hid hown; have HS := Lib.hid hsz; have HCU := Lib.hid hcur; have HK := Lib.hid hkept
    clear hz hzb hown hsz hcur hkept HC0 HM HO1 HK1 HS1 HC1
    by_cases hlt : (0 : Int) < (k : Int)
    · go_wp2_with fail
      refine (word_any b sv len wr HCU.out).mono ?_
      rintro e w2 ⟨x, rfl, hx, hc2, hk2⟩
      have HC2 := Lib.hid hc2; have HK2 := Lib.hid hk2; have HX := Lib.hid hx; clear hc2 hk2 hx
      have hown1 := own_kept (lo := w.heap.size) (hi := wr.heap.size) ⟨HO.out, fun g hg => (HO.out.lt g hg).2⟩ HK2.out (Or.inl hbl)
      have HM1 := Lib.hid (show Mine .i64 3 w.heap.size w2 w2 u3 zs from ⟨hown1.1, Below.refl _ _, Nat.le_trans HS.out HK2.out.size⟩)
      clear hown1
      go_wp2_with (at_builtin; refine wpList_app rfl _ _ 28 rfl .i64 3 i0 (.int .i64 0) 8 Try.underlying28 hi0 hz0 hz1 hz2 rfl w.heap.size w2 _ zs rfl (HM1.out.alloc _) _ _ [x] rfl (reads_one _ _ _ rfl) (by decide) ?c3 ?_)
      case c3 => have := HZ.out; simp; omega
      intro v' w3 hm3
      have HM3 := Lib.hid hm3; clear hm3
      go_wp2
      go_roundw
      case rel => exact ⟨k - 1, zs ++ [x], by omega, by go_num, by rw [List.length_append]; have := HZ.out; simp; omega, (fun z hz => by
          rcases List.mem_append.1 hz with h | h
          · exact HZB.out z h
          · simp at h; subst h; exact HX.out), HM3.out.row, HM3.out.size, cur_below HC2.out HM3.out.below hbl, kept_below (HK.out.trans HK2.out) HM3.out.below (Nat.le_refl _)⟩
      case measure => simp [intOf]; omega
    · go_wp2
      go_ret
      exact ⟨_, zs, rfl, ⟨HO.out, fun g hg => (HO.out.lt g hg).2⟩, HZB.out, by have := HZ.out; omega, HCU.out, HK.out⟩

/-- A word, and a new slice of at most 20 bytes. -/
def DrawnWB (w : World) (en : Ending) (w' : World) : Prop :=
  ∃ k v zs, en = .returned (.tuple #[.int .i64 k, v]) ∧ Word k ∧ Own .u8 5 w.heap.size w'.heap.size w' v zs ∧ Bytes zs ∧ zs.length ≤ 20 ∧ Below w.heap.size w w'
/-- A word, and a new slice of at most four words. -/
def DrawnWW (w : World) (en : Ending) (w' : World) : Prop :=
  ∃ k v zs, en = .returned (.tuple #[.int .i64 k, v]) ∧ Word k ∧ Own .i64 3 w.heap.size w'.heap.size w' v zs ∧ Words zs ∧ zs.length ≤ 4 ∧ Below w.heap.size w w'
/-- A word, and a short string. -/
def DrawnWS (w : World) (en : Ending) (w' : World) : Prop :=
  ∃ k s, en = .returned (.tuple #[.int .i64 k, .string s]) ∧ Word k ∧ s.size ≤ 100 ∧ Below w.heap.size w w'

set_option maxHeartbeats 1000000 in
theorem drawEn_any (sv : Value) (len : Nat) (w : World) (hc : CodeOk w.heap.size w sv len) :
    Calls Try.prog 13 #[sv] w (DrawnWB w) := by
  go_enter Try.func13, Try.ntmps13
  go_wp2_with fail
  refine (new_any sv len _ hc).mono ?_
  rintro e w1 ⟨rfl, hc1, hb1⟩
  have HC1 := Lib.hid hc1; have HB1 := Lib.hid hb1; clear hc1 hb1 hc
  go_wp2_with fail
  refine (word_any _ sv len _ HC1.out).mono ?_
  rintro e w2 ⟨k, rfl, hk, hc2, hk2⟩
  have HC2 := Lib.hid hc2; have HK2 := Lib.hid hk2; have HKW := Lib.hid hk; clear hc2 hk2 hk
  go_wp2_with fail
  refine (below_any _ sv len 8 _ HC2.out).mono ?_
  rintro e w3 ⟨y, rfl, y0, y1, y2, hc3, ho3⟩
  have hy := y1 (by omega)
  have HC3 := Lib.hid hc3; have HK3 := Lib.hid ho3.kept; clear hc3 ho3 y1
  go_wp2_with fail
  refine (bytes_any _ sv len y 8 _ HC3.out (by omega) (by omega)).mono ?_
  rintro e w4 ⟨v, zs, rfl, hown, hzb, hzl, hc4, hk4⟩
  have HK4 := Lib.hid hk4; have HO := Lib.hid hown; have HZB := Lib.hid hzb; have HZL := Lib.hid hzl; clear hc4 hk4 hown hzb hzl
  go_wp2
  go_ret2
  have hs1 := HB1.out.size
  have hs2 := HK2.out.size
  have hs3 := HK3.out.size
  exact ⟨k, v, zs, rfl, HKW.out, HO.out.mono (by omega) (Nat.le_refl _), HZB.out, by have := HZL.out; omega, HB1.out.trans (((HK2.out.trans HK3.out).trans HK4.out).below hs1)⟩

set_option maxHeartbeats 1000000 in
theorem drawKH_any (sv : Value) (len : Nat) (w : World) (hc : CodeOk w.heap.size w sv len) :
    Calls Try.prog 17 #[sv] w (DrawnWW w) := by
  go_enter Try.func17, Try.ntmps17
  go_wp2_with fail
  refine (new_any sv len _ hc).mono ?_
  rintro e w1 ⟨rfl, hc1, hb1⟩
  have HC1 := Lib.hid hc1; have HB1 := Lib.hid hb1; clear hc1 hb1 hc
  go_wp2_with fail
  refine (word_any _ sv len _ HC1.out).mono ?_
  rintro e w2 ⟨k, rfl, hk, hc2, hk2⟩
  have HC2 := Lib.hid hc2; have HK2 := Lib.hid hk2; have HKW := Lib.hid hk; clear hc2 hk2 hk
  go_wp2_with fail
  refine (words_any _ sv len _ HC2.out).mono ?_
  rintro e w4 ⟨v, zs, rfl, hown, hzb, hzl, hc4, hk4⟩
  have HK4 := Lib.hid hk4; have HO := Lib.hid hown; have HZB := Lib.hid hzb; have HZL := Lib.hid hzl; clear hc4 hk4 hown hzb hzl
  go_wp2
  go_ret2
  have hs1 := HB1.out.size
  have hs2 := HK2.out.size
  exact ⟨k, v, zs, rfl, HKW.out, HO.out.mono (by omega) (Nat.le_refl _), HZB.out, HZL.out, HB1.out.trans ((HK2.out.trans HK4.out).below hs1)⟩

set_option maxHeartbeats 1000000 in
theorem drawDS_any (sv : Value) (len : Nat) (w : World) (hc : CodeOk w.heap.size w sv len) :
    Calls Try.prog 22 #[sv] w (DrawnWS w) := by
  go_enter Try.func22, Try.ntmps22
  go_wp2_with fail
  refine (new_any sv len _ hc).mono ?_
  rintro e w1 ⟨rfl, hc1, hb1⟩
  have HC1 := Lib.hid hc1; have HB1 := Lib.hid hb1; clear hc1 hb1 hc
  go_wp2_with fail
  refine (word_any _ sv len _ HC1.out).mono ?_
  rintro e w2 ⟨k, rfl, hk, hc2, hk2⟩
  have HC2 := Lib.hid hc2; have HK2 := Lib.hid hk2; have HKW := Lib.hid hk; clear hc2 hk2 hk
  go_wp2_with fail
  refine (str_any _ sv len _ 6 6 _ (HC2.out.alloc _) (by have := (HC2.out).lt; omega) (by omega) (by omega) ?_).mono ?_
  · exact cells_str _ _ _ _ (by rfl) (by kernel_rfl)
  rintro e w4 ⟨s, rfl, hs, hc4, hk4⟩
  have HK4 := Lib.hid hk4; have HSS := Lib.hid hs; clear hc4 hk4 hs
  go_wp2
  go_ret2
  have hs1 := HB1.out.size
  exact ⟨k, s, rfl, HKW.out, HSS.out, HB1.out.trans ((HK2.out.trans ((Kept.alloc _ w2 _).trans HK4.out)).below hs1)⟩
end Go.Proofs.Ytlehahpgdafnoaa
