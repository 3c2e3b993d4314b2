/- Helper contracts over ParseInt, the model's and the program's: both return the number, at most 1000000000000, whose numeral the string is, and false for every other string. Asked: the library's listed variables lie in memory as their initialisers lay them; the string is no longer than 2^48 bytes. -/
import Derived.Test.YtmlmiclgledcpaaDoorNum
import Derived.Test.YtmlmiclgledcpaaDoorFmtLawD
import Derived.Test.YtmlmiclgledcpaaDoorName
import Derived.Lib.AtoiErrMem
namespace Go.Proofs.YtmlmiclgledcpaaDoor
open Go.ChangeShapes Go.WideShapes Go.ChangeAt Go.RowKit

/-- What ParseInt returns. -/
def parsed : Option Nat → Value
  | some k => .tuple #[.int .i64 k, .bool true]
  | none => .tuple #[.int .i64 0, .bool false]

theorem str_eq {l : List UInt8} {s : ByteArray} : (ByteArray.mk l.toArray = s) ↔ l = s.data.toList := by
  constructor
  · intro h; rw [← h]
  · intro h; rw [h]

set_option maxHeartbeats 1000000 in
theorem parse_spec (s : ByteArray) (hs : s.size ≤ 9223372036854775807) (w : World) :
    Calls Tryd.prog 16 #[.string s] w fun e w' => e = .returned (parsed (numOf s.data.toList)) ∧ Below w.heap.size w w' := by
  have hsl : s.data.toList.length = s.size := Array.length_toList
  by_cases hl : 1 ≤ (s.size : Int) ∧ (s.size : Int) ≤ 13
  · obtain ⟨hl1, hl2⟩ := hl
    have e1 : inB s.size 1 13 = true := inB_yes hl1 hl2
    have HSL := Lib.hid hsl; clear hsl
    go_enter Tryd.func16, Tryd.ntmps16
    go_wp2_with (go_at_call 17; refine (lin_any _ _ _ _).mono ?_; rintro e w' ⟨rfl, rfl⟩)
    go_loop [4, 5] (fun n i => ∃ (k v : Nat), k ≤ s.size ∧ i = .int .i64 k ∧ n = .int .i64 v ∧ Lib.decFrom 0 (s.data.toList.take k) = some v) (fun _ i => s.size - (intOf i).toNat)
    case atStart => exact ⟨0, 0, Nat.zero_le _, rfl, rfl, rfl⟩
    case round =>
      obtain ⟨k, v, hk, rfl, rfl, hv⟩ := hrel
      have hv13 := decFrom_lt13 hv (by rw [HSL.out]; omega)
      have HV := Lib.hid hv; clear hv
      by_cases hlt : k < s.size
      · have hlt2 : decide ((k : Int) < (s.size : Int)) = true := by simp; omega
        have hb8 : (s[k].toNat : Int) < 256 := by have := UInt8.toNat_lt s[k]; omega
        by_cases hd : (48 : Int) ≤ (s[k].toNat : Int) ∧ (s[k].toNat : Int) ≤ 57
        · have e2 : inB (s[k].toNat : Int) 48 57 = true := inB_yes hd.1 hd.2
          obtain ⟨hd1, hd2⟩ := hd
          go_wp2_with (go_at_call 17; refine (lin_any _ _ _ _).mono ?_; rintro e w' ⟨rfl, rfl⟩)
          go_round
          case rel =>
            refine ⟨k + 1, v * 10 + (s[k].toNat - 48), by omega, by go_num, ?_, decFrom_step HV.out (get_at hlt) (by omega) (by omega)⟩
            rw [show (10 * (v : Int) + ((s[k].toNat : Int) - 48)) = ((v * 10 + (s[k].toNat - 48) : Nat) : Int) from by omega]
          case measure => simp [intOf]; omega
        · have e2 : inB (s[k].toNat : Int) 48 57 = false := inB_no (by omega)
          have HN := Lib.hid (numOf_byte (get_at hlt) (by omega))
          clear hd
          go_wp2_with (go_at_call 17; refine (lin_any _ _ _ _).mono ?_; rintro e w' ⟨rfl, rfl⟩)
          go_ret2
          exact ⟨by rw [HN.out]; rfl, Below.refl _ _⟩
      · have hke : k = s.size := by omega
        have HV' : Hid (Lib.decFrom 0 s.data.toList = some v) := by
          have h1 := HV.out
          rw [List.take_of_length_le (by rw [HSL.out]; omega)] at h1
          exact h1
        clear HV hke
        have hfv : fmtS v = ⟨(Lib.decDigits v).toArray⟩ := by unfold fmtS; rw [Lib.itoa, if_neg (by omega), Int.toNat_natCast]
        by_cases hbig : (v : Int) ≤ 1000000000000
        · by_cases heq : Lib.decDigits v = s.data.toList
          · have HN := Lib.hid (numOf_eq (by omega) heq)
            have hfs : ((fmtS v).toList == s.toList) = true := by
              rw [show fmtS v = s by rw [hfv]; exact str_eq.2 heq]; exact beq_self_eq_true _
            clear heq hfv
            go_wp2_with fail
            refine (fmt_spec v (by omega) (by omega) _).mono ?_
            rintro e w1 ⟨rfl, hb1⟩
            have HB1 := Lib.hid hb1; clear hb1
            go_wp2
            go_ret2
            exact ⟨by rw [HN.out]; rfl, HB1.out⟩
          · have HN := Lib.hid (numOf_val HV'.out (Or.inr heq))
            have hfs : ((fmtS v).toList == s.toList) = false := by
              rw [hfv, beq_eq_false_iff_ne, ByteArray.toList_eq, ByteArray.toList_eq]
              exact heq
            clear heq hfv
            go_wp2_with fail
            refine (fmt_spec v (by omega) (by omega) _).mono ?_
            rintro e w1 ⟨rfl, hb1⟩
            have HB1 := Lib.hid hb1; clear hb1
            go_wp2
            go_ret2
            exact ⟨by rw [HN.out]; rfl, HB1.out⟩
        · have HN := Lib.hid (numOf_val HV'.out (Or.inl (by omega)))
          clear hfv
          go_wp2_with fail
          go_ret2
          exact ⟨by rw [HN.out]; rfl, Below.refl _ _⟩
  · have e1 : inB s.size 1 13 = false := inB_no (by omega)
    have hn : numOf s.data.toList = none := numOf_len (by omega)
    have HN := Lib.hid hn; clear hn hsl
    go_enter Tryd.func16, Tryd.ntmps16
    go_wp2_with (go_at_call 17; refine (lin_any _ _ _ _).mono ?_; rintro e w' ⟨rfl, rfl⟩)
    go_ret2
    exact ⟨by rw [HN.out]; rfl, Below.refl _ _⟩

/-- What the listed variables give. -/
structure Laid (w : World) : Prop where
  tab : Lib.TabIs Tryd.prog w "internal/strconv.uint64pow10" .u64 Lib.pow10Tab
  syn : ∃ tp p, w.var? Tryd.prog "strconv.ErrSyntax" = some #[.iface tp p]
  rng : ∃ tp p, w.var? Tryd.prog "strconv.ErrRange" = some #[.iface tp p]

theorem laid_on {w w1 : World} (h : Laid w) (hb : Below w.heap.size w w1) : Laid w1 := by
  have key : ∀ nm v, w.var? Tryd.prog nm = some v → w1.var? Tryd.prog nm = some v := by
    intro nm v hv
    unfold World.var? at *
    cases hg : Tryd.prog.globalNamed nm with
    | none => rw [hg] at hv; simp at hv
    | some g =>
      rw [hg] at hv
      simp only [Option.bind_some] at hv ⊢
      have hlt : g < w.heap.size := by
        rcases Nat.lt_or_ge g w.heap.size with h1 | h1
        · exact h1
        · rw [Array.getElem?_eq_none h1] at hv; cases hv
      rw [hb.block g hlt]; exact hv
  refine ⟨(Lib.tabBelow_of_tabIs h.tab) _ hb, ?_, ?_⟩
  · obtain ⟨tp, p, h1⟩ := h.syn; exact ⟨tp, p, key _ _ h1⟩
  · obtain ⟨tp, p, h1⟩ := h.rng; exact ⟨tp, p, key _ _ h1⟩

theorem below_or {w w1 : World} {T : TypeId} (h : w1 = w ∨ ∃ t : ByteArray, w1 = Lib.bytesWorld w T t) : Below w.heap.size w w1 := by
  rcases h with rfl | ⟨t, rfl⟩
  · exact Below.refl _ _
  · exact Lib.bytesWorld_below _ _ _

set_option maxHeartbeats 1000000 in
theorem parse_impl (s : ByteArray) (hlim : s.size ≤ 281474976710656) (w : World) (hL : Laid w) :
    Calls Tryd.prog 30 #[.string s] w fun e w' => e = .returned (parsed (numOf s.data.toList)) ∧ Below w.heap.size w w' := by
  have HL := Lib.hid hL; clear hL
  rcases h : Lib.atoiAll s.data.toList with n | _ | _
  · have hbd := Lib.atoiAll_bounds h
    by_cases hr : 0 ≤ n ∧ n ≤ 1000000000000
    · obtain ⟨hr1, hr2⟩ := hr
      obtain ⟨m, rfl⟩ : ∃ m : Nat, n = (m : Int) := ⟨n.toNat, by omega⟩
      have e1 : inB m 0 1000000000000 = true := inB_yes hr1 hr2
      have hfv : fmtS m = ⟨(Lib.decDigits m).toArray⟩ := by unfold fmtS; rw [Lib.itoa, if_neg (by omega), Int.toNat_natCast]
      by_cases heq : Lib.decDigits m = s.data.toList
      · have HN := Lib.hid (numOf_eq (by omega) heq)
        have hfs : ((fmtS m).toList == s.toList) = true := by
          rw [show fmtS m = s by rw [hfv]; exact str_eq.2 heq]; exact beq_self_eq_true _
        have H := Lib.hid h
        clear heq hfv h hbd
        go_enter Tryd.func30, Tryd.ntmps30
        go_wp2_with fail
        refine (Tryd.strconv_Atoi_ok s (by omega) _ H.out _).mono ?_
        rintro e w1 ⟨rfl, hw⟩
        have HB := Lib.hid (below_or hw); clear hw
        go_wp2_with (go_at_call 32; refine (rin_any _ _ _ _).mono ?_; rintro e w' ⟨rfl, rfl⟩)
        refine (fmt_impl m (by omega) (by omega) _ (laid_on HL.out HB.out).tab).mono ?_
        rintro e w2 ⟨rfl, hb2⟩
        have HB2 := Lib.hid hb2; clear hb2
        go_wp2
        go_ret2
        exact ⟨by rw [HN.out]; rfl, HB.out.trans (HB2.out.mono HB.out.size)⟩
      · have HN := Lib.hid (numOf_other h heq)
        have hfs : ((fmtS m).toList == s.toList) = false := by
          rw [hfv, beq_eq_false_iff_ne, ByteArray.toList_eq, ByteArray.toList_eq]
          exact heq
        have H := Lib.hid h
        clear heq hfv h hbd
        go_enter Tryd.func30, Tryd.ntmps30
        go_wp2_with fail
        refine (Tryd.strconv_Atoi_ok s (by omega) _ H.out _).mono ?_
        rintro e w1 ⟨rfl, hw⟩
        have HB := Lib.hid (below_or hw); clear hw
        go_wp2_with (go_at_call 32; refine (rin_any _ _ _ _).mono ?_; rintro e w' ⟨rfl, rfl⟩)
        refine (fmt_impl m (by omega) (by omega) _ (laid_on HL.out HB.out).tab).mono ?_
        rintro e w2 ⟨rfl, hb2⟩
        have HB2 := Lib.hid hb2; clear hb2
        go_wp2
        go_ret2
        exact ⟨by rw [HN.out]; rfl, HB.out.trans (HB2.out.mono HB.out.size)⟩
    · have e1 : inB n 0 1000000000000 = false := inB_no (by omega)
      have HN := Lib.hid (numOf_out h (by omega))
      have H := Lib.hid h
      clear h hr
      go_enter Tryd.func30, Tryd.ntmps30
      go_wp2_with fail
      refine (Tryd.strconv_Atoi_ok s (by omega) _ H.out _).mono ?_
      rintro e w1 ⟨rfl, hw⟩
      have HB := Lib.hid (below_or hw); clear hw
      go_wp2_with (go_at_call 32; refine (rin_any _ _ _ _).mono ?_; rintro e w' ⟨rfl, rfl⟩)
      go_ret2
      exact ⟨by rw [HN.out]; rfl, HB.out⟩
  · have HN := Lib.hid (numOf_syntax h)
    have H := Lib.hid h; clear h
    obtain ⟨tp, p, hv⟩ := HL.out.syn
    have HV := Lib.hid hv; clear hv
    go_enter Tryd.func30, Tryd.ntmps30
    go_wp2_with fail
    refine (Tryd.strconv_Atoi_syntax_var s hlim H.out tp p _ HV.out).mono ?_
    rintro e w1 ⟨N, rfl, -, -, hb⟩
    have HB := Lib.hid hb; clear hb
    go_wp2
    go_ret2
    exact ⟨by rw [HN.out]; rfl, HB.out⟩
  · have HN := Lib.hid (numOf_range h)
    have H := Lib.hid h; clear h
    obtain ⟨tp, p, hv⟩ := HL.out.rng
    have HV := Lib.hid hv; clear hv
    go_enter Tryd.func30, Tryd.ntmps30
    go_wp2_with fail
    refine (Tryd.strconv_Atoi_range_var s hlim H.out tp p _ HV.out).mono ?_
    rintro e w1 ⟨N, rfl, -, -, hb⟩
    have HB := Lib.hid hb; clear hb
    go_wp2
    go_ret2
    exact ⟨by rw [HN.out]; rfl, HB.out⟩

end Go.Proofs.YtmlmiclgledcpaaDoor
