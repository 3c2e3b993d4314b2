/- Helper contract: ReadBytes of the model gives a new slice with the bytes, the offset behind them, and whether there are such. Asked: the slice reads as the list named, of bytes. -/
import Derived.Test.YtemoegnijnhigaaReadB
namespace Go.Proofs.Ytemoegnijnhigaa
open Go.ChangeShapes Go.WideShapes Go.ChangeAt Go.RowKit

set_option maxHeartbeats 2000000 in
theorem specReadB_any (v : Value) (hi : Nat) (bs : List Int) (o most : Int) (w : World) (hr : Reads .u8 hi w v bs) (hh : hi ≤ w.heap.size) (hb : Bytes bs) (q0 : -9223372036854775808 ≤ o) (q1 : o ≤ 9223372036854775807) (hl : bs.length ≤ 1099511627776) :
    Calls Try.prog 33 #[v, .int .i64 o, .int .i64 most] w (Three .u8 5 (readB bs o most) w) := by
  obtain ⟨i0, hi0, hz0, hz1, hz2⟩ := info_parts info8
  have HR := Lib.hid hr; have HBY := Lib.hid hb
  obtain ⟨a, cap, rfl, h1, h2, h3, -⟩ := hr
  have H3 := Lib.hid h3
  clear hb h3
  cases hru : readU bs o with
  | none =>
    have hr : readB bs o most = none := by unfold readB; rw [hru]
    have HRU := Lib.hid hru; have HRB := Lib.hid hr; clear hru hr
    go_enter Try.func33, Try.ntmps33
    go_wp2_with fail
    refine (specRead_any _ hi bs o w HR.out HBY.out q0 q1 hl).mono ?_
    rintro e w1 ⟨he, hb1⟩
    rw [HRU.out] at he
    simp only [uval, uv, un, ub] at he
    subst he
    have HM := Lib.hid (Mine.empty .u8 5 w w1 w.heap.size hb1 hb1.size); clear hb1
    go_wp2
    go_ret3
    exact ⟨_, by rw [HRB.out]; rfl, by rw [HRB.out]; exact HM.out.own, HM.out.below⟩
  | some q =>
    obtain ⟨n, k⟩ := q
    obtain ⟨o0, n0, n1, k0, k6, hok⟩ := readU_some HBY.out hru
    have HRU := Lib.hid hru
    by_cases hbad : most < n ∨ (bs.length : Int) - (o + k) < n
    · have hr : readB bs o most = none := by unfold readB; rw [hru]; exact if_pos hbad
      have HRB := Lib.hid hr; clear hru hr
      have HBD := Lib.hid hbad; clear hbad
      go_enter Try.func33, Try.ntmps33
      go_wp2_with fail
      refine (specRead_any _ hi bs o w HR.out HBY.out q0 q1 hl).mono ?_
      rintro e w1 ⟨he, hb1⟩
      rw [HRU.out] at he
      simp only [uval, uv, un, ub] at he
      subst he
      have HM := Lib.hid (Mine.empty .u8 5 w w1 w.heap.size hb1 hb1.size); clear hb1
      by_cases hm : most < n
      · go_wp2
        go_ret3
        exact ⟨_, by rw [HRB.out]; rfl, by rw [HRB.out]; exact HM.out.own, HM.out.below⟩
      · have hm2 : (bs.length : Int) - (o + k) < n := by have := HBD.out; omega
        go_wp2
        go_ret3
        exact ⟨_, by rw [HRB.out]; rfl, by rw [HRB.out]; exact HM.out.own, HM.out.below⟩
    · obtain ⟨p, rfl⟩ := Int.eq_ofNat_of_zero_le o0
      obtain ⟨m, rfl⟩ := Int.eq_ofNat_of_zero_le n0
      have hr : readB bs p most = some ((bs.take (p + k + m)).drop (p + k), (p : Int) + k + m) := by unfold readB; rw [hru]; exact if_neg hbad
      obtain ⟨q, hq⟩ : ∃ q : Nat, p + k = q := ⟨_, rfl⟩
      have hqi : (p : Int) + (k : Int) = (q : Int) := by omega
      rw [hq, hqi] at hr
      have HRB := Lib.hid hr; clear hru hr
      have hb1 : ¬ most < (m : Int) := by omega
      have HQI := Lib.hid hqi
      obtain ⟨len, hlen⟩ : ∃ len, bs.length = len := ⟨_, rfl⟩
      rw [hlen] at h1 hl HR ⊢
      have hb2 : q + m ≤ len := by omega
      have HLEN := Lib.hid hlen
      have hk0 := k0
      clear hbad hok hq hqi hlen k6
      cases a with
      | none => have := H3.out rfl; have := HLEN.out; have := HQI.out; exfalso; omega
      | some ad =>
        have HCUT := Lib.hid (fun (w' : World) (h : Reads .u8 hi w' (.slice (some ad) len cap) bs) => reads_cut h (show q + m ≤ bs.length by have := HLEN.out; omega))
        go_enter Try.func33, Try.ntmps33
        go_wp2_with fail
        refine (specRead_any _ hi bs p w (by have h := HR.out; exact h) HBY.out q0 q1 (by have := HLEN.out; omega)).mono ?_
        rintro e w1 ⟨he, hbe⟩
        rw [HRU.out] at he
        simp only [uval, uv, un, ub] at he
        rw [HQI.out] at he
        subst he
        have HM := Lib.hid (Mine.empty .u8 5 w w1 w.heap.size hbe hbe.size)
        have HB1 := Lib.hid (hbe.alloc hbe.size (.cells #[] 5)); clear hbe
        have hd1 : ¬ most < (m : Int) := by omega
        have hd2 : ¬ (len : Int) - (q : Int) < (m : Int) := by omega
        clear hb1
        by_cases hcap : cap = q
        · obtain rfl : m = 0 := by omega
          subst hcap
          obtain rfl : len = cap := by omega
          have hemp : (bs.take (len + 0)).drop len = [] := List.drop_eq_nil_of_le (by rw [List.length_take]; omega)
          rw [hemp] at HRB
          clear hemp
          go_wp2_with (at_builtin; refine wpList_app rfl _ _ 22 rfl .u8 5 i0 (.int .u8 0) 1 Try.underlying22 hi0 hz0 hz1 hz2 rfl w.heap.size w _ [] rfl HM.out _ hi [] rfl (reads_empty _ _ _ _) (by decide) ?c3 ?_)
          case c3 => simp
          intro v' w3 hm3
          have HM3 := Lib.hid hm3; clear hm3
          go_wp2
          go_ret3
          exact ⟨_, by rw [HRB.out]; first | rfl | simp [bn, bb], by rw [HRB.out]; simpa [bl] using HM3.out.own, HM3.out.below⟩
        · go_wp2_with (at_builtin; refine wpList_app rfl _ _ 22 rfl .u8 5 i0 (.int .u8 0) 1 Try.underlying22 hi0 hz0 hz1 hz2 rfl w.heap.size w _ [] rfl HM.out _ hi ((bs.take (q + m)).drop q) rfl ?cr (by decide) ?c3 ?_)
          case cr =>
            show Reads .u8 hi _ (.slice (some (ad.add q)) (q + m - q) (cap - q)) _
            rw [Nat.add_sub_cancel_left]
            exact HCUT.out _ (HR.out.below HB1.out hh)
          case c3 => have := HLEN.out; simp; omega
          intro v' w3 hm3
          have HM3 := Lib.hid hm3; clear hm3
          go_wp2
          go_ret3
          exact ⟨_, by rw [HRB.out]; first | rfl | simp [bn, bb], by rw [HRB.out]; simpa [bl] using HM3.out.own, HM3.out.below⟩
end Go.Proofs.Ytemoegnijnhigaa
