/- Helper contracts: IsPolicy of the program and of the model. Asked: the policy's slices read as named, its strings are not too long. -/
import Derived.Test.YtkjjiinccljhjaaDoorPolA
import Derived.Test.YtkjjiinccljhjaaDoorPolE
import Derived.Test.YtkjjiinccljhjaaDoorVal
namespace Go.Proofs.YtkjjiinccljhjaaDoor
open Go.ChangeShapes Go.WideShapes Go.ChangeAt Go.RowKit

/-- The first k are names. -/
def nmTo (xs : List ByteArray) (k : Nat) : Prop := ∀ (j : Nat) (x : ByteArray), j < k → xs[j]? = some x → isNm x = true
theorem nmTo.zero (xs : List ByteArray) : nmTo xs 0 := fun _ _ h => absurd h (Nat.not_lt_zero _)
theorem nmTo.succ {xs : List ByteArray} {x : ByteArray} {k : Nat} (h : nmTo xs k) (hx : xs[k]? = some x) (hn : isNm x = true) : nmTo xs (k + 1) := by
  intro j y hj hy
  by_cases e : j = k
  · subst e; rw [hx] at hy; cases hy; exact hn
  · exact h j y (by omega) hy
theorem okHosts_full {xs : List ByteArray} {k : Nat} (h : nmTo xs k) (hk : xs.length = k) : okHosts xs = decide (xs.length ≤ 4) := by
  unfold okHosts
  have : xs.all isNm = true := List.all_eq_true.2 fun x hx => by
    obtain ⟨j, hj⟩ := List.mem_iff_getElem?.1 hx
    exact h j x (by have := (List.getElem?_eq_some_iff.1 hj).1; omega) hj
  rw [this, Bool.and_true]
theorem okHosts_bad {xs : List ByteArray} {x : ByteArray} {k : Nat} (hx : xs[k]? = some x) (h : isNm x = false) : okHosts xs = false := by
  unfold okHosts
  have : xs.all isNm = false := by
    rw [Bool.eq_false_iff]
    intro ha
    have := List.all_eq_true.1 ha x (List.mem_of_getElem? hx)
    rw [h] at this; cases this
  rw [this, Bool.and_false]
theorem okHosts_long {xs : List ByteArray} (h : ¬ xs.length ≤ 4) : okHosts xs = false := by
  unfold okHosts; rw [decide_eq_false h, Bool.false_and]

theorem nilReads (hi : Nat) (w : World) : ReadsK encS 1 hi w (.slice none 0 0) [] := ⟨none, 0, rfl, Nat.le_refl _, by omega, (fun _ => rfl), Or.inl rfl⟩
theorem ReadsK.len {hi n c : Nat} {w : World} {a : Option Addr} {xs : List ByteArray} (h : ReadsK encS 1 hi w (.slice a n c) xs) : n = xs.length := by
  obtain ⟨_, _, e, _⟩ := h
  injection e

/-- The strings of a policy are not too long. -/
def PolSm (p : Pol) : Prop := (p.scr.length + sumSt p.scr ≤ 1048576) ∧ (p.sty.length + sumSt p.sty ≤ 1048576) ∧ (p.img.length + sumSt p.img ≤ 1048576) ∧ p.non.size ≤ 1048576
theorem small_of {xs : List ByteArray} (h : xs.length + sumSt xs ≤ 1048576) : ∀ s ∈ xs, s.size ≤ 9223372036854775807 := fun s hs => by
  have := sum_le_at hs; unfold sumSt at h; omega
theorem isPol_off_no {scr sty img : List ByteArray} {non : ByteArray} (h : ¬ (scr.length = 0 ∧ sty.length = 0 ∧ img.length = 0 ∧ non.size = 0)) : isPol ⟨false, scr, sty, img, non⟩ = false := by
  rw [Bool.eq_false_iff]
  intro he
  unfold isPol at he
  rw [if_neg Bool.false_ne_true, Bool.and_eq_true, Bool.and_eq_true, Bool.and_eq_true] at he
  obtain ⟨⟨⟨a, b⟩, c⟩, d⟩ := he
  exact h ⟨of_decide_eq_true a, of_decide_eq_true b, of_decide_eq_true c, of_decide_eq_true d⟩
theorem isPol_off_yes {scr sty img : List ByteArray} {non : ByteArray} (h : scr.length = 0 ∧ sty.length = 0 ∧ img.length = 0 ∧ non.size = 0) : isPol ⟨false, scr, sty, img, non⟩ = true := by
  unfold isPol
  rw [if_neg Bool.false_ne_true, Bool.and_eq_true, Bool.and_eq_true, Bool.and_eq_true]
  exact ⟨⟨⟨decide_eq_true h.1, decide_eq_true h.2.1⟩, decide_eq_true h.2.2.1⟩, decide_eq_true h.2.2.2⟩
theorem isPol_eqZ (scr sty img : List ByteArray) (non : ByteArray) : eqP ⟨false, scr, sty, img, non⟩ polZ = isPol ⟨false, scr, sty, img, non⟩ := by
  have e : ∀ l : List ByteArray, decide (l = []) = decide (l.length = 0) := fun l => decide_eq_decide.2 List.length_eq_zero_iff.symm
  have e2 : decide (non = ⟨#[]⟩) = decide (non.size = 0) := decide_eq_decide.2 ⟨fun h => by rw [h]; rfl, emptyB⟩
  unfold eqP isPol polZ
  rw [if_neg Bool.false_ne_true]
  show ((false == false) && decide (scr = []) && decide (sty = []) && decide (img = []) && decide (non = ⟨#[]⟩)) = _
  rw [e, e, e, e2]; rfl

set_option maxRecDepth 100000 in
set_option maxHeartbeats 2000000 in
theorem names_spec (v : Value) (hi : Nat) (xs : List ByteArray) (w : World) (hr : ReadsK encS 1 hi w v xs) (hz : ∀ s ∈ xs, s.size ≤ 9223372036854775807) :
    Calls Tryd.prog 22 #[v] w fun e w' => e = .returned (.bool (okHosts xs)) ∧ w = w' := by
  obtain ⟨a, cap, rfl, hc1, hc2, _⟩ := id hr
  obtain ⟨n, hn⟩ : ∃ n, xs.length = n := ⟨_, rfl⟩
  rw [hn] at hr hc1 ⊢
  have HN := Lib.hid hn; have HR := Lib.hid hr; have HZ := Lib.hid hz; clear hn hr hz
  go_enter Tryd.func22, Tryd.ntmps22
  go_wp2
  go_loop [3] (fun i => ∃ (k : Nat), k ≤ n ∧ i = .int .i64 k ∧ nmTo xs k) (fun i => n - (intOf i).toNat)
  case atStart => exact ⟨0, Nat.zero_le _, rfl, nmTo.zero _⟩
  case round =>
    obtain ⟨k, hk, rfl, hnot⟩ := hrel
    have HNI := Lib.hid hnot; clear hnot
    by_cases hlt : (k : Int) < (n : Int)
    · obtain ⟨x, hx⟩ := ssAt (xs := xs) (j := k) (by have := HN.out; omega)
      obtain ⟨g, off, rfl, _, c0⟩ := str_cell HR.out hx
      have HX := Lib.hid hx; have hxz := HZ.out x (List.mem_of_getElem? hx); clear hx
      have HC := Lib.hid (fun W => nm_spec x hxz W)
      cases h1 : isNm x with
      | false =>
        have HV := Lib.hid (okHosts_bad HX.out h1)
        rw [h1] at HC; clear h1
        go_wp2_with (go_at_call 42; refine (HC.out _).mono ?_; rintro e w' ⟨rfl, rfl⟩)
        go_ret
        exact ⟨by rw [HV.out]; rfl, rfl⟩
      | true =>
        have HS := Lib.hid (HNI.out.succ HX.out h1)
        rw [h1] at HC; clear h1
        go_wp2_with (go_at_call 42; refine (HC.out _).mono ?_; rintro e w' ⟨rfl, rfl⟩)
        go_round
        case rel => exact ⟨k + 1, by omega, by go_num, HS.out⟩
        case measure => simp [intOf]; omega
    · have hlf : decide ((k : Int) < (n : Int)) = false := decide_eq_false hlt
      have HV := Lib.hid (okHosts_full (k := n) (by rw [show n = k by omega]; exact HNI.out) HN.out)
      by_cases h4 : (n : Int) ≤ 4
      · have h4d : decide ((n : Int) ≤ 4) = true := decide_eq_true h4
        have HW := Lib.hid (show okHosts xs = true by rw [HV.out, HN.out]; exact decide_eq_true (by omega))
        go_wp2
        go_ret
        exact ⟨by rw [HW.out]; rfl, rfl⟩
      · have h4d : decide ((n : Int) ≤ 4) = false := decide_eq_false h4
        have HW := Lib.hid (show okHosts xs = false by rw [HV.out, HN.out]; exact decide_eq_false (by omega))
        go_wp2
        go_ret
        exact ⟨by rw [HW.out]; rfl, rfl⟩

set_option maxRecDepth 100000 in
set_option maxHeartbeats 2000000 in
theorem names_impl (v : Value) (hi : Nat) (xs : List ByteArray) (w : World) (hr : ReadsK encS 1 hi w v xs) (hz : ∀ s ∈ xs, s.size ≤ 9223372036854775807) :
    Calls Tryd.prog 20 #[v] w fun e w' => e = .returned (.bool (okHosts xs)) ∧ w = w' := by
  obtain ⟨a, cap, rfl, hc1, hc2, _⟩ := id hr
  obtain ⟨n, hn⟩ : ∃ n, xs.length = n := ⟨_, rfl⟩
  rw [hn] at hr hc1 ⊢
  have HN := Lib.hid hn; have HR := Lib.hid hr; have HZ := Lib.hid hz; clear hn hr hz
  by_cases h4 : (4 : Int) < (n : Int)
  · have HV := Lib.hid (okHosts_long (xs := xs) (by have := HN.out; omega))
    go_enter Tryd.func20, Tryd.ntmps20
    go_wp2
    go_ret
    exact ⟨by rw [HV.out]; rfl, rfl⟩
  have h4d : decide ((4 : Int) < (n : Int)) = false := decide_eq_false h4
  go_enter Tryd.func20, Tryd.ntmps20
  go_wp2
  go_loop [10] (fun i => ∃ (k : Nat), k ≤ n ∧ i = .int .i64 k ∧ nmTo xs k) (fun i => n - (intOf i).toNat)
  case atStart => exact ⟨0, Nat.zero_le _, rfl, nmTo.zero _⟩
  case round =>
    obtain ⟨k, hk, rfl, hnot⟩ := hrel
    have HNI := Lib.hid hnot; clear hnot
    by_cases hlt : (k : Int) < (n : Int)
    · obtain ⟨x, hx⟩ := ssAt (xs := xs) (j := k) (by have := HN.out; omega)
      obtain ⟨g, off, rfl, _, c0⟩ := str_cell HR.out hx
      have HX := Lib.hid hx; have hxz := HZ.out x (List.mem_of_getElem? hx); clear hx
      have HC := Lib.hid (fun W => nm_impl x hxz W)
      cases h1 : isNm x with
      | false =>
        have HV := Lib.hid (okHosts_bad HX.out h1)
        rw [h1] at HC; clear h1
        go_wp2_with (go_at_call 39; refine (HC.out _).mono ?_; rintro e w' ⟨rfl, rfl⟩)
        go_ret
        exact ⟨by rw [HV.out]; rfl, rfl⟩
      | true =>
        have HS := Lib.hid (HNI.out.succ HX.out h1)
        rw [h1] at HC; clear h1
        go_wp2_with (go_at_call 39; refine (HC.out _).mono ?_; rintro e w' ⟨rfl, rfl⟩)
        go_round
        case rel => exact ⟨k + 1, by omega, by go_num, HS.out⟩
        case measure => simp [intOf]; omega
    · have hlf : decide ((k : Int) < (n : Int)) = false := decide_eq_false hlt
      have HV := Lib.hid (okHosts_full (k := n) (by rw [show n = k by omega]; exact HNI.out) HN.out)
      have HW := Lib.hid (show okHosts xs = true by rw [HV.out, HN.out]; exact decide_eq_true (by omega))
      go_wp2
      go_ret
      exact ⟨by rw [HW.out]; rfl, rfl⟩

set_option maxRecDepth 100000 in
set_option maxHeartbeats 4000000 in
theorem isPol_spec (set : Bool) (scr sty img : List ByteArray) (non : ByteArray) (a1 : Option Addr) (n1 c1 : Nat) (a2 : Option Addr) (n2 c2 : Nat) (a3 : Option Addr) (n3 c3 : Nat) (hz : PolSm ⟨set, scr, sty, img, non⟩) (w : World) (hr : ReadP w.heap.size w (.slice a1 n1 c1) (.slice a2 n2 c2) (.slice a3 n3 c3) ⟨set, scr, sty, img, non⟩) :
    Calls Tryd.prog 9 #[.agg #[.bool set, .slice a1 n1 c1, .slice a2 n2 c2, .slice a3 n3 c3, .string non]] w fun e w' => e = .returned (.bool (isPol ⟨set, scr, sty, img, non⟩)) ∧ Grw w w' := by
  obtain ⟨z1, z2, z3, z4⟩ := hz
  cases set with
  | false =>
    have k1 : n1 = scr.length := hr.1.len; have k2 : n2 = sty.length := hr.2.1.len; have k3 : n3 = img.length := hr.2.2.len
    obtain ⟨W, hW⟩ : ∃ W, w.alloc (.cells #[.bool false, .slice a1 n1 c1, .slice a2 n2 c2, .slice a3 n3 c3, .string non] 26) = W := ⟨_, rfl⟩
    have HG := Lib.hid (show Grw w W by rw [← hW]; exact (Grw.refl w).alloc _)
    have q0 : W.cell? ⟨w.heap.size, 0, none⟩ = some (.bool false) := by rw [← hW]; simp
    have q1 : W.cell? ⟨w.heap.size, 1, none⟩ = some (.slice a1 n1 c1) := by rw [← hW]; simp
    have q2 : W.cell? ⟨w.heap.size, 2, none⟩ = some (.slice a2 n2 c2) := by rw [← hW]; simp
    have q3 : W.cell? ⟨w.heap.size, 3, none⟩ = some (.slice a3 n3 c3) := by rw [← hW]; simp
    have q4 : W.cell? ⟨w.heap.size, 4, none⟩ = some (.string non) := by rw [← hW]; simp
    obtain ⟨hr1, hr2, hr3⟩ := (hr.below HG.out.below (Nat.le_refl _)).mono HG.out.below.size
    have HR1 := Lib.hid hr1; have HR2 := Lib.hid hr2; have HR3 := Lib.hid hr3; clear hr hr1 hr2 hr3
    clear z1 z2 z3 z4
    by_cases m1 : n1 = 0
    · have b1 : ((n1 : Int) == 0) = true := beq_iff_eq.2 (by omega)
      by_cases m2 : n2 = 0
      · have b2 : ((n2 : Int) == 0) = true := beq_iff_eq.2 (by omega)
        by_cases m3 : n3 = 0
        · have b3 : ((n3 : Int) == 0) = true := beq_iff_eq.2 (by omega)
          by_cases m4 : non.size = 0
          · have b4 : (non.toList == []) = true := by rw [empP_size, decide_eq_true m4]
            have HV := Lib.hid (isPol_off_yes (scr := scr) (sty := sty) (img := img) (non := non) (by omega))
            clear m1 m2 m3 m4 k1 k2 k3
            go_enter Tryd.func9, Tryd.ntmps9
            go_wp2_with fail
            go_ret
            exact ⟨by rw [HV.out]; rfl, HG.out⟩
          · have b4 : (non.toList == []) = false := by rw [empP_size, decide_eq_false m4]
            have HV := Lib.hid (isPol_off_no (scr := scr) (sty := sty) (img := img) (non := non) (by omega))
            clear m1 m2 m3 m4 k1 k2 k3
            go_enter Tryd.func9, Tryd.ntmps9
            go_wp2_with fail
            go_ret
            exact ⟨by rw [HV.out]; rfl, HG.out⟩
        · have b3 : ((n3 : Int) == 0) = false := beq_eq_false_iff_ne.2 (by omega)
          have HV := Lib.hid (isPol_off_no (scr := scr) (sty := sty) (img := img) (non := non) (by omega))
          clear m1 m2 m3 k1 k2 k3
          go_enter Tryd.func9, Tryd.ntmps9
          go_wp2_with fail
          go_ret
          exact ⟨by rw [HV.out]; rfl, HG.out⟩
      · have b2 : ((n2 : Int) == 0) = false := beq_eq_false_iff_ne.2 (by omega)
        have HV := Lib.hid (isPol_off_no (scr := scr) (sty := sty) (img := img) (non := non) (by omega))
        clear m1 m2 k1 k2 k3
        go_enter Tryd.func9, Tryd.ntmps9
        go_wp2_with fail
        go_ret
        exact ⟨by rw [HV.out]; rfl, HG.out⟩
    · have b1 : ((n1 : Int) == 0) = false := beq_eq_false_iff_ne.2 (by omega)
      have HV := Lib.hid (isPol_off_no (scr := scr) (sty := sty) (img := img) (non := non) (by omega))
      clear m1 k1 k2 k3
      go_enter Tryd.func9, Tryd.ntmps9
      go_wp2_with fail
      go_ret
      exact ⟨by rw [HV.out]; rfl, HG.out⟩
  | true =>
    obtain ⟨W, hW⟩ : ∃ W, w.alloc (.cells #[.bool true, .slice a1 n1 c1, .slice a2 n2 c2, .slice a3 n3 c3, .string non] 26) = W := ⟨_, rfl⟩
    have HG := Lib.hid (show Grw w W by rw [← hW]; exact (Grw.refl w).alloc _)
    have q0 : W.cell? ⟨w.heap.size, 0, none⟩ = some (.bool true) := by rw [← hW]; simp
    have q1 : W.cell? ⟨w.heap.size, 1, none⟩ = some (.slice a1 n1 c1) := by rw [← hW]; simp
    have q2 : W.cell? ⟨w.heap.size, 2, none⟩ = some (.slice a2 n2 c2) := by rw [← hW]; simp
    have q3 : W.cell? ⟨w.heap.size, 3, none⟩ = some (.slice a3 n3 c3) := by rw [← hW]; simp
    have q4 : W.cell? ⟨w.heap.size, 4, none⟩ = some (.string non) := by rw [← hW]; simp
    obtain ⟨hr1, hr2, hr3⟩ := (hr.below HG.out.below (Nat.le_refl _)).mono HG.out.below.size
    have HR1 := Lib.hid hr1; have HR2 := Lib.hid hr2; have HR3 := Lib.hid hr3; clear hr hr1 hr2 hr3
    have HC1 := Lib.hid (names_spec _ _ _ _ HR1.out (small_of z1))
    have HC2 := Lib.hid (names_spec _ _ _ _ HR2.out (small_of z2))
    have HC3 := Lib.hid (names_spec _ _ _ _ HR3.out (small_of z3))
    have HC4 := Lib.hid (fun X => val_spec non (by have := z4; simp only at this; omega) X)
    have HIP := Lib.hid (show isPol ⟨true, scr, sty, img, non⟩ = (okHosts scr && okHosts sty && okHosts img && (decide (non.size = 0) || isVal non)) from if_pos rfl)
    clear z1 z2 z3 z4
    cases h1 : okHosts scr with
    | false =>
      rw [h1] at HC1 HIP
      have HV := Lib.hid (show isPol ⟨true, scr, sty, img, non⟩ = false by rw [HIP.out]; simp); clear h1
      go_enter Tryd.func9, Tryd.ntmps9
      go_wp2_with fail
      refine HC1.out.mono ?_
      rintro e w1 ⟨rfl, rfl⟩
      go_wp2_with fail
      go_ret
      exact ⟨by rw [HV.out]; rfl, HG.out⟩
    | true =>
      rw [h1] at HC1 HIP; clear h1
      cases h2 : okHosts sty with
      | false =>
        rw [h2] at HC2 HIP
        have HV := Lib.hid (show isPol ⟨true, scr, sty, img, non⟩ = false by rw [HIP.out]; simp); clear h2
        go_enter Tryd.func9, Tryd.ntmps9
        go_wp2_with fail
        refine HC1.out.mono ?_
        rintro e w1 ⟨rfl, rfl⟩
        go_wp2_with fail
        refine HC2.out.mono ?_
        rintro e w2 ⟨rfl, rfl⟩
        go_wp2_with fail
        go_ret
        exact ⟨by rw [HV.out]; rfl, HG.out⟩
      | true =>
        rw [h2] at HC2 HIP; clear h2
        cases h3 : okHosts img with
        | false =>
          rw [h3] at HC3 HIP
          have HV := Lib.hid (show isPol ⟨true, scr, sty, img, non⟩ = false by rw [HIP.out]; simp); clear h3
          go_enter Tryd.func9, Tryd.ntmps9
          go_wp2_with fail
          refine HC1.out.mono ?_
          rintro e w1 ⟨rfl, rfl⟩
          go_wp2_with fail
          refine HC2.out.mono ?_
          rintro e w2 ⟨rfl, rfl⟩
          go_wp2_with fail
          refine HC3.out.mono ?_
          rintro e w3 ⟨rfl, rfl⟩
          go_wp2_with fail
          go_ret
          exact ⟨by rw [HV.out]; rfl, HG.out⟩
        | true =>
          rw [h3] at HC3 HIP; clear h3
          by_cases m4 : non.size = 0
          · have b4 : (non.toList == []) = true := by rw [empP_size, decide_eq_true m4]
            have HV := Lib.hid (show isPol ⟨true, scr, sty, img, non⟩ = true by rw [HIP.out, decide_eq_true m4]; rfl); clear m4
            go_enter Tryd.func9, Tryd.ntmps9
            go_wp2_with fail
            refine HC1.out.mono ?_
            rintro e w1 ⟨rfl, rfl⟩
            go_wp2_with fail
            refine HC2.out.mono ?_
            rintro e w2 ⟨rfl, rfl⟩
            go_wp2_with fail
            refine HC3.out.mono ?_
            rintro e w3 ⟨rfl, rfl⟩
            go_wp2_with fail
            go_ret
            exact ⟨by rw [HV.out]; rfl, HG.out⟩
          · have b4 : (non.toList == []) = false := by rw [empP_size, decide_eq_false m4]
            have HV := Lib.hid (show isPol ⟨true, scr, sty, img, non⟩ = isVal non by rw [HIP.out, decide_eq_false m4]; rfl); clear m4
            go_enter Tryd.func9, Tryd.ntmps9
            go_wp2_with fail
            refine HC1.out.mono ?_
            rintro e w1 ⟨rfl, rfl⟩
            go_wp2_with fail
            refine HC2.out.mono ?_
            rintro e w2 ⟨rfl, rfl⟩
            go_wp2_with fail
            refine HC3.out.mono ?_
            rintro e w3 ⟨rfl, rfl⟩
            go_wp2_with fail
            refine (HC4.out _).mono ?_
            rintro e w4 ⟨rfl, rfl⟩
            go_wp2_with fail
            go_ret
            exact ⟨by rw [HV.out]; rfl, HG.out⟩

set_option maxRecDepth 100000 in
set_option maxHeartbeats 4000000 in
theorem isPol_impl (set : Bool) (scr sty img : List ByteArray) (non : ByteArray) (a1 : Option Addr) (n1 c1 : Nat) (a2 : Option Addr) (n2 c2 : Nat) (a3 : Option Addr) (n3 c3 : Nat) (hz : PolSm ⟨set, scr, sty, img, non⟩) (w : World) (hr : ReadP w.heap.size w (.slice a1 n1 c1) (.slice a2 n2 c2) (.slice a3 n3 c3) ⟨set, scr, sty, img, non⟩) :
    Calls Tryd.prog 8 #[.agg #[.bool set, .slice a1 n1 c1, .slice a2 n2 c2, .slice a3 n3 c3, .string non]] w fun e w' => e = .returned (.bool (isPol ⟨set, scr, sty, img, non⟩)) ∧ Grw w w' := by
  obtain ⟨z1, z2, z3, z4⟩ := hz
  cases set with
  | false =>
    obtain ⟨W, hW⟩ : ∃ W, w.alloc (.cells #[.bool false, .slice a1 n1 c1, .slice a2 n2 c2, .slice a3 n3 c3, .string non] 26) = W := ⟨_, rfl⟩
    have HG := Lib.hid (show Grw w W by rw [← hW]; exact (Grw.refl w).alloc _)
    have q0 : W.cell? ⟨w.heap.size, 0, none⟩ = some (.bool false) := by rw [← hW]; simp
    have q1 : W.cell? ⟨w.heap.size, 1, none⟩ = some (.slice a1 n1 c1) := by rw [← hW]; simp
    have q2 : W.cell? ⟨w.heap.size, 2, none⟩ = some (.slice a2 n2 c2) := by rw [← hW]; simp
    have q3 : W.cell? ⟨w.heap.size, 3, none⟩ = some (.slice a3 n3 c3) := by rw [← hW]; simp
    have q4 : W.cell? ⟨w.heap.size, 4, none⟩ = some (.string non) := by rw [← hW]; simp
    obtain ⟨hr1, hr2, hr3⟩ := (hr.below HG.out.below (Nat.le_refl _)).mono HG.out.below.size
    have HR1 := Lib.hid hr1; have HR2 := Lib.hid hr2; have HR3 := Lib.hid hr3; clear hr hr1 hr2 hr3
    have HE := Lib.hid (show Calls Tryd.prog 10 #[.agg #[.bool false, .slice a1 n1 c1, .slice a2 n2 c2, .slice a3 n3 c3, .string non], .agg #[.bool false, .slice none 0 0, .slice none 0 0, .slice none 0 0, .string ⟨#[]⟩]] W fun e w' => e = .returned (.bool (isPol ⟨false, scr, sty, img, non⟩)) ∧ Grw W w' from by rw [← isPol_eqZ]; exact eqPol_impl false scr sty img non _ _ _ _ _ _ _ _ _ false [] [] [] ⟨#[]⟩ none 0 0 none 0 0 none 0 0 W ⟨HR1.out, HR2.out, HR3.out⟩ ⟨nilReads _ _, nilReads _ _, nilReads _ _⟩)
    clear z1 z2 z3 z4
    go_enter Tryd.func8, Tryd.ntmps8
    go_wp2_with fail
    refine HE.out.mono ?_
    rintro e w1 ⟨rfl, hg⟩
    have HG1 := Lib.hid (HG.out.trans hg); clear hg
    go_wp2_with fail
    go_ret
    exact ⟨rfl, HG1.out⟩
  | true =>
    obtain ⟨W, hW⟩ : ∃ W, w.alloc (.cells #[.bool true, .slice a1 n1 c1, .slice a2 n2 c2, .slice a3 n3 c3, .string non] 26) = W := ⟨_, rfl⟩
    have HG := Lib.hid (show Grw w W by rw [← hW]; exact (Grw.refl w).alloc _)
    have q0 : W.cell? ⟨w.heap.size, 0, none⟩ = some (.bool true) := by rw [← hW]; simp
    have q1 : W.cell? ⟨w.heap.size, 1, none⟩ = some (.slice a1 n1 c1) := by rw [← hW]; simp
    have q2 : W.cell? ⟨w.heap.size, 2, none⟩ = some (.slice a2 n2 c2) := by rw [← hW]; simp
    have q3 : W.cell? ⟨w.heap.size, 3, none⟩ = some (.slice a3 n3 c3) := by rw [← hW]; simp
    have q4 : W.cell? ⟨w.heap.size, 4, none⟩ = some (.string non) := by rw [← hW]; simp
    obtain ⟨hr1, hr2, hr3⟩ := (hr.below HG.out.below (Nat.le_refl _)).mono HG.out.below.size
    have HR1 := Lib.hid hr1; have HR2 := Lib.hid hr2; have HR3 := Lib.hid hr3; clear hr hr1 hr2 hr3
    have HC1 := Lib.hid (names_impl _ _ _ _ HR1.out (small_of z1))
    have HC2 := Lib.hid (names_impl _ _ _ _ HR2.out (small_of z2))
    have HC3 := Lib.hid (names_impl _ _ _ _ HR3.out (small_of z3))
    have HC4 := Lib.hid (fun X => val_impl non (by have := z4; simp only at this; omega) X)
    have HIP := Lib.hid (show isPol ⟨true, scr, sty, img, non⟩ = (okHosts scr && okHosts sty && okHosts img && (decide (non.size = 0) || isVal non)) from if_pos rfl)
    clear z1 z2 z3 z4
    cases h1 : okHosts scr with
    | false =>
      rw [h1] at HC1 HIP
      have HV := Lib.hid (show isPol ⟨true, scr, sty, img, non⟩ = false by rw [HIP.out]; simp); clear h1
      go_enter Tryd.func8, Tryd.ntmps8
      go_wp2_with fail
      refine HC1.out.mono ?_
      rintro e w1 ⟨rfl, rfl⟩
      go_wp2_with fail
      go_ret
      exact ⟨by rw [HV.out]; rfl, HG.out⟩
    | true =>
      rw [h1] at HC1 HIP; clear h1
      cases h2 : okHosts sty with
      | false =>
        rw [h2] at HC2 HIP
        have HV := Lib.hid (show isPol ⟨true, scr, sty, img, non⟩ = false by rw [HIP.out]; simp); clear h2
        go_enter Tryd.func8, Tryd.ntmps8
        go_wp2_with fail
        refine HC1.out.mono ?_
        rintro e w1 ⟨rfl, rfl⟩
        go_wp2_with fail
        refine HC2.out.mono ?_
        rintro e w2 ⟨rfl, rfl⟩
        go_wp2_with fail
        go_ret
        exact ⟨by rw [HV.out]; rfl, HG.out⟩
      | true =>
        rw [h2] at HC2 HIP; clear h2
        cases h3 : okHosts img with
        | false =>
          rw [h3] at HC3 HIP
          have HV := Lib.hid (show isPol ⟨true, scr, sty, img, non⟩ = false by rw [HIP.out]; simp); clear h3
          go_enter Tryd.func8, Tryd.ntmps8
          go_wp2_with fail
          refine HC1.out.mono ?_
          rintro e w1 ⟨rfl, rfl⟩
          go_wp2_with fail
          refine HC2.out.mono ?_
          rintro e w2 ⟨rfl, rfl⟩
          go_wp2_with fail
          refine HC3.out.mono ?_
          rintro e w3 ⟨rfl, rfl⟩
          go_wp2_with fail
          go_ret
          exact ⟨by rw [HV.out]; rfl, HG.out⟩
        | true =>
          rw [h3] at HC3 HIP; clear h3
          by_cases m4 : non.size = 0
          · have b4 : (non.toList == []) = true := by rw [empP_size, decide_eq_true m4]
            have HV := Lib.hid (show isPol ⟨true, scr, sty, img, non⟩ = true by rw [HIP.out, decide_eq_true m4]; rfl); clear m4
            go_enter Tryd.func8, Tryd.ntmps8
            go_wp2_with fail
            refine HC1.out.mono ?_
            rintro e w1 ⟨rfl, rfl⟩
            go_wp2_with fail
            refine HC2.out.mono ?_
            rintro e w2 ⟨rfl, rfl⟩
            go_wp2_with fail
            refine HC3.out.mono ?_
            rintro e w3 ⟨rfl, rfl⟩
            go_wp2_with fail
            go_ret
            exact ⟨by rw [HV.out]; rfl, HG.out⟩
          · have b4 : (non.toList == []) = false := by rw [empP_size, decide_eq_false m4]
            have HV := Lib.hid (show isPol ⟨true, scr, sty, img, non⟩ = isVal non by rw [HIP.out, decide_eq_false m4]; rfl); clear m4
            go_enter Tryd.func8, Tryd.ntmps8
            go_wp2_with fail
            refine HC1.out.mono ?_
            rintro e w1 ⟨rfl, rfl⟩
            go_wp2_with fail
            refine HC2.out.mono ?_
            rintro e w2 ⟨rfl, rfl⟩
            go_wp2_with fail
            refine HC3.out.mono ?_
            rintro e w3 ⟨rfl, rfl⟩
            go_wp2_with fail
            refine (HC4.out _).mono ?_
            rintro e w4 ⟨rfl, rfl⟩
            go_wp2_with fail
            go_ret
            exact ⟨by rw [HV.out]; rfl, HG.out⟩
end Go.Proofs.YtkjjiinccljhjaaDoor
