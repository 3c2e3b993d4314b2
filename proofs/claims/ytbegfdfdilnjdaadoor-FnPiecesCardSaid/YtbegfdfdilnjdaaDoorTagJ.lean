/- Helper contracts: the program's parseTag and TagOf. Asked: the string is shorter than 2^30 bytes. -/
import Derived.Test.YtbegfdfdilnjdaaDoorTagI
namespace Go.Proofs.YtbegfdfdilnjdaaDoor
open Go.ChangeShapes Go.WideShapes Go.ChangeAt Go.RowKit

/-- What parseTag answers. -/
def PtOut (s : ByteArray) (w : World) (e : Ending) (w' : World) : Prop :=
  (tagB s.data.toList = none ∧ (∃ m, e = .returned (.tuple #[m, .bool false])) ∧ Below w.heap.size w w') ∨
  (∃ r, tagB s.data.toList = some (tokClose r) ∧ e = .returned (.tuple #[.iface 73 (.agg #[.string r]), .bool true]) ∧ Below w.heap.size w w') ∨
  (∃ n ats a c, tagB s.data.toList = some (tokOpen n ats) ∧ e = .returned (.tuple #[.iface 70 (.agg #[.string n, .slice a ats.length c]), .bool true]) ∧ OwnK encA 2 67 w.heap.size w'.heap.size w' (.slice a ats.length c) ats ∧ Below w.heap.size w w')
theorem pAttrs_none {s : ByteArray} {n : List UInt8} {ps : List (List UInt8)} (h : s.size ≤ 60) (h0 : s.data.toList[0]? ≠ some 47) (hs : splitB 32 s.data.toList = n :: ps) (ha : pAttrs ps = none) : tagB s.data.toList = none := by
  cases hb : attrsB ps [] with
  | none => exact tag_open_none h h0 hs hb
  | some ats =>
    unfold pAttrs at ha
    split at ha
    · rename_i h4
      obtain ⟨bs, e1, e2, _⟩ := attrsB_form hb
      exact tag_open_no h h0 hs hb (Or.inr (by rw [e1, List.nil_append, e2]; exact h4))
    · rw [hb] at ha; cases ha
theorem pAttrs_some {ps : List (List UInt8)} {ats : List At} (ha : pAttrs ps = some ats) : attrsB ps [] = some ats ∧ ats.length ≤ 4 := by
  unfold pAttrs at ha
  split at ha
  · cases ha
  · rename_i h4
    obtain ⟨bs, e1, e2, _⟩ := attrsB_form ha
    exact ⟨ha, by rw [e1, List.nil_append, e2]; omega⟩

set_option maxRecDepth 100000 in
set_option maxHeartbeats 2000000 in
theorem ptag_short (s : ByteArray) (hs : s.size ≤ 1099511627) (w : World) (hc : 60 < s.size ∨ s.data.toList[0]? = some 47) :
    Calls Tryd.prog 36 #[.string s] w (PtOut s w) := by
  by_cases hlong : (60 : Int) < (s.size : Int)
  · have HN := Lib.hid (tag_long (s := s) (by omega))
    go_enter Tryd.func36, Tryd.ntmps36
    go_wp2_with fail
    go_ret2
    exact Or.inl ⟨HN.out, ⟨_, rfl⟩, Below.refl _ _⟩
  · have hsl : s.data.toList[0]? = some 47 := by
      rcases hc with hc | hc
      · omega
      · exact hc
    obtain ⟨r, hr⟩ := first_slash hsl
    have hrs : (ofL r).size ≤ 9223372036854775807 := by
      have h9 : (47 :: r).length = s.size := by rw [← hr, size_list]
      rw [ofL_size]; rw [List.length_cons] at h9; omega
    have HCP := Lib.hid (fun W => cutp_yes r s hr W)
    cases hn : isNm (ofL r) with
    | true =>
      have HT := Lib.hid (tag_close_yes (s := s) (by omega) hr hn)
      clear hr hsl
      go_enter Tryd.func36, Tryd.ntmps36
      go_wp2_with fail
      refine (HCP.out _).mono ?_
      rintro e w' ⟨rfl, rfl⟩
      go_wp2_with fail
      refine (nm_impl (ofL r) hrs _).mono ?_
      rintro e w' ⟨rfl, rfl⟩
      rw [hn]
      go_wp2_with fail
      go_ret2
      exact Or.inr (Or.inl ⟨_, HT.out, rfl, Below.refl _ _⟩)
    | false =>
      have HT := Lib.hid (tag_close_no (s := s) (by omega) hr hn)
      clear hr hsl
      go_enter Tryd.func36, Tryd.ntmps36
      go_wp2_with fail
      refine (HCP.out _).mono ?_
      rintro e w' ⟨rfl, rfl⟩
      go_wp2_with fail
      refine (nm_impl (ofL r) hrs _).mono ?_
      rintro e w' ⟨rfl, rfl⟩
      rw [hn]
      go_wp2_with fail
      go_ret2
      exact Or.inl ⟨HT.out, ⟨_, rfl⟩, Below.refl _ _⟩

set_option maxRecDepth 100000 in
set_option maxHeartbeats 4000000 in
theorem ptag_open (s : ByteArray) (hs : s.size ≤ 60) (w : World) (hsl : s.data.toList[0]? ≠ some 47) :
    Calls Tryd.prog 36 #[.string s] w (PtOut s w) := by
  have mixed : Tryd.prog.follows .mixedOrders = true := by kernel_rfl
  obtain ⟨n, ps, hsp⟩ : ∃ n ps, splitB 32 s.data.toList = n :: ps := by
    cases h : splitB 32 s.data.toList with
    | nil => exact absurd h (splitB_ne _ _)
    | cons n ps => exact ⟨n, ps, rfl⟩
  have hxs : splS 32 s.data.toList = ofL n :: ps.map ofL := by unfold splS; rw [hsp]; rfl
  obtain ⟨M, hM⟩ : ∃ M, (ps.map ofL).length = M := ⟨_, rfl⟩
  have hN : (ofL n :: ps.map ofL).length = M + 1 := by rw [List.length_cons, hM]
  have hsz : ∀ p ∈ n :: ps, (ofL p).size ≤ 60 := fun p hp => by have := splitB_piece (hsp ▸ hp); rw [size_list] at this; rw [ofL_size]; omega
  have hz0 : (ofL n).size ≤ 9223372036854775807 := by have := hsz n List.mem_cons_self; omega
  have h60 : ¬ ((60 : Int) < (s.size : Int)) := by omega
  have HCP := Lib.hid (fun W => cutp_no s hsl W)
  have HSPL := Lib.hid (fun W => hxs ▸ split_any s 32 (by omega) W)
  have HSL := Lib.hid hsl; have HSP := Lib.hid hsp; have HN := Lib.hid hN; have HSZ := Lib.hid hsz; have HS60 := Lib.hid hs; have HM := Lib.hid hM
  clear hsl hsp hxs hsz hs hN hM
  go_enter Tryd.func36, Tryd.ntmps36
  go_wp2_with fail
  refine (HCP.out _).mono ?_
  rintro e w' ⟨rfl, rfl⟩
  go_wp2_with fail
  refine (HSPL.out _).mono ?_
  rintro e w1 ⟨v1, rfl, ho1, hb1⟩
  have hrd := ho1.reads encS_len
  obtain ⟨g1, cap1, rfl, hg1a, hg1b, hg1c, hcap, hcap2, hcells⟩ := ho1.strAt (by simp)
  rw [HN.out] at hcap ⊢
  obtain ⟨C, rfl⟩ : ∃ C, cap1 = C + 1 := ⟨cap1 - 1, by omega⟩
  have c0 : w1.cell? ⟨g1, 0, none⟩ = some (.string (ofL n)) := hcells 0 _ rfl
  have HB1 := Lib.hid hb1
  clear hrd ho1 hb1
  by_cases hC : C = 0
  · subst hC
    obtain rfl : M = 0 := by omega
    have hrd : ReadsK encS 1 w1.heap.size w1 (.slice (some ⟨g1, 0, none⟩) 0 0) (ps.map ofL) := ⟨_, 0, by rw [HM.out], by have := HM.out; omega, by omega, (fun h => by cases h), Or.inl (by have := HM.out; omega)⟩
    have HRD := Lib.hid hrd; clear hrd hcells
    go_wp2_with fail
    refine (pattr_any _ w1.heap.size ps _ HRD.out (Nat.le_refl _) (fun p hp => Nat.le_trans (HSZ.out p (List.mem_cons_of_mem _ hp)) (by decide))).mono ?_
    rintro e w2 (⟨hpn, rfl, hb2⟩ | ⟨v2, ats, hps, rfl, ho2, hb2⟩)
    · have HNO := Lib.hid (pAttrs_none HS60.out HSL.out HSP.out hpn)
      have HBB := Lib.hid (HB1.out.trans (hb2.mono HB1.out.size))
      have b1 := Nat.lt_of_lt_of_le hg1c hb2.size
      replace c0 := (hb2.cell hg1c).trans c0
      have g0 := cell_grown (w := w2) (a := ⟨g1, 0, none⟩) b1 c0
      clear hpn hb2
      go_wp2_with fail
      refine wp_region_quiet_grown mixed (by kernel_rfl) ?_
      repeat (go_big_quiet_step (fail))
      refine wpQuiet_nil ?_
      intro _ hw'
      obtain ⟨⟨nq, osq⟩, hw''⟩ := hw'
      subst hw''
      go_wp2_with fail
      go_ret2
      exact Or.inl ⟨HNO.out, ⟨_, rfl⟩, HBB.out.trans ((grow_below w2 nq osq).mono HBB.out.size)⟩
    · obtain ⟨hat, h4⟩ := pAttrs_some hps
      have HBB := Lib.hid (HB1.out.trans (hb2.mono HB1.out.size))
      have HO2 := Lib.hid (ho2.mono (lo' := w.heap.size) HB1.out.size (Nat.le_refl _))
      obtain ⟨a2, c2, rfl⟩ := ho2.slice
      have b1 := Nat.lt_of_lt_of_le hg1c hb2.size
      replace c0 := (hb2.cell hg1c).trans c0
      have g0 := cell_grown (w := w2) (a := ⟨g1, 0, none⟩) b1 c0
      have HAT := Lib.hid hat; have H4 := Lib.hid h4
      obtain ⟨LA, hLA⟩ : ∃ l, ats.length = l := ⟨_, rfl⟩
      rw [hLA] at HO2 ⊢
      have HLA := Lib.hid hLA
      clear hps hb2 ho2 hat h4 hLA
      cases hn : isNm (ofL n) with
      | false =>
        have HT := Lib.hid (tag_open_no HS60.out HSL.out HSP.out HAT.out (Or.inl hn))
        have HNM := Lib.hid (fun W => (hn ▸ nm_impl (ofL n) hz0 W : Calls Tryd.prog 57 #[.string (ofL n)] W fun e w' => e = .returned (.bool false) ∧ W = w').mono (fun e w' h => ⟨h.1, by rw [← h.2]; exact Grw.refl W⟩ : ∀ e w', _ → (e = .returned (.bool false) ∧ Grw W w')))
        go_wp2_with fail
        refine wp_region_quiet_grown mixed (by kernel_rfl) ?_
        repeat (go_big_quiet_step (first | (go_at_call 57; refine Calls.grown_of (HNM.out _))))
        refine wpQuiet_nil ?_
        intro _ hw'
        obtain ⟨⟨nq, osq⟩, hw''⟩ := hw'
        subst hw''
        go_wp2_with fail
        go_ret2
        exact Or.inl ⟨HT.out, ⟨_, rfl⟩, HBB.out.trans ((grow_below w2 nq osq).mono HBB.out.size)⟩
      | true =>
        have HT := Lib.hid (tag_open_yes HS60.out HSL.out HSP.out HAT.out hn H4.out)
        have HNM := Lib.hid (fun W => (hn ▸ nm_impl (ofL n) hz0 W : Calls Tryd.prog 57 #[.string (ofL n)] W fun e w' => e = .returned (.bool true) ∧ W = w').mono (fun e w' h => ⟨h.1, by rw [← h.2]; exact Grw.refl W⟩ : ∀ e w', _ → (e = .returned (.bool true) ∧ Grw W w')))
        go_wp2_with fail
        refine wp_region_quiet_grown mixed (by kernel_rfl) ?_
        repeat (go_big_quiet_step (first | (go_at_call 57; refine Calls.grown_of (HNM.out _))))
        refine wpQuiet_nil ?_
        intro _ hw'
        obtain ⟨⟨nq, osq⟩, hw''⟩ := hw'
        subst hw''
        go_wp2_with fail
        go_ret2
        refine Or.inr (Or.inr ⟨_, ats, a2, c2, HT.out, by rw [HLA.out]; rfl, ?_, HBB.out.trans ((grow_below w2 nq osq).mono HBB.out.size)⟩)
        rw [HLA.out]
        exact (HO2.out.later (grow_below w2 nq osq)).mono (Nat.le_refl _) (grow_below w2 nq osq).size
  ·
    have hrd : ReadsK encS 1 w1.heap.size w1 (.slice (some ⟨g1, 1, none⟩) M C) (ps.map ofL) := ⟨_, C, by rw [HM.out], by have := HM.out; omega, by omega, (fun h => by cases h), Or.inr ⟨g1, 1, rfl, hg1c, fun j x hj i hi' => by
      obtain rfl : i = 0 := by omega
      have := hcells (j + 1) x (by rw [List.getElem?_cons_succ]; exact hj)
      rw [Nat.mul_one, Nat.add_zero, Nat.add_comm 1 j]
      exact this⟩⟩
    have HRD := Lib.hid hrd; clear hrd hcells
    go_wp2_with fail
    refine (pattr_any _ w1.heap.size ps _ HRD.out (Nat.le_refl _) (fun p hp => Nat.le_trans (HSZ.out p (List.mem_cons_of_mem _ hp)) (by decide))).mono ?_
    rintro e w2 (⟨hpn, rfl, hb2⟩ | ⟨v2, ats, hps, rfl, ho2, hb2⟩)
    · have HNO := Lib.hid (pAttrs_none HS60.out HSL.out HSP.out hpn)
      have HBB := Lib.hid (HB1.out.trans (hb2.mono HB1.out.size))
      have b1 := Nat.lt_of_lt_of_le hg1c hb2.size
      replace c0 := (hb2.cell hg1c).trans c0
      have g0 := cell_grown (w := w2) (a := ⟨g1, 0, none⟩) b1 c0
      clear hpn hb2
      go_wp2_with fail
      refine wp_region_quiet_grown mixed (by kernel_rfl) ?_
      repeat (go_big_quiet_step (fail))
      refine wpQuiet_nil ?_
      intro _ hw'
      obtain ⟨⟨nq, osq⟩, hw''⟩ := hw'
      subst hw''
      go_wp2_with fail
      go_ret2
      exact Or.inl ⟨HNO.out, ⟨_, rfl⟩, HBB.out.trans ((grow_below w2 nq osq).mono HBB.out.size)⟩
    · obtain ⟨hat, h4⟩ := pAttrs_some hps
      have HBB := Lib.hid (HB1.out.trans (hb2.mono HB1.out.size))
      have HO2 := Lib.hid (ho2.mono (lo' := w.heap.size) HB1.out.size (Nat.le_refl _))
      obtain ⟨a2, c2, rfl⟩ := ho2.slice
      have b1 := Nat.lt_of_lt_of_le hg1c hb2.size
      replace c0 := (hb2.cell hg1c).trans c0
      have g0 := cell_grown (w := w2) (a := ⟨g1, 0, none⟩) b1 c0
      have HAT := Lib.hid hat; have H4 := Lib.hid h4
      obtain ⟨LA, hLA⟩ : ∃ l, ats.length = l := ⟨_, rfl⟩
      rw [hLA] at HO2 ⊢
      have HLA := Lib.hid hLA
      clear hps hb2 ho2 hat h4 hLA
      cases hn : isNm (ofL n) with
      | false =>
        have HT := Lib.hid (tag_open_no HS60.out HSL.out HSP.out HAT.out (Or.inl hn))
        have HNM := Lib.hid (fun W => (hn ▸ nm_impl (ofL n) hz0 W : Calls Tryd.prog 57 #[.string (ofL n)] W fun e w' => e = .returned (.bool false) ∧ W = w').mono (fun e w' h => ⟨h.1, by rw [← h.2]; exact Grw.refl W⟩ : ∀ e w', _ → (e = .returned (.bool false) ∧ Grw W w')))
        go_wp2_with fail
        refine wp_region_quiet_grown mixed (by kernel_rfl) ?_
        repeat (go_big_quiet_step (first | (go_at_call 57; refine Calls.grown_of (HNM.out _))))
        refine wpQuiet_nil ?_
        intro _ hw'
        obtain ⟨⟨nq, osq⟩, hw''⟩ := hw'
        subst hw''
        go_wp2_with fail
        go_ret2
        exact Or.inl ⟨HT.out, ⟨_, rfl⟩, HBB.out.trans ((grow_below w2 nq osq).mono HBB.out.size)⟩
      | true =>
        have HT := Lib.hid (tag_open_yes HS60.out HSL.out HSP.out HAT.out hn H4.out)
        have HNM := Lib.hid (fun W => (hn ▸ nm_impl (ofL n) hz0 W : Calls Tryd.prog 57 #[.string (ofL n)] W fun e w' => e = .returned (.bool true) ∧ W = w').mono (fun e w' h => ⟨h.1, by rw [← h.2]; exact Grw.refl W⟩ : ∀ e w', _ → (e = .returned (.bool true) ∧ Grw W w')))
        go_wp2_with fail
        refine wp_region_quiet_grown mixed (by kernel_rfl) ?_
        repeat (go_big_quiet_step (first | (go_at_call 57; refine Calls.grown_of (HNM.out _))))
        refine wpQuiet_nil ?_
        intro _ hw'
        obtain ⟨⟨nq, osq⟩, hw''⟩ := hw'
        subst hw''
        go_wp2_with fail
        go_ret2
        refine Or.inr (Or.inr ⟨_, ats, a2, c2, HT.out, by rw [HLA.out]; rfl, ?_, HBB.out.trans ((grow_below w2 nq osq).mono HBB.out.size)⟩)
        rw [HLA.out]
        exact (HO2.out.later (grow_below w2 nq osq)).mono (Nat.le_refl _) (grow_below w2 nq osq).size

theorem ptag_any (s : ByteArray) (hs : s.size ≤ 1099511627) (w : World) : Calls Tryd.prog 36 #[.string s] w (PtOut s w) := by
  by_cases h : 60 < s.size ∨ s.data.toList[0]? = some 47
  · exact ptag_short s hs w h
  · exact ptag_open s (by omega) w fun e => h (Or.inr e)

theorem meth_close (r : ByteArray) (w : World) : (method 240 73 (.agg #[.string r]) "loop.example/g00586/impl.token").run Tryd.prog w = .ok (108, .agg #[.string r]) w := by kernel_rfl
theorem meth_open (n : ByteArray) (a : Option Addr) (m c : Nat) (w : World) : (method 240 70 (.agg #[.string n, .slice a m c]) "loop.example/g00586/impl.token").run Tryd.prog w = .ok (107, .agg #[.string n, .slice a m c]) w := by kernel_rfl
theorem meth_text (t : ByteArray) (w : World) : (method 240 75 (.agg #[.string t]) "loop.example/g00586/impl.token").run Tryd.prog w = .ok (50, .agg #[.string t]) w := by kernel_rfl

set_option maxRecDepth 100000 in
set_option maxHeartbeats 1000000 in
theorem tagI_any (s : ByteArray) (hs : s.size ≤ 1099511627) (w : World) : Calls Tryd.prog 10 #[.string s] w (TagOut s w) := by
  have h0 := heap_alloc_new w (.cells #[.int .i64 0, .string ⟨#[]⟩, .slice none 0 0, .string ⟨#[]⟩] 27)
  have HB0 := Lib.hid ((Below.refl w.heap.size w).alloc (Nat.le_refl _) (.cells #[.int .i64 0, .string ⟨#[]⟩, .slice none 0 0, .string ⟨#[]⟩] 27))
  have H0 := Lib.hid h0; clear h0
  go_enter Tryd.func10, Tryd.ntmps10
  go_wp2_with fail
  refine (ptag_any s hs _).mono ?_
  rintro e w1 (⟨hno, ⟨m, rfl⟩, hb1⟩ | ⟨r, ht, rfl, hb1⟩ | ⟨n, ats, a, c, ht, rfl, ho1, hb1⟩)
  · have h1 := below_heap hb1 (heap_lt H0.out) H0.out
    have HBB := Lib.hid (below_four (HB0.out.trans (hb1.mono HB0.out.size)) (Nat.le_refl _) (.int .i64 0) (.string ⟨#[]⟩) (.slice none 0 0) (.string ⟨#[]⟩))
    have HK := Lib.hid (heap_four h1 (.int .i64 0) (.string ⟨#[]⟩) (.slice none 0 0) (.string ⟨#[]⟩))
    obtain ⟨⟨r0, r1, r2, r3⟩, z0, z1, z2, z3⟩ := cells_four h1
    have HNO := Lib.hid hno
    clear hno h1 hb1
    go_wp2_with fail
    obtain ⟨⟨q0, q1, q2, q3⟩, _⟩ := cells_four HK.out
    refine bodyPost_ret (v := .tuple #[zTok, .bool false]) (by simp [results, Tryd.results10, go_sem, q0, q1, q2, q3]) rfl ?_
    exact tagOut_none HNO.out HBB.out
  · have hm := meth_close r w1
    have HT := Lib.hid ht; have HB1 := Lib.hid hb1
    clear ht hb1
    go_wp2_with fail
    refine (tkClose_any r _).mono ?_
    rintro e w2 ⟨rfl, hg2⟩
    have h1 := below_heap hg2.below (Nat.lt_of_lt_of_le (heap_lt H0.out) HB1.out.size) (below_heap HB1.out (heap_lt H0.out) H0.out)
    have HBB := Lib.hid (below_four ((HB0.out.trans (HB1.out.mono HB0.out.size)).trans (hg2.below.mono (Nat.le_trans HB0.out.size HB1.out.size))) (Nat.le_refl _) (.int .i64 2) (.string r) (.slice none 0 0) (.string ⟨#[]⟩))
    have HK := Lib.hid (heap_four h1 (.int .i64 2) (.string r) (.slice none 0 0) (.string ⟨#[]⟩))
    obtain ⟨⟨r0, r1, r2, r3⟩, z0, z1, z2, z3⟩ := cells_four h1
    clear h1 hg2 hm
    go_wp2_with fail
    obtain ⟨⟨q0, q1, q2, q3⟩, _⟩ := cells_four HK.out
    refine bodyPost_ret (v := .tuple #[.agg #[.int .i64 2, .string r, .slice none 0 0, .string ⟨#[]⟩], .bool true]) (by simp [results, Tryd.results10, go_sem, q0, q1, q2, q3]) rfl ?_
    exact tagOut_some HT.out (ownK_nil _ _ _ _ _ _) HBB.out rfl
  · obtain ⟨LA, hLA⟩ : ∃ l, ats.length = l := ⟨_, rfl⟩
    rw [hLA] at ho1 ⊢
    have hm := meth_open n a LA c w1
    have HT := Lib.hid ht; have HB1 := Lib.hid hb1; have HO1 := Lib.hid ho1
    clear ht hb1 ho1 hLA
    go_wp2_with fail
    refine (tkOpen_any n a LA c _).mono ?_
    rintro e w2 ⟨rfl, hg2⟩
    have h1 := below_heap hg2.below (Nat.lt_of_lt_of_le (heap_lt H0.out) HB1.out.size) (below_heap HB1.out (heap_lt H0.out) H0.out)
    have HBB := Lib.hid (below_four ((HB0.out.trans (HB1.out.mono HB0.out.size)).trans (hg2.below.mono (Nat.le_trans HB0.out.size HB1.out.size))) (Nat.le_refl _) (.int .i64 1) (.string n) (.slice a LA c) (.string ⟨#[]⟩))
    have HK := Lib.hid (heap_four h1 (.int .i64 1) (.string n) (.slice a LA c) (.string ⟨#[]⟩))
    have HOW := Lib.hid (ownK_set4 (b := w.heap.size) (lo' := w.heap.size) (((HO1.out.later hg2.below).mono (Nat.le_refl _) hg2.below.size)) (heap_lt H0.out) HB0.out.size (Nat.le_refl _) (.int .i64 1) (.string n) (.slice a LA c) (.string ⟨#[]⟩))
    obtain ⟨⟨r0, r1, r2, r3⟩, z0, z1, z2, z3⟩ := cells_four h1
    clear h1 hg2 hm
    go_wp2_with fail
    obtain ⟨⟨q0, q1, q2, q3⟩, _⟩ := cells_four HK.out
    refine bodyPost_ret (v := .tuple #[.agg #[.int .i64 1, .string n, .slice a LA c, .string ⟨#[]⟩], .bool true]) (by simp [results, Tryd.results10, go_sem, q0, q1, q2, q3]) rfl ?_
    exact tagOut_some HT.out HOW.out HBB.out rfl
end Go.Proofs.YtbegfdfdilnjdaaDoor
