/- ParseSheet of the model: the first eight rules of the string. Asked: the string is no longer than 2^20 bytes. -/
import Derived.Test.YtmlmiclgledcpaaDoorPsJ
import Derived.Deep.RegionLaw
namespace Go.Proofs.YtmlmiclgledcpaaDoor
open Go.ChangeShapes Go.WideShapes Go.ChangeAt Go.RowKit

theorem prsR_two {p a b : ByteArray} (h : splS 58 p.data.toList = [a, b]) : prsR p = prsAB a b := by
  by_cases hi : idxB 58 p.data.toList < p.data.toList.length
  · have h1 := idx_split hi
    unfold splS at h
    rw [h1, List.map_cons] at h
    injection h with h2 h3
    have h4 : splitB 58 (p.data.toList.drop (idxB 58 p.data.toList + 1)) = [p.data.toList.drop (idxB 58 p.data.toList + 1)] := by
      cases hq : splitB 58 (p.data.toList.drop (idxB 58 p.data.toList + 1)) with
      | nil => rw [hq] at h3; simp at h3
      | cons x xs =>
        rw [hq] at h3
        have hx : xs = [] := by cases xs with | nil => rfl | cons y ys => simp at h3
        subst hx
        have hj := joinB_split 58 (p.data.toList.drop (idxB 58 p.data.toList + 1))
        rw [hq] at hj
        have : x = p.data.toList.drop (idxB 58 p.data.toList + 1) := hj
        rw [this]
    rw [h4, List.map_cons, List.map_nil] at h3
    injection h3 with h3 _
    have hi2 : idxB 58 p.data.toList < p.size := by rw [size_list] at hi; exact hi
    rw [prsR, if_pos hi2, extract_pre, extract_suf, h2, h3]
  · have h1 := idx_split_none hi
    unfold splS at h
    rw [h1] at h; simp at h
theorem prsR_other {p : ByteArray} (h : (splS 58 p.data.toList).length ≠ 2) : prsR p = none := by
  by_cases hi : idxB 58 p.data.toList < p.data.toList.length
  · have h1 := idx_split hi
    unfold splS at h
    rw [h1, List.length_map, List.length_cons] at h
    have hi2 : idxB 58 p.data.toList < p.size := by rw [size_list] at hi; exact hi
    rw [prsR, if_pos hi2, extract_pre, extract_suf]
    have h5 : numOf (p.data.toList.drop (idxB 58 p.data.toList + 1)) = none := by
      by_cases hj : idxB 58 (p.data.toList.drop (idxB 58 p.data.toList + 1)) < (p.data.toList.drop (idxB 58 p.data.toList + 1)).length
      · exact numOf_byte (idxB_at hj) (by decide)
      · rw [idx_split_none hj] at h; simp at h
    unfold prsAB
    rw [ofL_list, h5]
  · have hi2 : ¬ idxB 58 p.data.toList < p.size := by rw [size_list] at hi; exact hi
    rw [prsR, if_neg hi2]

/-- What stands in the model's loop. -/
structure PS (w wr : World) (v : Value) (xs : List Ru) (lo : Nat) (kv : Value) (N : List ByteArray) : Prop where
  b0 : wr.heap[w.heap.size]? = some (.cells #[.slice none 0 0] 24 (0, 0))
  b1 : wr.heap[w.heap.size + 1]? = some (.cells #[v] 24 (0, 0))
  m : MineK encU 2 42 w.heap.size w wr v xs
  k : OwnK encS 1 9 lo wr.heap.size wr kv N
theorem PS.later {w wr w' : World} {v kv : Value} {xs : List Ru} {lo : Nat} {N : List ByteArray} (h : PS w wr v xs lo kv N) (hb : Below wr.heap.size wr w') : PS w w' v xs lo kv N :=
  ⟨below_heap hb (heap_lt h.b0) h.b0, below_heap hb (heap_lt h.b1) h.b1, h.m.later hb, (h.k.later hb).mono (Nat.le_refl _) hb.size⟩
theorem sh_ne_str : 9 ≠ 24 := by decide
theorem PS.next {w w3 w4 : World} {v v' kv : Value} {xs xs' : List Ru} {lo : Nat} {N : List ByteArray} (h : PS w w3 v xs lo kv N) (hm : MineK encU 2 42 w.heap.size w w4 v' xs') (hg : w3.grownBy w4 v.ownBlock) : PS w (w4.setCell ⟨w.heap.size + 1, 0, none⟩ v') v' xs' lo kv N := by
  have h0 := (hg.block _ (heap_lt h.b0) (row_ne_box h.m.row h.b0 ru_ne.1)).trans h.b0
  have h1 := (hg.block _ (heap_lt h.b1) (row_ne_box h.m.row h.b1 ru_ne.1)).trans h.b1
  refine ⟨box_far h0 (by omega) _ _, heap_one (o := 0) h1 v', ⟨(ownK_setT hm.own h1 ru_ne.1).1, hm.below.setCell (Nat.le_succ _) _, Nat.le_trans hm.size (size_set _ _ _)⟩, ?_⟩
  have hk : OwnK encS 1 9 lo w4.heap.size w4 kv N := ⟨h.k.1.kept hg (by
    cases hv : kv.ownBlock with
    | none => exact Or.inl rfl
    | some g =>
      right
      intro e
      exact rows_ne h.m.row h.k.1 ru_ne.2 e.symm hv), fun g hb => Nat.lt_of_lt_of_le (h.k.2 g hb) hg.size⟩
  exact (ownK_setT hk h1 sh_ne_str).mono (Nat.le_refl _) (size_set _ _ _)

set_option maxRecDepth 100000 in
set_option maxHeartbeats 8000000 in
theorem psheet_spec (s : ByteArray) (hs : s.size ≤ 1048576) (w : World) :
    Calls Tryd.prog 5 #[.string s] w (SheetForm (prsS s) w) := by
  obtain ⟨W0, hW0⟩ : ∃ W, (w.alloc (.cells #[.slice none 0 0] 24)).alloc (.cells #[.slice none 0 0] 24) = W := ⟨_, rfl⟩
  have hb1 : Below w.heap.size w (w.alloc (.cells #[.slice none 0 0] 24)) := (Below.refl _ _).alloc (Nat.le_refl _) _
  have hb2 : Below (w.alloc (.cells #[.slice none 0 0] 24)).heap.size (w.alloc (.cells #[.slice none 0 0] 24)) W0 := by rw [← hW0]; exact (Below.refl _ _).alloc (Nat.le_refl _) _
  have hb0 : Below w.heap.size w W0 := hb1.trans (hb2.mono (by rw [size_alloc]; omega))
  have hx0 : W0.heap[w.heap.size]? = some (.cells #[.slice none 0 0] 24 (0, 0)) := below_heap hb2 (by rw [size_alloc]; omega) (MapKept.heap_alloc w _).1
  have hx1 : W0.heap[w.heap.size + 1]? = some (.cells #[.slice none 0 0] 24 (0, 0)) := by
    rw [← hW0, ← size_alloc w (.cells #[.slice none 0 0] 24)]; exact (MapKept.heap_alloc _ _).1
  obtain ⟨ps, hps⟩ : ∃ ps, splS 59 s.data.toList = ps := ⟨_, rfl⟩
  have hpz : ∀ p ∈ ps, p.size ≤ 1048576 := fun p hp => by rw [← hps] at hp; exact Nat.le_trans (piece_size hp) hs
  have hpl : ps.length ≤ 1048577 := by have := splS_len 59 s.data.toList; rw [hps, size_list] at this; omega
  have HSP := Lib.hid (show Calls Tryd.prog 14 #[.string s, .int .u8 59] W0 (NewK encS 1 9 ps W0) from by rw [← hps]; exact spl_spec s 59 (by omega) W0)
  have hgoal : prsS s = (ps.filterMap prsR).take 8 := by rw [prsS, hps]
  rw [hgoal]
  have HX0 := Lib.hid hx0; have HX1 := Lib.hid hx1; have HB0 := Lib.hid hb0; have HW0 := Lib.hid hW0; have HPZ := Lib.hid hpz
  clear hb1 hb2 hb0 hx0 hx1 hps hpz hgoal hW0 hs
  go_enter Tryd.func5, Tryd.ntmps5
  go_wp2_with fail
  rw [HW0.out]
  refine HSP.out.mono ?_
  rintro e W1 ⟨kv, rfl, hk, hb⟩
  have hP : PS w W1 (.slice none 0 0) ((ps.take 0).filterMap prsR) W0.heap.size kv ps := ⟨below_heap hb (heap_lt HX0.out) HX0.out, below_heap hb (heap_lt HX1.out) HX1.out, (MineK.nil encU 2 42 w W0 w.heap.size HB0.out HB0.out.size).later hb, hk⟩
  obtain ⟨ka, kc, rfl, hkc1, hkc2⟩ : ∃ a c, kv = .slice a ps.length c ∧ ps.length ≤ c ∧ c ≤ 9223372036854775807 := by
    obtain ⟨a, c, e, h1, h2, _⟩ := hk.reads encS_len
    exact ⟨a, c, e, h1, h2⟩
  obtain ⟨n, hn⟩ : ∃ n, ps.length = n := ⟨_, rfl⟩
  rw [hn] at hP hkc1 hpl ⊢
  have HN := Lib.hid hn; have HP := Lib.hid hP
  clear hn hP hk hb HX0 HX1 HSP
  go_wp2_with fail
  go_loopw [5] (fun i wr => ∃ (j : Nat) (xa : Option Addr) (xn xc : Nat), j ≤ n ∧ i = .int .i64 j ∧ PS w wr (.slice xa xn xc) ((ps.take j).filterMap prsR) W0.heap.size (.slice ka n kc) ps ∧ ((ps.take j).filterMap prsR).length ≤ 8)
    (fun i _ => n - (intOf i).toNat)
  case atStart => exact ⟨0, _, _, _, Nat.zero_le _, rfl, HP.out, Nat.zero_le _⟩
  case round =>
    obtain ⟨j, xa, xn, xc, hj, rfl, hP, h8⟩ := hrel
    clear HP
    have HP := Lib.hid hP; have H8 := Lib.hid h8; clear hP h8
    have q1 := box_cell HP.out.b1 (j := 0) rfl
    obtain ⟨ya, yc, hv, hx1, hx2⟩ := mineU_form HP.out.m
    injection hv with e1 e2 e3
    have HXL := Lib.hid e2
    clear e1 e2 e3 hx1 hx2
    have stop : ∀ {wx : World}, wx = wr → ((ps.filterMap prsR).take 8 = (ps.take j).filterMap prsR) → SheetForm ((ps.filterMap prsR).take 8) w (.returned (.agg #[.slice xa xn xc])) (wr.setCell ⟨w.heap.size, 0, none⟩ (.slice xa xn xc)) := fun _ hfin => by
      refine ⟨_, _, _, rfl, ?_⟩
      rw [hfin]
      exact ⟨(ownK_setT HP.out.m.own HP.out.b0 ru_ne.1).1, HP.out.m.below.setCell (Nat.le_refl _) _, Nat.le_trans HP.out.m.size (size_set _ _ _)⟩
    have STOP := Lib.hid (stop rfl); clear stop
    by_cases hlt : (j : Int) < (n : Int)
    · have hltd : decide ((j : Int) < (n : Int)) = true := decide_eq_true hlt
      by_cases h8 : ((ps.take j).filterMap prsR).length < 8
      · have hx8 : (xn : Int) < 8 := by have := HXL.out; omega
        have hx8d : decide ((xn : Int) < 8) = true := decide_eq_true hx8
        have H88 := Lib.hid h8; clear h8
        obtain ⟨p, hpj⟩ : ∃ p, ps[j]? = some p := ⟨_, List.getElem?_eq_getElem (by rw [HN.out]; omega)⟩
        obtain ⟨g, off, rfl, hg, c0⟩ := (HP.out.k.reads encS_len).str hpj
        have hpz := HPZ.out p (List.mem_of_getElem? hpj)
        have HF := Lib.hid (filter_take hpj)
        have hps2 := fun q (h : q ∈ splS 58 p.data.toList) => piece_size h
        have h2s := splS_len 58 p.data.toList
        rw [size_list] at h2s
        obtain ⟨us, hus⟩ : ∃ us, splS 58 p.data.toList = us := ⟨_, rfl⟩
        have HS2 := Lib.hid (show Calls Tryd.prog 14 #[.string p, .int .u8 58] wr (NewK encS 1 9 us wr) from by rw [← hus]; exact spl_spec p 58 (by omega) wr)
        have HP2 := Lib.hid (show ∀ a b, us = [a, b] → prsR p = prsAB a b from fun a b h => prsR_two (by rw [hus]; exact h))
        have HPO := Lib.hid (show us.length ≠ 2 → prsR p = none from fun h => prsR_other (by rw [hus]; exact h))
        rw [hus] at hps2 h2s
        have HPS := Lib.hid hps2
        clear hus hps2 hpj
        go_wp2_with fail
        refine HS2.out.mono ?_
        rintro e w2 ⟨uv, rfl, hu, hb2⟩
        have HPb := Lib.hid (HP.out.later hb2); have HU := Lib.hid hu
        obtain ⟨ua, uc, rfl, huc1, huc2⟩ : ∃ a c, uv = .slice a us.length c ∧ us.length ≤ c ∧ c ≤ 9223372036854775807 := by
          obtain ⟨a, c, e, h1, h2, _⟩ := hu.reads encS_len
          exact ⟨a, c, e, h1, h2⟩
        clear hb2 hu q1 c0
        by_cases hl2 : us.length = 2
        · obtain ⟨a, b, rfl⟩ : ∃ a b, us = [a, b] := by
            match us, hl2 with
            | [a, b], _ => exact ⟨a, b, rfl⟩
          have hlen : ([a, b] : List ByteArray).length = 2 := rfl
          rw [hlen] at HU huc1 ⊢
          have hq2 : ((2 : Int) != 2) = false := rfl
          have hza := HPS.out a (by simp); have hzb := HPS.out b (by simp)
          have HRB := Lib.hid (HP2.out a b rfl)
          obtain ⟨g2, off2, rfl, hg2, d0⟩ := (HU.out.reads encS_len).str (k := 0) (s := a) rfl
          obtain ⟨g3, off3, e3, _, d1⟩ := (HU.out.reads encS_len).str (k := 1) (s := b) rfl
          cases e3
          have d0' : w2.cell? ⟨g2, off2, none⟩ = some (.string a) := d0
          obtain ⟨x, hx⟩ : ∃ x, isNm a = x := ⟨_, rfl⟩
          have HNM := Lib.hid (fun W => show Calls Tryd.prog 15 #[.string a] W fun e w' => e = .returned (.bool x) ∧ W = w' from by rw [← hx]; exact nm_spec a (by omega) W)
          cases x with
          | false =>
            have HF2 := Lib.hid (show (ps.take (j + 1)).filterMap prsR = (ps.take j).filterMap prsR by
              have h1 : prsAB a b = none := by
                unfold prsAB
                split
                · rw [if_neg (by rw [hx]; simp)]
                · rfl
              rw [HF.out, HRB.out, h1]; simp)
            clear hx
            go_wp2_with (go_at_call 15; refine (HNM.out _).mono ?_; rintro e w' ⟨rfl, rfl⟩)
            go_roundw
            case rel => exact ⟨j + 1, _, _, _, by omega, by go_num, by rw [HF2.out]; exact HPb.out, by rw [HF2.out]; exact H8.out⟩
            case measure => simp [intOf]; omega
          | true =>
            have HPI := Lib.hid (parse_spec b (by omega) w2)
            cases hk : numOf b.data.toList with
            | none =>
              have HF2 := Lib.hid (show (ps.take (j + 1)).filterMap prsR = (ps.take j).filterMap prsR by
                have h1 : prsAB a b = none := by unfold prsAB; rw [hk]
                rw [HF.out, HRB.out, h1]; simp)
              rw [hk] at HPI
              unfold parsed at HPI
              clear hx hk
              go_wp2_with (first | (go_at_call 15; refine (HNM.out _).mono ?_; rintro e w' ⟨rfl, rfl⟩) | (go_at_call 16; refine HPI.out.mono ?_; rintro e w3 ⟨rfl, hb3⟩))
              have HPc := Lib.hid (HPb.out.later hb3); clear hb3
              go_roundw
              case rel => exact ⟨j + 1, _, _, _, by omega, by go_num, by rw [HF2.out]; exact HPc.out, by rw [HF2.out]; exact H8.out⟩
              case measure => simp [intOf]; omega
            | some k =>
              obtain ⟨y, hy⟩ : ∃ y, inB (k : Int) 1 999 = y := ⟨_, rfl⟩
              have HIN := Lib.hid (fun W => show Calls Tryd.prog 17 #[.int .i64 (k : Int), .int .i64 1, .int .i64 999] W fun e w' => e = .returned (.bool y) ∧ W = w' from by rw [← hy]; exact lin_any _ _ _ W)
              rw [hk] at HPI
              unfold parsed at HPI
              cases y with
              | false =>
                have HF2 := Lib.hid (show (ps.take (j + 1)).filterMap prsR = (ps.take j).filterMap prsR by
                  have h1 : prsAB a b = none := by unfold prsAB; rw [hk]; exact if_neg (by rw [hy]; simp)
                  rw [HF.out, HRB.out, h1]; simp)
                clear hx hk hy
                go_wp2_with (first | (go_at_call 15; refine (HNM.out _).mono ?_; rintro e w' ⟨rfl, rfl⟩) | (go_at_call 17; refine (HIN.out _).mono ?_; rintro e w' ⟨rfl, rfl⟩) | (go_at_call 16; refine HPI.out.mono ?_; rintro e w3 ⟨rfl, hb3⟩))
                have HPc := Lib.hid (HPb.out.later hb3); clear hb3
                go_roundw
                case rel => exact ⟨j + 1, _, _, _, by omega, by go_num, by rw [HF2.out]; exact HPc.out, by rw [HF2.out]; exact H8.out⟩
                case measure => simp [intOf]; omega
              | true =>
                have HF2 := Lib.hid (show (ps.take (j + 1)).filterMap prsR = (ps.take j).filterMap prsR ++ [(a, (k : Int))] by
                  have h1 : prsAB a b = some (a, (k : Int)) := by unfold prsAB; rw [hk]; exact if_pos ⟨hx, hy⟩
                  rw [HF.out, HRB.out, h1]; rfl)
                obtain ⟨fs, hfs⟩ : ∃ fs, (ps.take j).filterMap prsR = fs := ⟨_, rfl⟩
                rw [hfs] at HF2 HPb H88
                clear hx hk hy hfs
                go_wp2_with (first | (go_at_call 15; refine (HNM.out _).mono ?_; rintro e w' ⟨rfl, rfl⟩) | (go_at_call 17; refine (HIN.out _).mono ?_; rintro e w' ⟨rfl, rfl⟩) | (go_at_call 16; refine HPI.out.mono ?_; rintro e w3 ⟨rfl, hb3⟩; replace d0 := (hb3.cell (show g2 < w2.heap.size by omega)).trans d0'; have q3 := box_cell (HPb.out.later hb3).b1 (j := 0) rfl))
                have HPc := Lib.hid (HPb.out.later hb3)
                have hq3 : w.heap.size + 1 < w3.heap.size := heap_lt HPc.out.b1
                have q3a : (w3.alloc (.cells #[.string a, .int .i64 (k : Int)] 42)).cell? ⟨w.heap.size + 1, 0, none⟩ = some (.slice xa xn xc) := by rw [World.cell?_alloc_past _ _ _ hq3]; exact q3
                have HPd := Lib.hid (show PS w (w3.alloc (.cells #[.string a, .int .i64 (k : Int)] 42)).drew (.slice xa xn xc) fs W0.heap.size (.slice (some ⟨g, off, none⟩) n kc) ps from HPc.out.later ((Below.refl _ w3).alloc (Nat.le_refl _) _).drew)
                have HRO := Lib.hid (show ReadsK encU 2 (w3.heap.size + 1) (w3.alloc (.cells #[.string a, .int .i64 (k : Int)] 42)).drew (.slice (some ⟨w3.heap.size, 0, none⟩) 1 1) [(a, (k : Int))] from readsK_one2 encU _ w3 rfl)
                have HLA := Lib.hid (show fs.length + 1 ≤ 137438953472 by have := H88.out; omega)
                clear hb3
                go_wp2_with fail
                go_region_law (refine step_appUt (by rfl) (.tmp 52) (.tmp 58) (by rfl) w.heap.size w _ fs (by rfl) HPd.out.m ⟨w3.heap.size, 0, none⟩ (w3.heap.size + 1) (a, (k : Int)) (by rfl) HRO.out HLA.out ?_; intro v4 w4 hm4 hg4; obtain ⟨a4, n4, c4, rfl⟩ : ∃ a n c, v4 = .slice a n c := (by obtain ⟨a, c, e, _⟩ := mineU_form hm4; exact ⟨a, _, c, e⟩); have h41 := (hg4.block _ (heap_lt HPd.out.b1) (row_ne_box HPd.out.m.row HPd.out.b1 ru_ne.1)).trans HPd.out.b1; have y2 := box_cell h41 (j := 0) rfl; have y3 := box_frz h41 0)
                all_goals
                  have HP4 := Lib.hid (HPd.out.next hm4 hg4)
                  clear h41 y2 y3 hm4 hg4
                  go_wp2
                  go_roundw
                  case rel => exact ⟨j + 1, _, _, _, by omega, by go_num, by rw [HF2.out]; exact HP4.out, by rw [HF2.out, List.length_append, List.length_singleton]; have := H88.out; omega⟩
                  case measure => simp [intOf]; omega
        · have HF2 := Lib.hid (show (ps.take (j + 1)).filterMap prsR = (ps.take j).filterMap prsR by rw [HF.out, HPO.out hl2]; simp)
          obtain ⟨L2, hL2⟩ : ∃ L, us.length = L := ⟨_, rfl⟩
          rw [hL2] at hl2 huc1 ⊢
          have hq2 : ((L2 : Int) == 2) = false := beq_eq_false_iff_ne.2 (by omega)
          have hq3 : ((L2 : Int) != 2) = true := by rw [bne, hq2]; rfl
          clear hl2 hL2
          go_wp2_with fail
          go_roundw
          case rel => exact ⟨j + 1, _, _, _, by omega, by go_num, by rw [HF2.out]; exact HPb.out, by rw [HF2.out]; exact H8.out⟩
          case measure => simp [intOf]; omega
      · have hx8 : ¬ (xn : Int) < 8 := by have := HXL.out; omega
        have hx8d : decide ((xn : Int) < 8) = false := decide_eq_false hx8
        have HFIN := Lib.hid (show (ps.filterMap prsR).take 8 = (ps.take j).filterMap prsR by
          conv => lhs; rw [← List.take_append_drop j ps, List.filterMap_append]
          rw [List.take_append_of_le_length (by omega), List.take_of_length_le H8.out])
        have q0 := box_cell HP.out.b0 (j := 0) rfl
        have z0 := box_frz HP.out.b0 0
        have qf := box_cell (heap_one (o := 0) HP.out.b0 (.slice xa xn xc)) (j := 0) rfl
        clear h8
        go_wp2_with fail
        refine bodyPost_ret (v := .agg #[.slice xa xn xc]) (by simp [results, Tryd.results5, go_sem, qf]) rfl ?_
        exact STOP.out HFIN.out
    · have hltd : decide ((j : Int) < (n : Int)) = false := decide_eq_false hlt
      have HFIN := Lib.hid (show (ps.filterMap prsR).take 8 = (ps.take j).filterMap prsR by
        rw [List.take_of_length_le (show ps.length ≤ j by rw [HN.out]; omega), List.take_of_length_le (by have := H8.out; rw [List.take_of_length_le (show ps.length ≤ j by rw [HN.out]; omega)] at this; exact this)])
      have q0 := box_cell HP.out.b0 (j := 0) rfl
      have z0 := box_frz HP.out.b0 0
      have qf := box_cell (heap_one (o := 0) HP.out.b0 (.slice xa xn xc)) (j := 0) rfl
      go_wp2_with fail
      refine bodyPost_ret (v := .agg #[.slice xa xn xc]) (by simp [results, Tryd.results5, go_sem, qf]) rfl ?_
      exact STOP.out HFIN.out
end Go.Proofs.YtmlmiclgledcpaaDoor
