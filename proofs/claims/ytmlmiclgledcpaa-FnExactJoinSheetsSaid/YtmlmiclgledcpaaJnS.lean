/- Helper contract: JoinSheets of the model: the names in order, each with its color. Asked: the sheets lie in memory as named. -/
import Derived.Test.YtmlmiclgledcpaaJnI
namespace Go.Proofs.Ytmlmiclgledcpaa
open Go.ChangeShapes Go.WideShapes Go.ChangeAt Go.RowKit Go.Maps Go.WideMaps

theorem rdU_take {hi : Nat} {w : World} {g n cap m : Nat} {xs : List Ru} (h : ReadsK encU 2 hi w (.slice (some ⟨g, 0, none⟩) n cap) xs) (hm : m ≤ xs.length) : ReadsK encU 2 hi w (.slice (some ⟨g, 0, none⟩) m cap) (xs.take m) := by
  obtain ⟨a, cap', e, h1, h2, hnil, h3⟩ := h
  cases e
  have hl : (xs.take m).length = m := by rw [List.length_take]; omega
  refine ⟨_, cap, by rw [hl], by omega, h2, (fun h => by cases h), ?_⟩
  rw [hl]
  rcases h3 with h3 | ⟨g', off, e2, hg, hc⟩
  · exact Or.inl (by omega)
  · cases e2
    refine Or.inr ⟨g, 0, rfl, hg, fun j x hj i hi' => hc j x ?_ i hi'⟩
    rw [List.getElem?_take] at hj
    split at hj
    · exact hj
    · cases hj
theorem rdU_drop {hi : Nat} {w : World} {g n cap m : Nat} {xs : List Ru} (h : ReadsK encU 2 hi w (.slice (some ⟨g, 0, none⟩) n cap) xs) (hm : m ≤ xs.length) : ReadsK encU 2 hi w (.slice (some ⟨g, m * 2, none⟩) (n - m) (cap - m)) (xs.drop m) := by
  obtain ⟨a, cap', e, h1, h2, hnil, h3⟩ := h
  cases e
  have hl : (xs.drop m).length = xs.length - m := List.length_drop
  refine ⟨_, cap - m, by rw [hl], by omega, by omega, (fun h => by cases h), ?_⟩
  rcases h3 with h3 | ⟨g', off, e2, hg, hc⟩
  · exact Or.inl (by omega)
  · cases e2
    refine Or.inr ⟨g, m * 2, rfl, hg, fun j x hj i hi' => ?_⟩
    rw [List.getElem?_drop] at hj
    have := hc (m + j) x hj i hi'
    rw [← this]
    congr 2
    rw [Nat.add_mul]; omega
theorem rdU_end (hi : Nat) (w : World) (a : Option Addr) (c : Nat) (hc : c ≤ 9223372036854775807) (ha : a = none → c = 0) {m : Nat} {xs : List Ru} (hm : xs.length ≤ m) : ReadsK encU 2 hi w (.slice a 0 c) (xs.drop m) := by
  have e1 : xs.drop m = [] := List.drop_eq_nil_of_le (by omega)
  rw [e1]
  exact ⟨a, c, rfl, Nat.zero_le _, hc, ha, Or.inl rfl⟩
theorem rdU_none (hi : Nat) (w : World) (xs : List Ru) : ReadsK encU 2 hi w (.slice none 0 0) (xs.take 0) := by
  rw [List.take_zero]
  exact ⟨none, 0, rfl, Nat.le_refl _, by omega, fun _ => rfl, Or.inl rfl⟩

/-- What stands in the model's loops: its own sheet in one box, the result in another. -/
structure JS (w wr : World) (v : Value) (xs : List Ru) : Prop where
  b0 : wr.heap[w.heap.size]? = some (.cells #[.slice none 0 0] 66 (0, 0))
  b1 : wr.heap[w.heap.size + 1]? = some (.cells #[v] 66 (0, 0))
  o : OwnK encU 2 104 w.heap.size wr.heap.size wr v xs
  bl : Below w.heap.size w wr
theorem JS.put {w wr w5 : World} {v v5 : Value} {xs ys : List Ru} (h : JS w wr v xs) (hm : MineK encU 2 104 wr.heap.size wr w5 v5 ys) : JS w (w5.setCell ⟨w.heap.size + 1, 0, none⟩ v5) v5 ys := by
  have h0 := below_heap hm.below (heap_lt h.b0) h.b0
  have h1 := below_heap hm.below (heap_lt h.b1) h.b1
  refine ⟨box_far h0 (by omega) _ _, heap_one (o := 0) h1 v5, ?_, (h.bl.trans (hm.below.mono h.bl.size)).setCell (Nat.le_succ _) _⟩
  exact (ownK_setT (hm.own.mono h.bl.size (Nat.le_refl _)) h1 ru_ne.1).mono (Nat.le_refl _) (size_set _ _ _)
theorem withCol_ins {rs : List Ru} {N : List ByteArray} {xs : List Ru} {nm : ByteArray} {C : Int} {m : Nat} (hx : withCol rs N = xs) (hc : colOf rs nm = C) : withCol rs (N.take m ++ ([nm] ++ N.drop m)) = xs.take m ++ ((nm, C) :: xs.drop m) := by
  rw [← hx, ← hc, withCol, withCol, List.map_append, List.map_append, List.map_take, List.map_drop]; rfl

set_option maxRecDepth 100000 in
set_option maxHeartbeats 8000000 in
theorem join_spec (v : Value) (ss : List Shv) (w : World) (h : ReadH w.heap.size w v ss) (hs : ShsOk ss) :
    Calls Try.prog 37 #[v] w (JoinForm (flatR ss) w) := by
  obtain ⟨i0, hi0, hz0, hz1, hz2⟩ := info_parts infoRu
  have HZ2 := Lib.hid hz2; clear hz2
  obtain ⟨a, cap, rfl, hc1, hc2⟩ := h.form
  obtain ⟨n, hn⟩ : ∃ n, ss.length = n := ⟨_, rfl⟩
  rw [hn] at h hc1 ⊢
  have hn2 : n ≤ 1048576 := by rw [← hn]; exact hs.len
  obtain ⟨W0, hW0⟩ : ∃ W, (w.alloc (.cells #[.slice none 0 0] 66)).alloc (.cells #[.slice none 0 0] 66) = W := ⟨_, rfl⟩
  have hJ0 : JS w W0 (.slice none 0 0) (withCol (flatR ss) []) := by
    have hb1 : Below w.heap.size w (w.alloc (.cells #[.slice none 0 0] 66)) := (Below.refl _ _).alloc (Nat.le_refl _) _
    have hb2 : Below (w.alloc (.cells #[.slice none 0 0] 66)).heap.size (w.alloc (.cells #[.slice none 0 0] 66)) W0 := by rw [← hW0]; exact (Below.refl _ _).alloc (Nat.le_refl _) _
    refine ⟨below_heap hb2 (by rw [size_alloc]; omega) (MapKept.heap_alloc w _).1, ?_, ownK_nil _ _ _ _ _ _, hb1.trans (hb2.mono (by rw [size_alloc]; omega))⟩
    rw [← hW0, ← size_alloc w (.cells #[.slice none 0 0] 66)]; exact (MapKept.heap_alloc _ _).1
  have HJ := Lib.hid hJ0; have HN := Lib.hid hn; have HS := Lib.hid hs; have HH := Lib.hid h; have HW0 := Lib.hid hW0
  have HCO := Lib.hid (fun (X : World) (hb : Below w.heap.size w X) (nm : ByteArray) => colorOf_spec _ ss nm X (h.up hb) (Nat.le_trans hs.len (by decide)) hs.each)
  clear hJ0 hn hs h hW0
  go_enter Try.func37, Try.ntmps37
  go_wp2_with fail
  rw [HW0.out]
  go_loopw [4] (fun i wr => ∃ (j : Nat) (va : Option Addr) (vn vc : Nat) (N : List ByteArray), j ≤ n ∧ i = .int .i64 j ∧ JS w wr (.slice va vn vc) (withCol (flatR ss) N) ∧ JN (flatR (ss.take j)) N)
    (fun i _ => n - (intOf i).toNat)
  case atStart => exact ⟨0, _, _, _, [], Nat.zero_le _, rfl, HJ.out, JN.nil⟩
  case round =>
    obtain ⟨i, va, vn, vc, N, hj, rfl, hJ, hN⟩ := hrel
    clear HJ
    have HJ := Lib.hid hJ; have HJN := Lib.hid hN; clear hJ hN
    by_cases hlt : (i : Int) < (n : Int)
    · obtain ⟨p, hp⟩ := sh_at (ss := ss) (j := i) (by rw [HN.out]; omega)
      obtain ⟨g, off, rfl, hg, c0⟩ := HH.out.at hp
      have hin := HH.out.sheet hp
      have hpl := HS.out.each p (List.mem_of_getElem? hp)
      obtain ⟨rs, ⟨sa, sn, sc⟩⟩ := p
      have HC0 := Lib.hid (show w.cell? ⟨g, off + i, none⟩ = some (.slice sa sn sc) from c0)
      replace hin : ReadsK encU 2 w.heap.size w (.slice sa sn sc) rs := hin
      replace hpl : rs.length ≤ 1099511627776 := hpl
      obtain ⟨_, _, e, hd1, hd2, _⟩ := id hin
      injection e with e2 e3 e4; subst e2; subst e4
      obtain ⟨m, hm⟩ : ∃ m, rs.length = m := ⟨_, rfl⟩
      rw [hm] at hpl hd1 e3
      subst e3
      have HIN := Lib.hid hin; have HM := Lib.hid hm; have HP := Lib.hid hp
      have HTI := Lib.hid (show ∀ k, (preR ss i rs k).length ≤ 1048576 from fun k => by
        refine Nat.le_trans ?_ HS.out.tot
        have h1 := flatR_take HP.out
        have h2 : (flatR (ss.take (i + 1))).length ≤ (flatR ss).length := by
          conv => rhs; rw [← List.take_append_drop (i + 1) ss, flatR, List.flatMap_append]
          rw [List.length_append]; exact Nat.le_add_right _ _
        rw [h1, List.length_append] at h2
        have h3 := List.length_take_le' k rs
        rw [preR, List.length_append]
        exact Nat.le_trans (Nat.add_le_add_left h3 _) h2)
      clear hin hm hp c0
      replace HJN := Lib.hid (show JN (preR ss i rs 0) N by rw [preR_zero]; exact HJN.out)
      go_wp2
      go_loopw [5] (fun q wr => ∃ (k : Nat) (va : Option Addr) (vn vc : Nat) (N : List ByteArray), k ≤ sn ∧ q = .int .i64 k ∧ JS w wr (.slice va vn vc) (withCol (flatR ss) N) ∧ JN (preR ss i rs k) N)
        (fun q _ => sn - (intOf q).toNat)
      case atStart => exact ⟨0, _, _, _, N, Nat.zero_le _, rfl, HJ.out, HJN.out⟩
      case round =>
        clear HJ HJN
        obtain ⟨k, va, vn, vc, N, hk, rfl, hJ, hN⟩ := hrel
        have HJ := Lib.hid hJ; have HJN := Lib.hid hN; clear hJ hN
        have hgr : g < wr.heap.size := by have := HJ.out.bl.size; omega
        have c0 : wr.cell? ⟨g, off + i, none⟩ = some (.slice sa sn sc) := by rw [HJ.out.bl.cell (show g < _ by omega)]; exact HC0.out
        by_cases hlt2 : (k : Int) < (sn : Int)
        · obtain ⟨nm, y, hx⟩ := ru_at (xs := rs) (j := k) (by rw [HM.out]; omega)
          obtain ⟨g', off', rfl, hg', d0, _⟩ := HIN.out.rule hx
          replace d0 : wr.cell? ⟨g', off' + k * 2, none⟩ = some (.string nm) := by rw [HJ.out.bl.cell (show g' < _ by omega)]; exact d0
          have HX := Lib.hid (preR_snoc (ss := ss) (i := i) hx)
          obtain ⟨C, hC⟩ : ∃ C, colOf (flatR ss) nm = C := ⟨_, rfl⟩
          obtain ⟨xs, hxs⟩ : ∃ xs, withCol (flatR ss) N = xs := ⟨_, rfl⟩
          have hxl : xs.length = N.length := by rw [← hxs, withCol_len]
          have hNl : N.length ≤ 1048576 := Nat.le_trans HJN.out.len (HTI.out k)
          rw [hxs] at HJ
          have q1 := box_cell HJ.out.b1 (j := 0) rfl
          have HCC := Lib.hid hC; have HXS := Lib.hid hxs; have HXL := Lib.hid hxl
          clear hx hC hxs
          obtain ⟨_, _, ev, hv1, hv2, hv3, _⟩ := HJ.out.o.reads encU_len
          injection ev with ev1 ev2 ev3; subst ev1; subst ev3
          rw [← ev2] at hv1; rw [hxl] at ev2; clear hxl
          subst ev2
          obtain ⟨vn, hvn⟩ : ∃ vn, N.length = vn := ⟨_, rfl⟩
          rw [hvn] at HJ q1 hv1 hNl
          have HVN := Lib.hid hvn; clear hvn
          have hrow : ∀ m, 0 < m → m ≤ vn → ∃ g2 nm2 y2, va = some ⟨g2, 0, none⟩ ∧ N[m - 1]? = some nm2 ∧ wr.cell? ⟨g2, (m - 1) * 2, none⟩ = some (.string nm2) ∧ wr.cell? ⟨g2, (m - 1) * 2 + 1, none⟩ = some (.int .i64 y2) := fun m h1 h2 => by
            obtain ⟨nm2, h3⟩ : ∃ s, N[m - 1]? = some s := ⟨_, List.getElem?_eq_getElem (by have := HVN.out; omega)⟩
            have h4 : xs[m - 1]? = some (nm2, colOf (flatR ss) nm2) := by rw [← HXS.out, withCol, List.getElem?_map, h3]; rfl
            have h5 := HJ.out.o.reads encU_len
            obtain ⟨g2, off2, e, _, k0, k1⟩ := h5.rule h4
            rcases HJ.out.o.1.2 with ⟨e2, _⟩ | ⟨g3, cap3, _, e2, _⟩
            · injection e2 with e3; rw [e3] at e; cases e
            · injection e2 with e3 _ _
              rw [e3] at e; cases e
              rw [Nat.zero_add] at k0 k1
              exact ⟨_, nm2, _, e3, h3, k0, k1⟩
          have HROW := Lib.hid hrow; clear hrow
          go_wp2
          go_loopw [7] (fun q wq => ∃ (m : Nat), m ≤ vn ∧ q = .int .i64 m ∧ (∀ j x, m ≤ j → N[j]? = some x → ltN nm x) ∧ wr = wq)
            (fun q _ => (intOf q).toNat)
          case atStart => exact ⟨vn, Nat.le_refl _, rfl, (fun j x h1 h2 => absurd (List.getElem?_eq_some_iff.1 h2).1 (by have := HVN.out; omega)), rfl⟩
          case round =>
            obtain ⟨m, hm, rfl, hbeh, rfl⟩ := hrel
            have HBH := Lib.hid hbeh; clear hbeh
            by_cases h0 : (0 : Int) < (m : Int)
            · obtain ⟨g2, nm2, y2, rfl, hn2', k0, k1⟩ := HROW.out m (by omega) hm
              have hg0 : decide (0 < m) = true := decide_eq_true (by omega)
              have hi0' : (0 : Int) ≤ (m : Int) - 1 := by omega
              have hi1' : (m : Int) - 1 < (vn : Int) := by omega
              have em : ((m : Int) - 1) = ((m - 1 : Nat) : Int) := by omega
              have hml : m - 1 < vn := by omega
              have HN2 := Lib.hid hn2'; clear hn2'
              by_cases hless : ltN nm nm2
              · have hle := less_yes hless
                have HQ := Lib.hid (show ∀ j x, m - 1 ≤ j → N[j]? = some x → ltN nm x from fun j x h1 h2 => by
                  by_cases e : j = m - 1
                  · subst e; rw [HN2.out] at h2; cases h2; exact hless
                  · exact HBH.out j x (by omega) h2)
                clear hless
                go_wp2
                go_roundw
                case rel => exact ⟨m - 1, by omega, by go_num, HQ.out, by first | trivial | rfl⟩
                case measure => simp [intOf]; omega
              · have hle := less_no hless
                by_cases heq : nm2 = nm
                · have hbe : (nm2.toList == nm.toList) = true := beqL_yes heq
                  have HQ := Lib.hid (show JN (preR ss i rs (k + 1)) N by
                    rw [HX.out]; exact HJN.out.skip (by rw [← heq]; exact List.mem_of_getElem? HN2.out))
                  have HJ2 := Lib.hid (show JS w wr (.slice (some ⟨g2, 0, none⟩) vn vc) (withCol (flatR ss) N) by rw [HXS.out]; exact HJ.out)
                  clear hless heq
                  go_wp2
                  go_roundw
                  case rel => exact ⟨k + 1, _, _, _, N, by omega, by go_num, HJ2.out, HQ.out⟩
                  case measure => simp [intOf]; omega
                · have hbe : (nm2.toList == nm.toList) = false := beqL_no heq
                  have HQ := Lib.hid (show JN (preR ss i rs (k + 1)) (N.take m ++ ([nm] ++ N.drop m)) by
                    rw [HX.out]
                    have h1 := HJN.out.below HN2.out (ltN_tot hless (Ne.symm heq))
                    rw [show m - 1 + 1 = m by omega] at h1
                    exact HJN.out.ins (r := (nm, y)) h1 HBH.out)
                  clear hless heq
                  have htl : (xs.take m).length = m := by rw [List.length_take]; have := HXL.out; have := HVN.out; omega
                  have hdl : (xs.drop m).length ≤ 1048576 := by rw [List.length_drop]; have := HXL.out; have := HVN.out; omega
                  have HT := Lib.hid ((rdU_take (HJ.out.o.reads encU_len) (m := m) (by have := HXL.out; have := HVN.out; omega)).below ((Below.refl wr.heap.size wr).alloc (Nat.le_refl _) (.cells #[] 104)) (Nat.le_refl _))
                  have HE := Lib.hid (MineK.empty encU 2 104 wr wr wr.heap.size (Below.refl _ _) (Nat.le_refl _))
                  have HLA := Lib.hid (show ([] : List Ru).length + (xs.take m).length ≤ 137438953472 by rw [htl, List.length_nil]; omega)
                  have HLB := Lib.hid (show (xs.take m).length + [(nm, C)].length ≤ 137438953472 by rw [htl, List.length_singleton]; omega)
                  have HLC := Lib.hid (show (xs.take m ++ [(nm, C)]).length + (xs.drop m).length ≤ 137438953472 by rw [List.length_append, htl]; simp only [List.length_singleton]; omega)
                  have q1a : (wr.alloc (.cells #[] 104)).cell? ⟨w.heap.size + 1, 0, none⟩ = some (.slice (some ⟨g2, 0, none⟩) vn vc) := (((Below.refl wr.heap.size wr).alloc (Nat.le_refl _) (.cells #[] 104)).cell (heap_lt HJ.out.b1)).trans q1
                  go_wp2_with (at_builtin; refine wpList_appK rfl _ _ 64 rfl encU_len encU_one (by decide) 104 i0 (.agg #[.string ⟨#[]⟩, .int .i64 0]) 24 Try.underlying64 hi0 hz0 hz1 HZ2.out rfl wr.heap.size wr _ [] rfl HE.out _ wr.heap.size (xs.take m) rfl HT.out (by decide) HLA.out ?_)
                  intro v3 w3 hm3 hnil3
                  have HM3 := Lib.hid (show MineK encU 2 104 wr.heap.size wr w3 v3 (xs.take m) from hm3)
                  have HC3 := Lib.hid (show Calls Try.prog 28 #[.slice (some ⟨g, off, none⟩) n cap, .string nm] w3 fun e w' => e = .returned (.int .i64 C) ∧ w3 = w' from by rw [← HCC.out]; exact HCO.out w3 (HJ.out.bl.trans (HM3.out.below.mono HJ.out.bl.size)) nm)
                  clear hm3 hnil3 q1a HT HE
                  go_wp2_with (first | (go_at_call 28; refine HC3.out.mono ?_; rintro e w' ⟨rfl, rfl⟩) | (at_builtin; refine wpList_appK rfl _ _ 64 rfl encU_len encU_one (by decide) 104 i0 (.agg #[.string ⟨#[]⟩, .int .i64 0]) 24 Try.underlying64 hi0 hz0 hz1 HZ2.out rfl wr.heap.size wr _ (xs.take m) rfl (HM3.out.alloc _) _ (w3.heap.size + 1) [(nm, C)] rfl (readsK_one2 encU 104 w3 (x := (nm, C)) rfl) (by decide) HLB.out ?_))
                  intro v4 w4 hm4 hnil4
                  have HM4 := Lib.hid (show MineK encU 2 104 wr.heap.size wr w4 v4 (xs.take m ++ [(nm, C)]) from hm4)
                  have q4 : w4.cell? ⟨w.heap.size + 1, 0, none⟩ = some (.slice (some ⟨g2, 0, none⟩) vn vc) := (HM4.out.below.cell (heap_lt HJ.out.b1)).trans q1
                  clear hm4 hnil4 q1
                  by_cases hcm : vc = m
                  · have hym : vn = m := by omega
                    have HD := Lib.hid (rdU_end wr.heap.size w4 (some ⟨g2, 0, none⟩) 0 (by omega) (fun h => by cases h) (m := m) (xs := xs) (by have := HXL.out; have := HVN.out; omega))
                    subst hym
                    subst hcm
                    go_wp2_with (at_builtin; refine wpList_appK rfl _ _ 64 rfl encU_len encU_one (by decide) 104 i0 (.agg #[.string ⟨#[]⟩, .int .i64 0]) 24 Try.underlying64 hi0 hz0 hz1 HZ2.out rfl wr.heap.size wr _ (xs.take vc ++ [(nm, C)]) rfl HM4.out _ wr.heap.size (xs.drop vc) rfl HD.out (by decide) HLC.out ?_)
                    intro v5 w5 hm5 hnil5
                    obtain ⟨ya, yn, yc, rfl⟩ : ∃ a n c, v5 = .slice a n c := by
                      obtain ⟨a, c, e, _⟩ := mineU_form hm5
                      exact ⟨a, _, c, e⟩
                    have hb1 := below_heap hm5.below (heap_lt HJ.out.b1) HJ.out.b1
                    have q5 := box_cell hb1 (j := 0) rfl
                    have z5 := box_frz hb1 0
                    have HJ2 := Lib.hid (show JS w (w5.setCell ⟨w.heap.size + 1, 0, none⟩ (.slice ya yn yc)) (.slice ya yn yc) (withCol (flatR ss) (N.take vc ++ ([nm] ++ N.drop vc))) by rw [withCol_ins HXS.out HCC.out]; exact HJ.out.put hm5)
                    clear hm5 hnil5 hb1 q4
                    go_wp2_with fail
                    go_roundw
                    case rel => exact ⟨k + 1, _, _, _, _, by omega, by go_num, HJ2.out, HQ.out⟩
                    case measure => simp [intOf]; omega
                  · have hmv : (m : Int) ≤ (vn : Int) := by omega
                    have HD := Lib.hid ((rdU_drop (HJ.out.o.reads encU_len) (m := m) (by have := HXL.out; have := HVN.out; omega)).below HM4.out.below (Nat.le_refl _))
                    go_wp2_with (at_builtin; refine wpList_appK rfl _ _ 64 rfl encU_len encU_one (by decide) 104 i0 (.agg #[.string ⟨#[]⟩, .int .i64 0]) 24 Try.underlying64 hi0 hz0 hz1 HZ2.out rfl wr.heap.size wr _ (xs.take m ++ [(nm, C)]) rfl HM4.out _ wr.heap.size (xs.drop m) rfl HD.out (by decide) HLC.out ?_)
                    intro v5 w5 hm5 hnil5
                    obtain ⟨ya, yn, yc, rfl⟩ : ∃ a n c, v5 = .slice a n c := by
                      obtain ⟨a, c, e, _⟩ := mineU_form hm5
                      exact ⟨a, _, c, e⟩
                    have hb1 := below_heap hm5.below (heap_lt HJ.out.b1) HJ.out.b1
                    have q5 := box_cell hb1 (j := 0) rfl
                    have z5 := box_frz hb1 0
                    have HJ2 := Lib.hid (show JS w (w5.setCell ⟨w.heap.size + 1, 0, none⟩ (.slice ya yn yc)) (.slice ya yn yc) (withCol (flatR ss) (N.take m ++ ([nm] ++ N.drop m))) by rw [withCol_ins HXS.out HCC.out]; exact HJ.out.put hm5)
                    clear hm5 hnil5 hb1 q4
                    go_wp2_with fail
                    go_roundw
                    case rel => exact ⟨k + 1, _, _, _, _, by omega, by go_num, HJ2.out, HQ.out⟩
                    case measure => simp [intOf]; omega
            · have hm0 : m = 0 := by omega
              subst hm0
              have hg0 : decide (0 < 0) = false := rfl
              have HQ := Lib.hid (show JN (preR ss i rs (k + 1)) (N.take 0 ++ ([nm] ++ N.drop 0)) by
                rw [HX.out]; exact HJN.out.ins (r := (nm, y)) (fun j x h1 _ => absurd h1 (Nat.not_lt_zero _)) HBH.out)
              rcases HJ.out.o.1.2 with ⟨e2, hz⟩ | ⟨g2, cap3, _, e2, _⟩
              · injection e2 with e3 e4 e5
                subst e3; subst e4; subst e5
                have htl : (xs.take 0).length = 0 := by rw [List.length_take]; have := HXL.out; have := HVN.out; omega
                have hdl : (xs.drop 0).length ≤ 1048576 := by rw [List.length_drop]; have := HXL.out; have := HVN.out; omega
                have HT := Lib.hid (rdU_none wr.heap.size (wr.alloc (.cells #[] 104)) xs)
                have HE := Lib.hid (MineK.empty encU 2 104 wr wr wr.heap.size (Below.refl _ _) (Nat.le_refl _))
                have HLA := Lib.hid (show ([] : List Ru).length + (xs.take 0).length ≤ 137438953472 by rw [htl, List.length_nil]; omega)
                have HLB := Lib.hid (show (xs.take 0).length + [(nm, C)].length ≤ 137438953472 by rw [htl, List.length_singleton]; omega)
                have HLC := Lib.hid (show (xs.take 0 ++ [(nm, C)]).length + (xs.drop 0).length ≤ 137438953472 by rw [List.length_append, htl]; simp only [List.length_singleton]; omega)
                have q1a : (wr.alloc (.cells #[] 104)).cell? ⟨w.heap.size + 1, 0, none⟩ = some (.slice none 0 0) := (((Below.refl wr.heap.size wr).alloc (Nat.le_refl _) (.cells #[] 104)).cell (heap_lt HJ.out.b1)).trans q1
                go_wp2_with (at_builtin; refine wpList_appK rfl _ _ 64 rfl encU_len encU_one (by decide) 104 i0 (.agg #[.string ⟨#[]⟩, .int .i64 0]) 24 Try.underlying64 hi0 hz0 hz1 HZ2.out rfl wr.heap.size wr _ [] rfl HE.out _ wr.heap.size (xs.take 0) rfl HT.out (by decide) HLA.out ?_)
                intro v3 w3 hm3 hnil3
                have HM3 := Lib.hid (show MineK encU 2 104 wr.heap.size wr w3 v3 (xs.take 0) from hm3)
                have HC3 := Lib.hid (show Calls Try.prog 28 #[.slice (some ⟨g, off, none⟩) n cap, .string nm] w3 fun e w' => e = .returned (.int .i64 C) ∧ w3 = w' from by rw [← HCC.out]; exact HCO.out w3 (HJ.out.bl.trans (HM3.out.below.mono HJ.out.bl.size)) nm)
                clear hm3 hnil3 q1a HT HE
                go_wp2_with (first | (go_at_call 28; refine HC3.out.mono ?_; rintro e w' ⟨rfl, rfl⟩) | (at_builtin; refine wpList_appK rfl _ _ 64 rfl encU_len encU_one (by decide) 104 i0 (.agg #[.string ⟨#[]⟩, .int .i64 0]) 24 Try.underlying64 hi0 hz0 hz1 HZ2.out rfl wr.heap.size wr _ (xs.take 0) rfl (HM3.out.alloc _) _ (w3.heap.size + 1) [(nm, C)] rfl (readsK_one2 encU 104 w3 (x := (nm, C)) rfl) (by decide) HLB.out ?_))
                intro v4 w4 hm4 hnil4
                have HM4 := Lib.hid (show MineK encU 2 104 wr.heap.size wr w4 v4 (xs.take 0 ++ [(nm, C)]) from hm4)
                have q4 : w4.cell? ⟨w.heap.size + 1, 0, none⟩ = some (.slice none 0 0) := (HM4.out.below.cell (heap_lt HJ.out.b1)).trans q1
                clear hm4 hnil4 q1
                have HD := Lib.hid (rdU_end wr.heap.size w4 none 0 (by omega) (fun _ => rfl) (m := 0) (xs := xs) (by have := HXL.out; have := HVN.out; omega))
                go_wp2_with (at_builtin; refine wpList_appK rfl _ _ 64 rfl encU_len encU_one (by decide) 104 i0 (.agg #[.string ⟨#[]⟩, .int .i64 0]) 24 Try.underlying64 hi0 hz0 hz1 HZ2.out rfl wr.heap.size wr _ (xs.take 0 ++ [(nm, C)]) rfl HM4.out _ wr.heap.size (xs.drop 0) rfl HD.out (by decide) HLC.out ?_)
                intro v5 w5 hm5 hnil5
                obtain ⟨ya, yn, yc, rfl⟩ : ∃ a n c, v5 = .slice a n c := by
                  obtain ⟨a, c, e, _⟩ := mineU_form hm5
                  exact ⟨a, _, c, e⟩
                have hb1 := below_heap hm5.below (heap_lt HJ.out.b1) HJ.out.b1
                have q5 := box_cell hb1 (j := 0) rfl
                have z5 := box_frz hb1 0
                have HJ2 := Lib.hid (show JS w (w5.setCell ⟨w.heap.size + 1, 0, none⟩ (.slice ya yn yc)) (.slice ya yn yc) (withCol (flatR ss) (N.take 0 ++ ([nm] ++ N.drop 0))) by rw [withCol_ins HXS.out HCC.out]; exact HJ.out.put hm5)
                clear hm5 hnil5 hb1 q4
                go_wp2_with fail
                go_roundw
                case rel => exact ⟨k + 1, _, _, _, _, by omega, by go_num, HJ2.out, HQ.out⟩
                case measure => simp [intOf]; omega
              · injection e2 with e3 e4 e5
                subst e3; clear e4 e5
                have htl : (xs.take 0).length = 0 := by rw [List.length_take]; have := HXL.out; have := HVN.out; omega
                have hdl : (xs.drop 0).length ≤ 1048576 := by rw [List.length_drop]; have := HXL.out; have := HVN.out; omega
                have HT := Lib.hid ((rdU_take (HJ.out.o.reads encU_len) (m := 0) (by have := HXL.out; have := HVN.out; omega)).below ((Below.refl wr.heap.size wr).alloc (Nat.le_refl _) (.cells #[] 104)) (Nat.le_refl _))
                have HE := Lib.hid (MineK.empty encU 2 104 wr wr wr.heap.size (Below.refl _ _) (Nat.le_refl _))
                have HLA := Lib.hid (show ([] : List Ru).length + (xs.take 0).length ≤ 137438953472 by rw [htl, List.length_nil]; omega)
                have HLB := Lib.hid (show (xs.take 0).length + [(nm, C)].length ≤ 137438953472 by rw [htl, List.length_singleton]; omega)
                have HLC := Lib.hid (show (xs.take 0 ++ [(nm, C)]).length + (xs.drop 0).length ≤ 137438953472 by rw [List.length_append, htl]; simp only [List.length_singleton]; omega)
                have q1a : (wr.alloc (.cells #[] 104)).cell? ⟨w.heap.size + 1, 0, none⟩ = some (.slice (some ⟨g2, 0, none⟩) vn vc) := (((Below.refl wr.heap.size wr).alloc (Nat.le_refl _) (.cells #[] 104)).cell (heap_lt HJ.out.b1)).trans q1
                go_wp2_with (at_builtin; refine wpList_appK rfl _ _ 64 rfl encU_len encU_one (by decide) 104 i0 (.agg #[.string ⟨#[]⟩, .int .i64 0]) 24 Try.underlying64 hi0 hz0 hz1 HZ2.out rfl wr.heap.size wr _ [] rfl HE.out _ wr.heap.size (xs.take 0) rfl HT.out (by decide) HLA.out ?_)
                intro v3 w3 hm3 hnil3
                have HM3 := Lib.hid (show MineK encU 2 104 wr.heap.size wr w3 v3 (xs.take 0) from hm3)
                have HC3 := Lib.hid (show Calls Try.prog 28 #[.slice (some ⟨g, off, none⟩) n cap, .string nm] w3 fun e w' => e = .returned (.int .i64 C) ∧ w3 = w' from by rw [← HCC.out]; exact HCO.out w3 (HJ.out.bl.trans (HM3.out.below.mono HJ.out.bl.size)) nm)
                clear hm3 hnil3 q1a HT HE
                go_wp2_with (first | (go_at_call 28; refine HC3.out.mono ?_; rintro e w' ⟨rfl, rfl⟩) | (at_builtin; refine wpList_appK rfl _ _ 64 rfl encU_len encU_one (by decide) 104 i0 (.agg #[.string ⟨#[]⟩, .int .i64 0]) 24 Try.underlying64 hi0 hz0 hz1 HZ2.out rfl wr.heap.size wr _ (xs.take 0) rfl (HM3.out.alloc _) _ (w3.heap.size + 1) [(nm, C)] rfl (readsK_one2 encU 104 w3 (x := (nm, C)) rfl) (by decide) HLB.out ?_))
                intro v4 w4 hm4 hnil4
                have HM4 := Lib.hid (show MineK encU 2 104 wr.heap.size wr w4 v4 (xs.take 0 ++ [(nm, C)]) from hm4)
                have q4 : w4.cell? ⟨w.heap.size + 1, 0, none⟩ = some (.slice (some ⟨g2, 0, none⟩) vn vc) := (HM4.out.below.cell (heap_lt HJ.out.b1)).trans q1
                clear hm4 hnil4 q1
                have HD := Lib.hid (((HJ.out.o.reads encU_len).below HM4.out.below (Nat.le_refl _)))
                go_wp2_with (at_builtin; refine wpList_appK rfl _ _ 64 rfl encU_len encU_one (by decide) 104 i0 (.agg #[.string ⟨#[]⟩, .int .i64 0]) 24 Try.underlying64 hi0 hz0 hz1 HZ2.out rfl wr.heap.size wr _ (xs.take 0 ++ [(nm, C)]) rfl HM4.out _ wr.heap.size (xs.drop 0) rfl HD.out (by decide) HLC.out ?_)
                intro v5 w5 hm5 hnil5
                obtain ⟨ya, yn, yc, rfl⟩ : ∃ a n c, v5 = .slice a n c := by
                  obtain ⟨a, c, e, _⟩ := mineU_form hm5
                  exact ⟨a, _, c, e⟩
                have hb1 := below_heap hm5.below (heap_lt HJ.out.b1) HJ.out.b1
                have q5 := box_cell hb1 (j := 0) rfl
                have z5 := box_frz hb1 0
                have HJ2 := Lib.hid (show JS w (w5.setCell ⟨w.heap.size + 1, 0, none⟩ (.slice ya yn yc)) (.slice ya yn yc) (withCol (flatR ss) (N.take 0 ++ ([nm] ++ N.drop 0))) by rw [withCol_ins HXS.out HCC.out]; exact HJ.out.put hm5)
                clear hm5 hnil5 hb1 q4
                go_wp2_with fail
                go_roundw
                case rel => exact ⟨k + 1, _, _, _, _, by omega, by go_num, HJ2.out, HQ.out⟩
                case measure => simp [intOf]; omega
        · have hkn : k = sn := by omega
          subst hkn
          have HQ := Lib.hid (show JN (flatR (ss.take (i + 1))) N by rw [← preR_full HP.out HM.out.symm]; exact HJN.out)
          go_wp2
          go_roundw
          case rel => exact ⟨i + 1, _, _, _, N, by omega, by go_num, HJ.out, HQ.out⟩
          case measure => simp [intOf]; omega
    · have hjn : i = n := by omega
      subst hjn
      have q0 := box_cell HJ.out.b0 (j := 0) rfl
      have z0 := box_frz HJ.out.b0 0
      have q1 := box_cell HJ.out.b1 (j := 0) rfl
      have hq := heap_one (o := 0) HJ.out.b0 (.slice va vn vc)
      have qf := box_cell hq (j := 0) rfl
      have HMI := Lib.hid (show MineK encU 2 104 w.heap.size w (wr.setCell ⟨w.heap.size, 0, none⟩ (.slice va vn vc)) (.slice va vn vc) (withCol (flatR ss) N) from
        ⟨(ownK_setT HJ.out.o HJ.out.b0 ru_ne.1).1, HJ.out.bl.setCell (Nat.le_refl _) _, Nat.le_trans HJ.out.bl.size (size_set _ _ _)⟩)
      have HJF := Lib.hid (show JN (flatR ss) N by have := HJN.out; rwa [flatR_full HN.out.symm] at this)
      clear hq
      go_wp2
      refine bodyPost_ret (v := .agg #[.slice va vn vc]) (by simp [results, Try.results37, go_sem, qf]) rfl ?_
      exact ⟨_, _, _, N, rfl, HJF.out, HMI.out⟩
end Go.Proofs.Ytmlmiclgledcpaa
