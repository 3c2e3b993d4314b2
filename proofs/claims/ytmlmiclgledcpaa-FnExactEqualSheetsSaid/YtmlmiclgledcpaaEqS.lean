/- Helper contracts: EqualSheets of the program and of the model answer alike: whether the sheets are equal. Asked: they lie in memory as named. -/
import Derived.Test.YtmlmiclgledcpaaEqn
import Derived.Test.YtmlmiclgledcpaaSh
import Derived.Test.YtmlmiclgledcpaaColS
import Derived.Shelf.SlSortCmp.QuietGrown
namespace Go.Proofs.Ytmlmiclgledcpaa
open Go.ChangeShapes Go.WideShapes Go.ChangeAt Go.RowKit

set_option maxHeartbeats 2000000 in
theorem slicesEqU (v u : Value) (hi hi' : Nat) (xs ys : List Ru) (w : World) (hv : ReadsK encU 2 hi w v xs) (hu : ReadsK encU 2 hi' w u ys) (hh : hi ≤ w.heap.size) (hh' : hi' ≤ w.heap.size) :
    Calls Try.prog 113 #[v, u] w fun e w' => e = .returned (.bool (decide (xs = ys))) ∧ Grw w w' := by
  obtain ⟨a, cap, rfl, hc1, hc2, _, hcells⟩ := hv
  obtain ⟨a', cap', rfl, hc1', hc2', _, hcells'⟩ := hu
  have HC := Lib.hid hcells; have HC' := Lib.hid hcells'; clear hcells hcells'
  by_cases hn : xs.length = ys.length
  · obtain ⟨n, hxn⟩ : ∃ n, xs.length = n := ⟨_, rfl⟩
    have hyn : ys.length = n := by omega
    rw [hxn] at hc1 HC ⊢
    rw [hyn] at hc1' HC' ⊢
    have HXN := Lib.hid hxn; have HYN := Lib.hid hyn; clear hxn hyn hn
    go_enter Try.func113, Try.ntmps113
    go_wp2
    go_loopw [13] (fun i wr => ∃ (k : Nat), k ≤ n ∧ i = .int .i64 k ∧ PreL xs ys k ∧ Grw w wr)
      (fun i _ => n - (intOf i).toNat)
    case atStart => exact ⟨0, Nat.zero_le _, rfl, PreL.zero _ _, Grw.refl _⟩
    case round =>
      obtain ⟨k, hk, rfl, hp, hs⟩ := hrel
      have HS := Lib.hid hs; have HP := Lib.hid hp
      clear hs hp
      by_cases hlt : (k : Int) < (n : Int)
      · rcases HC.out with h0 | ⟨g, off, rfl, hg, hcells⟩
        · omega
        · rcases HC'.out with h0 | ⟨g', off', rfl, hg', hcells'⟩
          · omega
          · obtain ⟨x, y, hx⟩ := ru_at (xs := xs) (j := k) (by have := HXN.out; omega)
            obtain ⟨x', y', hx'⟩ := ru_at (xs := ys) (j := k) (by have := HYN.out; omega)
            have c1 : wr.cell? ⟨g, off + k * 2, none⟩ = some (.string x) := by rw [HS.out.below.cell (show g < _ by omega)]; exact hcells k _ hx 0 (by omega)
            have c2 : wr.cell? ⟨g, off + k * 2 + 1, none⟩ = some (.int .i64 y) := by rw [HS.out.below.cell (show g < _ by omega)]; exact hcells k _ hx 1 (by omega)
            have c3 : wr.cell? ⟨g', off' + k * 2, none⟩ = some (.string x') := by rw [HS.out.below.cell (show g' < _ by omega)]; exact hcells' k _ hx' 0 (by omega)
            have c4 : wr.cell? ⟨g', off' + k * 2 + 1, none⟩ = some (.int .i64 y') := by rw [HS.out.below.cell (show g' < _ by omega)]; exact hcells' k _ hx' 1 (by omega)
            have HX := Lib.hid hx; have HX' := Lib.hid hx'
            clear hcells hcells' hx hx'
            by_cases e1 : x = x'
            · have e3 : (x.toList == x'.toList) = true := beqL_yes e1
              by_cases e2 : y = y'
              · have e4 : (y == y') = true := beq_iff_eq.2 e2; have e5 : (y != y') = false := by rw [bne, e4]; rfl
                have HQ := Lib.hid (HP.out.step (by rw [HX.out, HX'.out, e1, e2]))
                clear e1 e2
                go_wp2
                go_quiet (fail)
                go_wp2
                go_roundw
                case rel => exact ⟨k + 1, by omega, by go_num, HQ.out, HS.out.drewN _⟩
                case measure => simp [intOf]; omega
              · have e4 : (y == y') = false := beq_eq_false_iff_ne.2 e2; have e5 : (y != y') = true := by rw [bne, e4]; rfl
                have HNE := Lib.hid (show xs ≠ ys from fun e => e2 (by have h := HX.out; rw [e, HX'.out] at h; exact (Prod.mk.inj (Option.some.inj h)).2.symm))
                clear e1 e2
                go_wp2
                go_quiet (fail)
                go_wp2
                go_ret
                exact ⟨ret_d (decide_eq_false HNE.out).symm, HS.out.drewN _⟩
            · have e3 : (x.toList == x'.toList) = false := beqL_no e1
              have HNE := Lib.hid (show xs ≠ ys from fun e => e1 (by have h := HX.out; rw [e, HX'.out] at h; exact (Prod.mk.inj (Option.some.inj h)).1.symm))
              clear e1
              go_wp2
              go_quiet (fail)
              go_wp2
              go_ret
              exact ⟨ret_d (decide_eq_false HNE.out).symm, HS.out.drewN _⟩
      · have hkn : k = n := by omega
        subst hkn
        have HE := Lib.hid (HP.out.full HXN.out HYN.out)
        go_wp2
        go_ret
        exact ⟨ret_d (decide_eq_true HE.out).symm, HS.out⟩
  · have HNE := Lib.hid (show xs ≠ ys from fun e => hn (by rw [e]))
    have hni : (xs.length : Int) ≠ (ys.length : Int) := by omega
    clear hn
    go_enter Try.func113, Try.ntmps113
    go_wp2
    go_ret
    exact ⟨ret_d (decide_eq_false HNE.out).symm, Grw.refl _⟩

set_option maxHeartbeats 2000000 in
theorem sameRules_any (v u : Value) (xs ys : List Ru) (w : World) (hv : ReadsK encU 2 w.heap.size w v xs) (hu : ReadsK encU 2 w.heap.size w u ys) :
    Calls Try.prog 83 #[.agg #[v], .agg #[u]] w fun e w' => e = .returned (.bool (decide (xs = ys))) ∧ Grw w w' := by
  have hg := ((Grw.refl w).alloc (.cells #[v] 66)).alloc (.cells #[u] 66)
  have hb := hg.below
  have HE := Lib.hid (slicesEqU v u _ _ xs ys ((w.alloc (.cells #[v] 66)).alloc (.cells #[u] 66)) (hv.below hb (Nat.le_refl _)) (hu.below hb (Nat.le_refl _)) hb.size hb.size)
  obtain ⟨a, cap, rfl, _⟩ := hv
  obtain ⟨a', cap', rfl, _⟩ := hu
  have HG := Lib.hid hg; clear hg hb
  obtain ⟨r, hr⟩ : ∃ r, decide (xs = ys) = r := ⟨_, rfl⟩
  rw [hr] at HE ⊢
  clear hr
  go_enter Try.func83, Try.ntmps83
  go_wp2_with (go_at_call 113; refine HE.out.mono ?_; rintro e w1 ⟨rfl, hg1⟩)
  go_ret
  exact ⟨rfl, HG.out.trans hg1⟩

theorem fst_at {ss : List Shv} {k : Nat} {p : Shv} (h : ss[k]? = some p) : (ss.map Prod.fst)[k]? = some p.1 := by rw [List.getElem?_map, h]; rfl

set_option maxRecDepth 100000 in
set_option maxHeartbeats 4000000 in
theorem eqFunc_any (v u : Value) (ss us : List Shv) (w : World) (hv : ReadH w.heap.size w v ss) (hu : ReadH w.heap.size w u us) :
    Calls Try.prog 82 #[v, u, .func (.func 83) #[] #[]] w fun e w' => e = .returned (.bool (decide (ss.map Prod.fst = us.map Prod.fst))) ∧ Grw w w' := by
  obtain ⟨a, cap, rfl, hc1, hc2⟩ := hv.form
  obtain ⟨a', cap', rfl, hc1', hc2'⟩ := hu.form
  obtain ⟨D, hD⟩ : ∃ D, decide (ss.map Prod.fst = us.map Prod.fst) = D := ⟨_, rfl⟩
  rw [hD]
  obtain ⟨n, hn⟩ : ∃ n, ss.length = n := ⟨_, rfl⟩
  obtain ⟨n', hn'⟩ : ∃ n, us.length = n := ⟨_, rfl⟩
  rw [hn] at hv hc1 ⊢; rw [hn'] at hu hc1' ⊢
  have HD := Lib.hid hD; have HV := Lib.hid hv; have HU := Lib.hid hu; have HN := Lib.hid hn; have HN' := Lib.hid hn'
  clear hD hv hu hn hn'
  by_cases h : n = n'
  · subst h
    have hnn : ((n : Int) != (n : Int)) = false := by rw [bne, beq_self_eq_true]; rfl
    go_enter Try.func82, Try.ntmps82
    go_wp2
    go_loopw [17] (fun i wr => ∃ (k : Nat), k ≤ n ∧ i = .int .i64 k ∧ PreL (ss.map Prod.fst) (us.map Prod.fst) k ∧ Grw w wr)
      (fun i _ => n - (intOf i).toNat)
    case atStart => exact ⟨0, Nat.zero_le _, rfl, PreL.zero _ _, Grw.refl _⟩
    case round =>
      obtain ⟨k, hk, rfl, hp, hs⟩ := hrel
      have HS := Lib.hid hs; have HP := Lib.hid hp
      clear hs hp
      by_cases hlt : (k : Int) < (n : Int)
      · obtain ⟨p, hp⟩ := sh_at (ss := ss) (j := k) (by rw [HN.out]; omega)
        obtain ⟨q, hq⟩ := sh_at (ss := us) (j := k) (by rw [HN'.out]; omega)
        obtain ⟨g, off, rfl, hg, c0⟩ := HV.out.at hp
        obtain ⟨g', off', rfl, hg', d0⟩ := HU.out.at hq
        have hpi := HV.out.sheet hp
        have hqi := HU.out.sheet hq
        have HPF := Lib.hid (fst_at hp); have HQF := Lib.hid (fst_at hq)
        obtain ⟨rs, ⟨sa, sn, sc⟩⟩ := p
        obtain ⟨rs', ⟨sa', sn', sc'⟩⟩ := q
        replace hpi : ReadsK encU 2 w.heap.size w (.slice sa sn sc) rs := hpi
        replace hqi : ReadsK encU 2 w.heap.size w (.slice sa' sn' sc') rs' := hqi
        replace c0 : wr.cell? ⟨g, off + k, none⟩ = some (.slice sa sn sc) := by rw [HS.out.below.cell (show g < _ by omega)]; exact c0
        replace d0 : wr.cell? ⟨g', off' + k, none⟩ = some (.slice sa' sn' sc') := by rw [HS.out.below.cell (show g' < _ by omega)]; exact d0
        replace d0 : (wr.alloc (.cells #[.slice sa sn sc] 66)).cell? ⟨g', off' + k, none⟩ = some (.slice sa' sn' sc') := by rw [((Below.refl _ wr).alloc (Nat.le_refl _) _).cell (show g' < _ by have := HS.out.below.size; omega)]; exact d0
        have hbw := HS.out.below
        have hg2 := ((Grw.refl wr).alloc (.cells #[.slice sa sn sc] 66)).alloc (.cells #[.slice sa' sn' sc'] 66)
        have hb2 := hbw.trans (hg2.below.mono hbw.size)
        have HE := Lib.hid (sameRules_any (.slice sa sn sc) (.slice sa' sn' sc') rs rs' ((wr.alloc (.cells #[.slice sa sn sc] 66)).alloc (.cells #[.slice sa' sn' sc'] 66)) ((hpi.below hb2 (Nat.le_refl _)).mono hb2.size) ((hqi.below hb2 (Nat.le_refl _)).mono hb2.size))
        have HG2 := Lib.hid (HS.out.trans hg2)
        clear hp hq hpi hqi hbw hg2 hb2
        obtain ⟨r, hr⟩ : ∃ r, decide (rs = rs') = r := ⟨_, rfl⟩
        rw [hr] at HE
        have HR := Lib.hid hr; clear hr
        cases r with
        | true =>
          have HQ := Lib.hid (HP.out.step (by rw [HPF.out, HQF.out]; exact congrArg some (of_decide_eq_true HR.out)))
          go_wp2_with (go_at_call 83; refine HE.out.mono ?_; rintro e w1 ⟨rfl, hg1⟩)
          have HG1 := Lib.hid (HG2.out.trans hg1); clear hg1
          go_roundw
          case rel => exact ⟨k + 1, by omega, by go_num, HQ.out, HG1.out⟩
          case measure => simp [intOf]; omega
        | false =>
          have HNE := Lib.hid (show ss.map Prod.fst ≠ us.map Prod.fst from fun e => of_decide_eq_false HR.out (by have h := HPF.out; rw [e, HQF.out] at h; exact (Option.some.inj h).symm))
          go_wp2_with (go_at_call 83; refine HE.out.mono ?_; rintro e w1 ⟨rfl, hg1⟩)
          have HG1 := Lib.hid (HG2.out.trans hg1); clear hg1
          go_ret
          exact ⟨ret_b (by rw [← HD.out]; exact (decide_eq_false HNE.out).symm), HG1.out⟩
      · have hkn : k = n := by omega
        subst hkn
        have HE := Lib.hid (HP.out.full (by rw [List.length_map]; exact HN.out) (by rw [List.length_map]; exact HN'.out))
        go_wp2
        go_ret
        exact ⟨ret_b (by rw [← HD.out]; exact (decide_eq_true HE.out).symm), HS.out⟩
  · have hnn : ((n : Int) != (n' : Int)) = true := by rw [bne, beq_eq_false_iff_ne.2 (show (n : Int) ≠ (n' : Int) by omega)]; rfl
    have HNE := Lib.hid (show ss.map Prod.fst ≠ us.map Prod.fst from fun e => h (by rw [← HN.out, ← HN'.out]; have := congrArg List.length e; simpa using this))
    clear h
    go_enter Try.func82, Try.ntmps82
    go_wp2
    go_ret
    exact ⟨ret_b (by rw [← HD.out]; exact (decide_eq_false HNE.out).symm), Grw.refl _⟩

set_option maxHeartbeats 2000000 in
theorem eqH_impl (v u : Value) (ss us : List Shv) (w : World) (hv : ReadH w.heap.size w v ss) (hu : ReadH w.heap.size w u us) :
    Calls Try.prog 44 #[v, u] w fun e w' => e = .returned (.bool (decide (ss.map Prod.fst = us.map Prod.fst))) ∧ Grw w w' := by
  have HE := Lib.hid (eqFunc_any v u ss us w hv hu)
  obtain ⟨a, cap, rfl, _⟩ := hv.form
  obtain ⟨a', cap', rfl, _⟩ := hu.form
  obtain ⟨D, hD⟩ : ∃ D, decide (ss.map Prod.fst = us.map Prod.fst) = D := ⟨_, rfl⟩
  rw [hD] at HE ⊢
  clear hv hu hD
  go_enter Try.func44, Try.ntmps44
  go_wp2_with (go_at_call 82; refine HE.out.mono ?_; rintro e w1 ⟨rfl, hg1⟩)
  go_ret
  exact ⟨rfl, hg1⟩

set_option maxRecDepth 100000 in
set_option maxHeartbeats 4000000 in
theorem eqH_spec (v u : Value) (ss us : List Shv) (w : World) (hv : ReadH w.heap.size w v ss) (hu : ReadH w.heap.size w u us) :
    Calls Try.prog 43 #[v, u] w fun e w' => e = .returned (.bool (decide (ss.map Prod.fst = us.map Prod.fst))) ∧ Grw w w' := by
  obtain ⟨a, cap, rfl, hc1, hc2⟩ := hv.form
  obtain ⟨a', cap', rfl, hc1', hc2'⟩ := hu.form
  obtain ⟨D, hD⟩ : ∃ D, decide (ss.map Prod.fst = us.map Prod.fst) = D := ⟨_, rfl⟩
  rw [hD]
  obtain ⟨n, hn⟩ : ∃ n, ss.length = n := ⟨_, rfl⟩
  obtain ⟨n', hn'⟩ : ∃ n, us.length = n := ⟨_, rfl⟩
  rw [hn] at hv hc1 ⊢; rw [hn'] at hu hc1' ⊢
  have HD := Lib.hid hD; have HV := Lib.hid hv; have HU := Lib.hid hu; have HN := Lib.hid hn; have HN' := Lib.hid hn'
  clear hD hv hu hn hn'
  by_cases h : n = n'
  · subst h
    have hnn : ((n : Int) != (n : Int)) = false := by rw [bne, beq_self_eq_true]; rfl
    go_enter Try.func43, Try.ntmps43
    go_wp2
    go_loopw [5] (fun i wr => ∃ (k : Nat), k ≤ n ∧ i = .int .i64 k ∧ PreL (ss.map Prod.fst) (us.map Prod.fst) k ∧ Grw w wr)
      (fun i _ => n - (intOf i).toNat)
    case atStart => exact ⟨0, Nat.zero_le _, rfl, PreL.zero _ _, Grw.refl _⟩
    case round =>
      obtain ⟨i, hk, rfl, hp, hs⟩ := hrel
      have HS := Lib.hid hs; have HP := Lib.hid hp
      clear hs hp
      by_cases hlt : (i : Int) < (n : Int)
      · obtain ⟨p, hp⟩ := sh_at (ss := ss) (j := i) (by rw [HN.out]; omega)
        obtain ⟨q, hq⟩ := sh_at (ss := us) (j := i) (by rw [HN'.out]; omega)
        obtain ⟨g, off, rfl, hg, c0⟩ := HV.out.at hp
        obtain ⟨g', off', rfl, hg', d0⟩ := HU.out.at hq
        have hpi := HV.out.sheet hp
        have hqi := HU.out.sheet hq
        have HPF := Lib.hid (fst_at hp); have HQF := Lib.hid (fst_at hq)
        obtain ⟨rs, ⟨sa, sn, sc⟩⟩ := p
        obtain ⟨rs', ⟨sa', sn', sc'⟩⟩ := q
        replace hpi : ReadsK encU 2 w.heap.size w (.slice sa sn sc) rs := hpi
        replace hqi : ReadsK encU 2 w.heap.size w (.slice sa' sn' sc') rs' := hqi
        have HC := Lib.hid (show w.cell? ⟨g, off + i, none⟩ = some (.slice sa sn sc) from c0); have HC' := Lib.hid (show w.cell? ⟨g', off' + i, none⟩ = some (.slice sa' sn' sc') from d0)
        clear c0 d0 hp hq
        have c0 : wr.cell? ⟨g, off + i, none⟩ = some (.slice sa sn sc) := by rw [HS.out.below.cell (show g < _ by omega)]; exact HC.out
        have d0 : wr.cell? ⟨g', off' + i, none⟩ = some (.slice sa' sn' sc') := by rw [HS.out.below.cell (show g' < _ by omega)]; exact HC'.out
        obtain ⟨_, _, e, hd1, hd2, _⟩ := id hpi
        injection e with e2 e3 e4; subst e2; subst e4
        obtain ⟨_, _, e, hd1', hd2', _⟩ := id hqi
        injection e with e2 e3' e4; subst e2; subst e4
        rw [← e3] at hd1; rw [← e3'] at hd1'
        have HPI := Lib.hid hpi; have HQI := Lib.hid hqi; have HM := Lib.hid e3.symm; have HM' := Lib.hid e3'.symm
        clear hpi hqi e3 e3'
        by_cases hm : sn = sn'
        · subst hm
          have hmm : ((sn : Int) != (sn : Int)) = false := by rw [bne, beq_self_eq_true]; rfl
          go_wp2
          go_quiet (fail)
          go_wp2
          go_loopw [6] (fun q wr => ∃ (k : Nat), k ≤ sn ∧ q = .int .i64 k ∧ PreL rs rs' k ∧ Grw w wr)
            (fun q _ => sn - (intOf q).toNat)
          case atStart => exact ⟨0, Nat.zero_le _, rfl, PreL.zero _ _, HS.out.drewN _⟩
          case round =>
            obtain ⟨k, hk, rfl, hp, hs⟩ := hrel
            clear HS c0 d0
            have HS := Lib.hid hs; have HPR := Lib.hid hp
            clear hs hp
            have c0 : wr.cell? ⟨g, off + i, none⟩ = some (.slice sa sn sc) := by rw [HS.out.below.cell (show g < _ by omega)]; exact HC.out
            have d0 : wr.cell? ⟨g', off' + i, none⟩ = some (.slice sa' sn sc') := by rw [HS.out.below.cell (show g' < _ by omega)]; exact HC'.out
            by_cases hlt2 : (k : Int) < (sn : Int)
            · obtain ⟨x, y, hx⟩ := ru_at (xs := rs) (j := k) (by rw [HM.out]; omega)
              obtain ⟨x', y', hx'⟩ := ru_at (xs := rs') (j := k) (by rw [HM'.out]; omega)
              obtain ⟨b, o, rfl, hb, c1, c2⟩ := HPI.out.rule hx
              obtain ⟨b', o', rfl, hb', d1, d2⟩ := HQI.out.rule hx'
              replace c1 : wr.cell? ⟨b, o + k * 2, none⟩ = some (.string x) := by rw [HS.out.below.cell (show b < _ by omega)]; exact c1
              replace c2 : wr.cell? ⟨b, o + k * 2 + 1, none⟩ = some (.int .i64 y) := by rw [HS.out.below.cell (show b < _ by omega)]; exact c2
              replace d1 : wr.cell? ⟨b', o' + k * 2, none⟩ = some (.string x') := by rw [HS.out.below.cell (show b' < _ by omega)]; exact d1
              replace d2 : wr.cell? ⟨b', o' + k * 2 + 1, none⟩ = some (.int .i64 y') := by rw [HS.out.below.cell (show b' < _ by omega)]; exact d2
              have HX := Lib.hid hx; have HX' := Lib.hid hx'
              clear hx hx'
              by_cases e1 : x = x'
              · have e3 : (x.toList == x'.toList) = true := beqL_yes e1
                by_cases e2 : y = y'
                · have e4 : (y == y') = true := beq_iff_eq.2 e2; have e5 : (y != y') = false := by rw [bne, e4]; rfl
                  have HQ := Lib.hid (HPR.out.step (by rw [HX.out, HX'.out, e1, e2]))
                  clear e1 e2
                  go_wp2
                  go_quiet (fail)
                  go_wp2
                  go_roundw
                  case rel => exact ⟨k + 1, by omega, by go_num, HQ.out, HS.out.drewN _⟩
                  case measure => simp [intOf]; omega
                · have e4 : (y == y') = false := beq_eq_false_iff_ne.2 e2; have e5 : (y != y') = true := by rw [bne, e4]; rfl
                  have HNE := Lib.hid (show ss.map Prod.fst ≠ us.map Prod.fst from fun e => e2 (by
                    have h := HPF.out; rw [e, HQF.out] at h; have h2 : rs' = rs := Option.some.inj h
                    have h3 := HX.out; rw [← h2, HX'.out] at h3; exact (Prod.mk.inj (Option.some.inj h3)).2.symm))
                  clear e1 e2
                  go_wp2
                  go_quiet (fail)
                  go_wp2
                  go_ret
                  exact ⟨ret_b (by rw [← HD.out]; exact (decide_eq_false HNE.out).symm), HS.out.drewN _⟩
              · have e3 : (x.toList == x'.toList) = false := beqL_no e1
                have HNE := Lib.hid (show ss.map Prod.fst ≠ us.map Prod.fst from fun e => e1 (by
                  have h := HPF.out; rw [e, HQF.out] at h; have h2 : rs' = rs := Option.some.inj h
                  have h3 := HX.out; rw [← h2, HX'.out] at h3; exact (Prod.mk.inj (Option.some.inj h3)).1.symm))
                clear e1
                go_wp2
                go_quiet (fail)
                go_wp2
                go_ret
                exact ⟨ret_b (by rw [← HD.out]; exact (decide_eq_false HNE.out).symm), HS.out.drewN _⟩
            · have hkn : k = sn := by omega
              subst hkn
              have HE := Lib.hid (HPR.out.full HM.out HM'.out)
              have HQ := Lib.hid (HP.out.step (by rw [HPF.out, HQF.out]; exact congrArg some HE.out))
              go_wp2
              go_roundw
              case rel => exact ⟨i + 1, by omega, by go_num, HQ.out, HS.out⟩
              case measure => simp [intOf]; omega
        · have hmm : ((sn : Int) != (sn' : Int)) = true := by rw [bne, beq_eq_false_iff_ne.2 (show (sn : Int) ≠ (sn' : Int) by omega)]; rfl
          have HNE := Lib.hid (show ss.map Prod.fst ≠ us.map Prod.fst from fun e => hm (by
            have h := HPF.out; rw [e, HQF.out] at h; have h2 : rs' = rs := Option.some.inj h
            rw [← HM.out, ← HM'.out, h2]))
          clear hm
          go_wp2
          go_quiet (fail)
          go_wp2
          go_ret
          exact ⟨ret_b (by rw [← HD.out]; exact (decide_eq_false HNE.out).symm), HS.out.drewN _⟩
      · have hkn : i = n := by omega
        subst hkn
        have HE := Lib.hid (HP.out.full (by rw [List.length_map]; exact HN.out) (by rw [List.length_map]; exact HN'.out))
        go_wp2
        go_ret
        exact ⟨ret_b (by rw [← HD.out]; exact (decide_eq_true HE.out).symm), HS.out⟩
  · have hnn : ((n : Int) != (n' : Int)) = true := by rw [bne, beq_eq_false_iff_ne.2 (show (n : Int) ≠ (n' : Int) by omega)]; rfl
    have HNE := Lib.hid (show ss.map Prod.fst ≠ us.map Prod.fst from fun e => h (by rw [← HN.out, ← HN'.out]; have := congrArg List.length e; simpa using this))
    clear h
    go_enter Try.func43, Try.ntmps43
    go_wp2
    go_ret
    exact ⟨ret_b (by rw [← HD.out]; exact (decide_eq_false HNE.out).symm), Grw.refl _⟩
end Go.Proofs.Ytmlmiclgledcpaa
