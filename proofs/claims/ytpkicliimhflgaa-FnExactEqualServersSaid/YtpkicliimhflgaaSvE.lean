/- Helper contract: EqualServers of the program: whether the servers are equal. Asked: they lie in memory as named. -/
import Derived.Test.YtpkicliimhflgaaSvP
import Derived.Test.YtpkicliimhflgaaEqn
import Derived.Shelf.SlSortCmp.QuietGrown
namespace Go.Proofs.Ytpkicliimhflgaa
open Go.ChangeShapes Go.WideShapes Go.ChangeAt Go.RowKit

set_option maxRecDepth 100000 in
set_option maxHeartbeats 4000000 in
theorem slicesEqF (v u : Value) (hi hi' : Nat) (xs ys : List Fl) (w : World) (hv : ReadsK encF 7 hi w v xs) (hu : ReadsK encF 7 hi' w u ys) (hh : hi ≤ w.heap.size) (hh' : hi' ≤ w.heap.size) :
    Calls Try.prog 33 #[v, u] w fun e w' => e = .returned (.bool (decide (xs = ys))) ∧ Grw w w' := by
  obtain ⟨a, cap, rfl, hc1, hc2⟩ := hv.formF
  obtain ⟨a', cap', rfl, hc1', hc2'⟩ := hu.formF
  by_cases hn : xs.length = ys.length
  · obtain ⟨n, hxn⟩ : ∃ n, xs.length = n := ⟨_, rfl⟩
    have hyn : ys.length = n := by omega
    rw [hxn] at hc1 hv ⊢
    rw [hyn] at hc1' hu ⊢
    have HC := Lib.hid hv; have HC' := Lib.hid hu; clear hv hu
    have HXN := Lib.hid hxn; have HYN := Lib.hid hyn; clear hxn hyn hn
    go_enter Try.func33, Try.ntmps33
    go_wp2
    go_loopw [13] (fun i wr => ∃ (k : Nat), k ≤ n ∧ i = .int .i64 k ∧ PreL xs ys k ∧ Grw w wr)
      (fun i _ => n - (intOf i).toNat)
    case atStart => exact ⟨0, Nat.zero_le _, rfl, PreL.zero _ _, Grw.refl _⟩
    case round =>
      obtain ⟨k, hk, rfl, hp, hs⟩ := hrel
      have HS := Lib.hid hs; have HP := Lib.hid hp
      clear hs hp
      by_cases hlt : (k : Int) < (n : Int)
      · obtain ⟨p_a, f_s, f_k, f_b, f_a, f_h, f_o, hx⟩ := fl_at (xs := xs) (j := k) (by have := HXN.out; omega)
        obtain ⟨p_c, h_s, h_k, h_b, h_a, h_h, h_o, hx'⟩ := fl_at (xs := ys) (j := k) (by have := HYN.out; omega)
        obtain ⟨g, off, rfl, hg, c0, c1, c2, c3, c4, c5, c6⟩ := HC.out.file hx
        obtain ⟨g', off', rfl, hg', d0, d1, d2, d3, d4, d5, d6⟩ := HC'.out.file hx'
        replace c0 : wr.cell? ⟨g, off + k * 7, none⟩ = some (.string p_a) := by rw [HS.out.below.cell (show g < _ by omega)]; exact c0
        replace d0 : wr.cell? ⟨g', off' + k * 7, none⟩ = some (.string p_c) := by rw [HS.out.below.cell (show g' < _ by omega)]; exact d0
        replace c1 : wr.cell? ⟨g, off + k * 7 + 1, none⟩ = some (.int .i64 f_s) := by rw [HS.out.below.cell (show g < _ by omega)]; exact c1
        replace d1 : wr.cell? ⟨g', off' + k * 7 + 1, none⟩ = some (.int .i64 h_s) := by rw [HS.out.below.cell (show g' < _ by omega)]; exact d1
        replace c2 : wr.cell? ⟨g, off + k * 7 + 2, none⟩ = some (.int .i64 f_k) := by rw [HS.out.below.cell (show g < _ by omega)]; exact c2
        replace d2 : wr.cell? ⟨g', off' + k * 7 + 2, none⟩ = some (.int .i64 h_k) := by rw [HS.out.below.cell (show g' < _ by omega)]; exact d2
        replace c3 : wr.cell? ⟨g, off + k * 7 + 3, none⟩ = some (.string f_b) := by rw [HS.out.below.cell (show g < _ by omega)]; exact c3
        replace d3 : wr.cell? ⟨g', off' + k * 7 + 3, none⟩ = some (.string h_b) := by rw [HS.out.below.cell (show g' < _ by omega)]; exact d3
        replace c4 : wr.cell? ⟨g, off + k * 7 + 4, none⟩ = some (.int .i64 f_a) := by rw [HS.out.below.cell (show g < _ by omega)]; exact c4
        replace d4 : wr.cell? ⟨g', off' + k * 7 + 4, none⟩ = some (.int .i64 h_a) := by rw [HS.out.below.cell (show g' < _ by omega)]; exact d4
        replace c5 : wr.cell? ⟨g, off + k * 7 + 5, none⟩ = some (.bool f_h) := by rw [HS.out.below.cell (show g < _ by omega)]; exact c5
        replace d5 : wr.cell? ⟨g', off' + k * 7 + 5, none⟩ = some (.bool h_h) := by rw [HS.out.below.cell (show g' < _ by omega)]; exact d5
        replace c6 : wr.cell? ⟨g, off + k * 7 + 6, none⟩ = some (.string f_o) := by rw [HS.out.below.cell (show g < _ by omega)]; exact c6
        replace d6 : wr.cell? ⟨g', off' + k * 7 + 6, none⟩ = some (.string h_o) := by rw [HS.out.below.cell (show g' < _ by omega)]; exact d6
        have HX := Lib.hid hx; have HX' := Lib.hid hx'
        clear hx hx'
        by_cases e0 : p_a = p_c
        · have y0 : (p_a.toList == p_c.toList) = true := beqL_yes e0
          have HE0 := Lib.hid e0; clear e0
          by_cases e1 : f_s = h_s
          · have y1 : (f_s == h_s) = true := beq_iff_eq.2 e1; have z1 : (f_s != h_s) = false := by rw [bne, y1]; rfl
            have HE1 := Lib.hid e1; clear e1
            by_cases e2 : f_k = h_k
            · have y2 : (f_k == h_k) = true := beq_iff_eq.2 e2; have z2 : (f_k != h_k) = false := by rw [bne, y2]; rfl
              have HE2 := Lib.hid e2; clear e2
              by_cases e3 : f_b = h_b
              · have y3 : (f_b.toList == h_b.toList) = true := beqL_yes e3
                have HE3 := Lib.hid e3; clear e3
                by_cases e4 : f_a = h_a
                · have y4 : (f_a == h_a) = true := beq_iff_eq.2 e4; have z4 : (f_a != h_a) = false := by rw [bne, y4]; rfl
                  have HE4 := Lib.hid e4; clear e4
                  by_cases e5 : f_h = h_h
                  · have y5 : (f_h == h_h) = true := beq_iff_eq.2 e5; have z5 : (f_h != h_h) = false := by rw [bne, y5]; rfl
                    have HE5 := Lib.hid e5; clear e5
                    by_cases e6 : f_o = h_o
                    · have y6 : (f_o.toList == h_o.toList) = true := beqL_yes e6
                      have HE6 := Lib.hid e6; clear e6
                      have HQ := Lib.hid (HP.out.step (by rw [HX.out, HX'.out]; exact congrArg some (show (⟨p_a, ⟨f_s, f_k, f_b, f_a, f_h, f_o⟩⟩ : Fl) = ⟨p_c, ⟨h_s, h_k, h_b, h_a, h_h, h_o⟩⟩ by rw [HE0.out, HE1.out, HE2.out, HE3.out, HE4.out, HE5.out, HE6.out])))
                      go_wp2
                      go_quiet (fail)
                      go_wp2
                      go_roundw
                      case rel => exact ⟨k + 1, by omega, by go_num, HQ.out, HS.out.drewN _⟩
                      case measure => simp [intOf]; omega
                    · have y6 : (f_o.toList == h_o.toList) = false := beqL_no e6
                      have HNE := Lib.hid (show xs ≠ ys from fun e => e6 (by have h := HX.out; rw [e, HX'.out] at h; exact (congrArg (fun f : Fl => f.rv.po) (Option.some.inj h)).symm))
                      clear e6
                      go_wp2
                      go_quiet (fail)
                      go_wp2
                      go_ret
                      exact ⟨ret_d (decide_eq_false HNE.out).symm, HS.out.drewN _⟩
                  · have y5 : (f_h == h_h) = false := beq_eq_false_iff_ne.2 e5; have z5 : (f_h != h_h) = true := by rw [bne, y5]; rfl
                    have HNE := Lib.hid (show xs ≠ ys from fun e => e5 (by have h := HX.out; rw [e, HX'.out] at h; exact (congrArg (fun f : Fl => f.rv.sh) (Option.some.inj h)).symm))
                    clear e5
                    go_wp2
                    go_quiet (fail)
                    go_wp2
                    go_ret
                    exact ⟨ret_d (decide_eq_false HNE.out).symm, HS.out.drewN _⟩
                · have y4 : (f_a == h_a) = false := beq_eq_false_iff_ne.2 e4; have z4 : (f_a != h_a) = true := by rw [bne, y4]; rfl
                  have HNE := Lib.hid (show xs ≠ ys from fun e => e4 (by have h := HX.out; rw [e, HX'.out] at h; exact (congrArg (fun f : Fl => f.rv.ag) (Option.some.inj h)).symm))
                  clear e4
                  go_wp2
                  go_quiet (fail)
                  go_wp2
                  go_ret
                  exact ⟨ret_d (decide_eq_false HNE.out).symm, HS.out.drewN _⟩
              · have y3 : (f_b.toList == h_b.toList) = false := beqL_no e3
                have HNE := Lib.hid (show xs ≠ ys from fun e => e3 (by have h := HX.out; rw [e, HX'.out] at h; exact (congrArg (fun f : Fl => f.rv.bo) (Option.some.inj h)).symm))
                clear e3
                go_wp2
                go_quiet (fail)
                go_wp2
                go_ret
                exact ⟨ret_d (decide_eq_false HNE.out).symm, HS.out.drewN _⟩
            · have y2 : (f_k == h_k) = false := beq_eq_false_iff_ne.2 e2; have z2 : (f_k != h_k) = true := by rw [bne, y2]; rfl
              have HNE := Lib.hid (show xs ≠ ys from fun e => e2 (by have h := HX.out; rw [e, HX'.out] at h; exact (congrArg (fun f : Fl => f.rv.kd) (Option.some.inj h)).symm))
              clear e2
              go_wp2
              go_quiet (fail)
              go_wp2
              go_ret
              exact ⟨ret_d (decide_eq_false HNE.out).symm, HS.out.drewN _⟩
          · have y1 : (f_s == h_s) = false := beq_eq_false_iff_ne.2 e1; have z1 : (f_s != h_s) = true := by rw [bne, y1]; rfl
            have HNE := Lib.hid (show xs ≠ ys from fun e => e1 (by have h := HX.out; rw [e, HX'.out] at h; exact (congrArg (fun f : Fl => f.rv.st) (Option.some.inj h)).symm))
            clear e1
            go_wp2
            go_quiet (fail)
            go_wp2
            go_ret
            exact ⟨ret_d (decide_eq_false HNE.out).symm, HS.out.drewN _⟩
        · have y0 : (p_a.toList == p_c.toList) = false := beqL_no e0
          have HNE := Lib.hid (show xs ≠ ys from fun e => e0 (by have h := HX.out; rw [e, HX'.out] at h; exact (congrArg (fun f : Fl => f.pa) (Option.some.inj h)).symm))
          clear e0
          go_wp2
          go_quiet (fail)
          go_wp2
          go_ret
          exact ⟨ret_d (decide_eq_false HNE.out).symm, HS.out.drewN _⟩
      · have hkn : k = n := by omega
        subst hkn
        have HE := Lib.hid (HP.out.full HXN.out HYN.out)
        go_wp2
        go_ret
        exact ⟨ret_d (decide_eq_true HE.out).symm, HS.out⟩
  · have HNE := Lib.hid (show xs ≠ ys from fun e => hn (by rw [e]))
    have hni : (xs.length : Int) ≠ (ys.length : Int) := by omega
    clear hn
    go_enter Try.func33, Try.ntmps33
    go_wp2
    go_ret
    exact ⟨ret_d (decide_eq_false HNE.out).symm, Grw.refl _⟩

set_option maxRecDepth 100000 in
set_option maxHeartbeats 4000000 in
theorem eqSv_one (h h' : ByteArray) (a : Option Addr) (n c : Nat) (a' : Option Addr) (n' c' : Nat) (xs ys : List Fl) (w : World) (hv : ReadsK encF 7 w.heap.size w (.slice a n c) xs) (hu : ReadsK encF 7 w.heap.size w (.slice a' n' c') ys) :
    Calls Try.prog 25 #[.agg #[.string h, .slice a n c], .agg #[.string h', .slice a' n' c']] w fun e w' => e = .returned (.bool (decide ((h, xs) = (h', ys)))) ∧ Grw w w' := by
  obtain ⟨W, hW⟩ : ∃ W, (w.alloc (.cells #[.string h, .slice a n c] 47)).alloc (.cells #[.string h', .slice a' n' c'] 47) = W := ⟨_, rfl⟩
  have hg : Grw w W := by rw [← hW]; exact ((Grw.refl w).alloc _).alloc _
  have q0 : W.cell? ⟨w.heap.size, 0, none⟩ = some (.string h) := by rw [← hW]; simp
  have r0 : W.cell? ⟨w.heap.size + 1, 0, none⟩ = some (.string h') := by rw [← hW]; simp
  have q1 : W.cell? ⟨w.heap.size, 1, none⟩ = some (.slice a n c) := by rw [← hW]; simp
  have r1 : W.cell? ⟨w.heap.size + 1, 1, none⟩ = some (.slice a' n' c') := by rw [← hW]; simp
  have hb := hg.below
  have HE := Lib.hid (slicesEqF _ _ _ _ xs ys W (hv.below hb (Nat.le_refl _)) (hu.below hb (Nat.le_refl _)) hb.size hb.size)
  have HG := Lib.hid hg; have HW := Lib.hid hW; clear hg hb hW hv hu
  by_cases e : h = h'
  · have y0 : (h.toList == h'.toList) = true := beqL_yes e
    obtain ⟨r, hr⟩ : ∃ r, decide (xs = ys) = r := ⟨_, rfl⟩
    have HR := Lib.hid (show decide ((h, xs) = (h', ys)) = r by rw [← hr]; simp [e])
    rw [hr] at HE; clear hr e
    go_enter Try.func25, Try.ntmps25
    go_wp2_with fail
    rw [HW.out]
    go_wp2_with (go_at_call 33; refine HE.out.mono ?_; rintro e w1 ⟨rfl, hg1⟩)
    go_ret
    exact ⟨ret_b HR.out.symm, HG.out.trans hg1⟩
  · have y0 : (h.toList == h'.toList) = false := beqL_no e
    have HR := Lib.hid (show decide ((h, xs) = (h', ys)) = false by simp [e])
    clear e
    go_enter Try.func25, Try.ntmps25
    go_wp2_with fail
    rw [HW.out]
    go_wp2_with fail
    go_ret
    exact ⟨ret_b HR.out.symm, HG.out⟩

set_option maxRecDepth 100000 in
set_option maxHeartbeats 4000000 in
theorem eqSvF_any (v u : Value) (ss us : List Se) (w : World) (hv : ReadV w.heap.size w v ss) (hu : ReadV w.heap.size w u us) :
    Calls Try.prog 24 #[v, u, .func (.func 25) #[] #[]] w fun e w' => e = .returned (.bool (decide (ss.map Prod.fst = us.map Prod.fst))) ∧ Grw w w' := by
  obtain ⟨a, cap, rfl, hc1, hc2⟩ := hv.form
  obtain ⟨a', cap', rfl, hc1', hc2'⟩ := hu.form
  obtain ⟨D, hD⟩ : ∃ D, decide (ss.map Prod.fst = us.map Prod.fst) = D := ⟨_, rfl⟩
  rw [hD]
  obtain ⟨n, hn⟩ : ∃ n, ss.length = n := ⟨_, rfl⟩
  obtain ⟨n', hn'⟩ : ∃ n, us.length = n := ⟨_, rfl⟩
  rw [hn] at hv hc1 ⊢; rw [hn'] at hu hc1' ⊢
  have HD := Lib.hid hD; have HV := Lib.hid hv; have HU := Lib.hid hu; have HN := Lib.hid hn; have HN' := Lib.hid hn'
  clear hD hv hu hn hn'
  by_cases h : n = n'
  · subst h
    have hnn : ((n : Int) != (n : Int)) = false := by rw [bne, beq_self_eq_true]; rfl
    go_enter Try.func24, Try.ntmps24
    go_wp2
    go_loopw [17] (fun i wr => ∃ (k : Nat), k ≤ n ∧ i = .int .i64 k ∧ PreL (ss.map Prod.fst) (us.map Prod.fst) k ∧ Grw w wr)
      (fun i _ => n - (intOf i).toNat)
    case atStart => exact ⟨0, Nat.zero_le _, rfl, PreL.zero _ _, Grw.refl _⟩
    case round =>
      obtain ⟨k, hk, rfl, hp, hs⟩ := hrel
      have HS := Lib.hid hs; have HP := Lib.hid hp
      clear hs hp
      by_cases hlt : (k : Int) < (n : Int)
      · obtain ⟨p, hp⟩ := se_at (ss := ss) (j := k) (by rw [HN.out]; omega)
        obtain ⟨q, hq⟩ := se_at (ss := us) (j := k) (by rw [HN'.out]; omega)
        obtain ⟨g, off, rfl, hg, c0, c1⟩ := HV.out.at hp
        obtain ⟨g', off', rfl, hg', d0, d1⟩ := HU.out.at hq
        have hpi := HV.out.files hp
        have hqi := HU.out.files hq
        have HPF := Lib.hid (fd_mapS ss k p hp); have HQF := Lib.hid (fd_mapS us k q hq)
        obtain ⟨⟨h, fs⟩, ⟨sa, sn, sc⟩⟩ := p
        obtain ⟨⟨h', fs'⟩, ⟨sa', sn', sc'⟩⟩ := q
        replace hpi : ReadsK encF 7 w.heap.size w (.slice sa sn sc) fs := hpi
        replace hqi : ReadsK encF 7 w.heap.size w (.slice sa' sn' sc') fs' := hqi
        replace c0 : wr.cell? ⟨g, off + k * 2, none⟩ = some (.string h) := by rw [HS.out.below.cell (show g < _ by omega)]; exact c0
        replace c1 : wr.cell? ⟨g, off + k * 2 + 1, none⟩ = some (.slice sa sn sc) := by rw [HS.out.below.cell (show g < _ by omega)]; exact c1
        replace d0 : wr.cell? ⟨g', off' + k * 2, none⟩ = some (.string h') := by rw [HS.out.below.cell (show g' < _ by omega)]; exact d0
        replace d0 : (wr.alloc (.cells #[.string h, .slice sa sn sc] 47)).cell? ⟨g', off' + k * 2, none⟩ = some (.string h') := by rw [((Below.refl _ wr).alloc (Nat.le_refl _) _).cell (show g' < _ by have := HS.out.below.size; omega)]; exact d0
        replace d1 : wr.cell? ⟨g', off' + k * 2 + 1, none⟩ = some (.slice sa' sn' sc') := by rw [HS.out.below.cell (show g' < _ by omega)]; exact d1
        replace d1 : (wr.alloc (.cells #[.string h, .slice sa sn sc] 47)).cell? ⟨g', off' + k * 2 + 1, none⟩ = some (.slice sa' sn' sc') := by rw [((Below.refl _ wr).alloc (Nat.le_refl _) _).cell (show g' < _ by have := HS.out.below.size; omega)]; exact d1
        have hbw := HS.out.below
        have hg2 := ((Grw.refl wr).alloc (.cells #[.string h, .slice sa sn sc] 47)).alloc (.cells #[.string h', .slice sa' sn' sc'] 47)
        have hb2 := hbw.trans (hg2.below.mono hbw.size)
        have HE := Lib.hid (eqSv_one h h' sa sn sc sa' sn' sc' fs fs' ((wr.alloc (.cells #[.string h, .slice sa sn sc] 47)).alloc (.cells #[.string h', .slice sa' sn' sc'] 47)) ((hpi.below hb2 (Nat.le_refl _)).mono hb2.size) ((hqi.below hb2 (Nat.le_refl _)).mono hb2.size))
        have HG2 := Lib.hid (HS.out.trans hg2)
        clear hp hq hpi hqi hbw hg2 hb2
        obtain ⟨r, hr⟩ : ∃ r, decide ((h, fs) = (h', fs')) = r := ⟨_, rfl⟩
        rw [hr] at HE
        have HR := Lib.hid hr; clear hr
        cases r with
        | true =>
          have HQ := Lib.hid (HP.out.step (by rw [HPF.out, HQF.out]; exact congrArg some (of_decide_eq_true HR.out)))
          go_wp2_with (go_at_call 25; refine HE.out.mono ?_; rintro e w1 ⟨rfl, hg1⟩)
          have HG1 := Lib.hid (HG2.out.trans hg1); clear hg1
          go_roundw
          case rel => exact ⟨k + 1, by omega, by go_num, HQ.out, HG1.out⟩
          case measure => simp [intOf]; omega
        | false =>
          have HNE := Lib.hid (show ss.map Prod.fst ≠ us.map Prod.fst from fun e => of_decide_eq_false HR.out (by have h := HPF.out; rw [e, HQF.out] at h; exact (Option.some.inj h).symm))
          go_wp2_with (go_at_call 25; refine HE.out.mono ?_; rintro e w1 ⟨rfl, hg1⟩)
          have HG1 := Lib.hid (HG2.out.trans hg1); clear hg1
          go_ret
          exact ⟨ret_b (by rw [← HD.out]; exact (decide_eq_false HNE.out).symm), HG1.out⟩
      · have hkn : k = n := by omega
        subst hkn
        have HE := Lib.hid (HP.out.full (by rw [List.length_map]; exact HN.out) (by rw [List.length_map]; exact HN'.out))
        go_wp2
        go_ret
        exact ⟨ret_b (by rw [← HD.out]; exact (decide_eq_true HE.out).symm), HS.out⟩
  · have hnn : ((n : Int) != (n' : Int)) = true := by rw [bne, beq_eq_false_iff_ne.2 (show (n : Int) ≠ (n' : Int) by omega)]; rfl
    have HNE := Lib.hid (show ss.map Prod.fst ≠ us.map Prod.fst from fun e => h (by rw [← HN.out, ← HN'.out]; have := congrArg List.length e; simpa using this))
    clear h
    go_enter Try.func24, Try.ntmps24
    go_wp2
    go_ret
    exact ⟨ret_b (by rw [← HD.out]; exact (decide_eq_false HNE.out).symm), Grw.refl _⟩

set_option maxRecDepth 100000 in
set_option maxHeartbeats 4000000 in
theorem eqSvs_impl (v u : Value) (ss us : List Se) (w : World) (hv : ReadV w.heap.size w v ss) (hu : ReadV w.heap.size w u us) :
    Calls Try.prog 14 #[v, u] w fun e w' => e = .returned (.bool (decide (ss.map Prod.fst = us.map Prod.fst))) ∧ Grw w w' := by
  have HE := Lib.hid (eqSvF_any v u ss us w hv hu)
  obtain ⟨a, cap, rfl, _⟩ := hv.form
  obtain ⟨a', cap', rfl, _⟩ := hu.form
  obtain ⟨D, hD⟩ : ∃ D, decide (ss.map Prod.fst = us.map Prod.fst) = D := ⟨_, rfl⟩
  rw [hD] at HE ⊢
  clear hv hu hD
  go_enter Try.func14, Try.ntmps14
  go_wp2_with (go_at_call 24; refine HE.out.mono ?_; rintro e w1 ⟨rfl, hg1⟩)
  go_ret
  exact ⟨rfl, hg1⟩

end Go.Proofs.Ytpkicliimhflgaa
