/- Helper contract: EqualServers of the model: whether the servers are equal. Asked: they lie in memory as named. -/
import Derived.Test.YtpkicliimhflgaaSvP
import Derived.Test.YtpkicliimhflgaaEqn
import Derived.Shelf.SlSortCmp.QuietGrown
namespace Go.Proofs.Ytpkicliimhflgaa
open Go.ChangeShapes Go.WideShapes Go.ChangeAt Go.RowKit

set_option maxRecDepth 100000 in
set_option maxHeartbeats 4000000 in
theorem eqSvs_spec (v u : Value) (ss us : List Se) (w : World) (hv : ReadV w.heap.size w v ss) (hu : ReadV w.heap.size w u us) :
    Calls Try.prog 13 #[v, u] w fun e w' => e = .returned (.bool (decide (ss.map Prod.fst = us.map Prod.fst))) ∧ Grw w w' := by
  obtain ⟨a, cap, rfl, hc1, hc2⟩ := hv.form
  obtain ⟨a', cap', rfl, hc1', hc2'⟩ := hu.form
  obtain ⟨D, hD⟩ : ∃ D, decide (ss.map Prod.fst = us.map Prod.fst) = D := ⟨_, rfl⟩
  rw [hD]
  obtain ⟨n, hn⟩ : ∃ n, ss.length = n := ⟨_, rfl⟩
  obtain ⟨n', hn'⟩ : ∃ n, us.length = n := ⟨_, rfl⟩
  rw [hn] at hv hc1 ⊢; rw [hn'] at hu hc1' ⊢
  have HD := Lib.hid hD; have HV := Lib.hid hv; have HU := Lib.hid hu; have HN := Lib.hid hn; have HN' := Lib.hid hn'
  clear hD hv hu hn hn'
  by_cases h : n = n'
  · subst h
    have hnn : ((n : Int) != (n : Int)) = false := by rw [bne, beq_self_eq_true]; rfl
    go_enter Try.func13, Try.ntmps13
    go_wp2
    go_loopw [5] (fun i wr => ∃ (k : Nat), k ≤ n ∧ i = .int .i64 k ∧ PreL (ss.map Prod.fst) (us.map Prod.fst) k ∧ Grw w wr)
      (fun i _ => n - (intOf i).toNat)
    case atStart => exact ⟨0, Nat.zero_le _, rfl, PreL.zero _ _, Grw.refl _⟩
    case round =>
      obtain ⟨i, hk, rfl, hp, hs⟩ := hrel
      have HS := Lib.hid hs; have HP := Lib.hid hp
      clear hs hp
      by_cases hlt : (i : Int) < (n : Int)
      · obtain ⟨p, hp⟩ := se_at (ss := ss) (j := i) (by rw [HN.out]; omega)
        obtain ⟨q, hq⟩ := se_at (ss := us) (j := i) (by rw [HN'.out]; omega)
        obtain ⟨g, off, rfl, hg, c0, c1⟩ := HV.out.at hp
        obtain ⟨g', off', rfl, hg', d0, d1⟩ := HU.out.at hq
        have hpi := HV.out.files hp
        have hqi := HU.out.files hq
        have HPF := Lib.hid (fd_mapS ss i p hp); have HQF := Lib.hid (fd_mapS us i q hq)
        obtain ⟨⟨h, fs⟩, ⟨sa, sn, sc⟩⟩ := p
        obtain ⟨⟨h', fs'⟩, ⟨sa', sn', sc'⟩⟩ := q
        replace hpi : ReadsK encF 7 w.heap.size w (.slice sa sn sc) fs := hpi
        replace hqi : ReadsK encF 7 w.heap.size w (.slice sa' sn' sc') fs' := hqi
        have HC0 := Lib.hid (show w.cell? ⟨g, off + i * 2, none⟩ = some (.string h) from c0)
        have HC1 := Lib.hid (show w.cell? ⟨g, off + i * 2 + 1, none⟩ = some (.slice sa sn sc) from c1)
        have HD0 := Lib.hid (show w.cell? ⟨g', off' + i * 2, none⟩ = some (.string h') from d0)
        have HD1 := Lib.hid (show w.cell? ⟨g', off' + i * 2 + 1, none⟩ = some (.slice sa' sn' sc') from d1)
        clear c0 c1 d0 d1 hp hq
        have c0 : wr.cell? ⟨g, off + i * 2, none⟩ = some (.string h) := by rw [HS.out.below.cell (show g < _ by omega)]; exact HC0.out
        have c1 : wr.cell? ⟨g, off + i * 2 + 1, none⟩ = some (.slice sa sn sc) := by rw [HS.out.below.cell (show g < _ by omega)]; exact HC1.out
        have d0 : wr.cell? ⟨g', off' + i * 2, none⟩ = some (.string h') := by rw [HS.out.below.cell (show g' < _ by omega)]; exact HD0.out
        have d1 : wr.cell? ⟨g', off' + i * 2 + 1, none⟩ = some (.slice sa' sn' sc') := by rw [HS.out.below.cell (show g' < _ by omega)]; exact HD1.out
        obtain ⟨_, _, e, hd1, hd2, _⟩ := id hpi
        injection e with e2 e3 e4; subst e2; subst e4
        obtain ⟨_, _, e, hd1', hd2', _⟩ := id hqi
        injection e with e2 e3' e4; subst e2; subst e4
        rw [← e3] at hd1; rw [← e3'] at hd1'
        have HPI := Lib.hid hpi; have HQI := Lib.hid hqi; have HM := Lib.hid e3.symm; have HM' := Lib.hid e3'.symm
        clear hpi hqi e3 e3'
        by_cases e0 : h = h'
        · have y0 : (h.toList == h'.toList) = true := beqL_yes e0
          have y0' : (h.toList != h'.toList) = false := by rw [bne, y0]; rfl
          have HE0 := Lib.hid e0; clear e0
          by_cases hm : sn = sn'
          · subst hm
            have hmm : ((sn : Int) != (sn : Int)) = false := by rw [bne, beq_self_eq_true]; rfl
            go_wp2
            go_quiet (fail)
            go_wp2
            go_loopw [6] (fun q wr => ∃ (k : Nat), k ≤ sn ∧ q = .int .i64 k ∧ PreL fs fs' k ∧ Grw w wr)
              (fun q _ => sn - (intOf q).toNat)
            case atStart => exact ⟨0, Nat.zero_le _, rfl, PreL.zero _ _, HS.out.drewN _⟩
            case round =>
              obtain ⟨k, hk, rfl, hp, hs⟩ := hrel
              clear HS c0 c1 d0 d1
              have HS := Lib.hid hs; have HPR := Lib.hid hp
              clear hs hp
              have c0 : wr.cell? ⟨g, off + i * 2, none⟩ = some (.string h) := by rw [HS.out.below.cell (show g < _ by omega)]; exact HC0.out
              have c1 : wr.cell? ⟨g, off + i * 2 + 1, none⟩ = some (.slice sa sn sc) := by rw [HS.out.below.cell (show g < _ by omega)]; exact HC1.out
              have d0 : wr.cell? ⟨g', off' + i * 2, none⟩ = some (.string h') := by rw [HS.out.below.cell (show g' < _ by omega)]; exact HD0.out
              have d1 : wr.cell? ⟨g', off' + i * 2 + 1, none⟩ = some (.slice sa' sn sc') := by rw [HS.out.below.cell (show g' < _ by omega)]; exact HD1.out
              by_cases hlt2 : (k : Int) < (sn : Int)
              · obtain ⟨p_a, f_s, f_k, f_b, f_a, f_h, f_o, hx⟩ := fl_at (xs := fs) (j := k) (by rw [HM.out]; omega)
                obtain ⟨p_c, h_s, h_k, h_b, h_a, h_h, h_o, hx'⟩ := fl_at (xs := fs') (j := k) (by rw [HM'.out]; omega)
                obtain ⟨b, o, rfl, hb, u0, u1, u2, u3, u4, u5, u6⟩ := HPI.out.file hx
                obtain ⟨b', o', rfl, hb', v0, v1, v2, v3, v4, v5, v6⟩ := HQI.out.file hx'
                replace u0 : wr.cell? ⟨b, o + k * 7, none⟩ = some (.string p_a) := by rw [HS.out.below.cell (show b < _ by omega)]; exact u0
                replace v0 : wr.cell? ⟨b', o' + k * 7, none⟩ = some (.string p_c) := by rw [HS.out.below.cell (show b' < _ by omega)]; exact v0
                replace u1 : wr.cell? ⟨b, o + k * 7 + 1, none⟩ = some (.int .i64 f_s) := by rw [HS.out.below.cell (show b < _ by omega)]; exact u1
                replace v1 : wr.cell? ⟨b', o' + k * 7 + 1, none⟩ = some (.int .i64 h_s) := by rw [HS.out.below.cell (show b' < _ by omega)]; exact v1
                replace u2 : wr.cell? ⟨b, o + k * 7 + 2, none⟩ = some (.int .i64 f_k) := by rw [HS.out.below.cell (show b < _ by omega)]; exact u2
                replace v2 : wr.cell? ⟨b', o' + k * 7 + 2, none⟩ = some (.int .i64 h_k) := by rw [HS.out.below.cell (show b' < _ by omega)]; exact v2
                replace u3 : wr.cell? ⟨b, o + k * 7 + 3, none⟩ = some (.string f_b) := by rw [HS.out.below.cell (show b < _ by omega)]; exact u3
                replace v3 : wr.cell? ⟨b', o' + k * 7 + 3, none⟩ = some (.string h_b) := by rw [HS.out.below.cell (show b' < _ by omega)]; exact v3
                replace u4 : wr.cell? ⟨b, o + k * 7 + 4, none⟩ = some (.int .i64 f_a) := by rw [HS.out.below.cell (show b < _ by omega)]; exact u4
                replace v4 : wr.cell? ⟨b', o' + k * 7 + 4, none⟩ = some (.int .i64 h_a) := by rw [HS.out.below.cell (show b' < _ by omega)]; exact v4
                replace u5 : wr.cell? ⟨b, o + k * 7 + 5, none⟩ = some (.bool f_h) := by rw [HS.out.below.cell (show b < _ by omega)]; exact u5
                replace v5 : wr.cell? ⟨b', o' + k * 7 + 5, none⟩ = some (.bool h_h) := by rw [HS.out.below.cell (show b' < _ by omega)]; exact v5
                replace u6 : wr.cell? ⟨b, o + k * 7 + 6, none⟩ = some (.string f_o) := by rw [HS.out.below.cell (show b < _ by omega)]; exact u6
                replace v6 : wr.cell? ⟨b', o' + k * 7 + 6, none⟩ = some (.string h_o) := by rw [HS.out.below.cell (show b' < _ by omega)]; exact v6
                have HX := Lib.hid hx; have HX' := Lib.hid hx'
                clear hx hx'
                by_cases e0 : p_a = p_c
                · have y0 : (p_a.toList == p_c.toList) = true := beqL_yes e0
                  have HE0 := Lib.hid e0; clear e0
                  by_cases e1 : f_s = h_s
                  · have y1 : (f_s == h_s) = true := beq_iff_eq.2 e1; have z1 : (f_s != h_s) = false := by rw [bne, y1]; rfl
                    have HE1 := Lib.hid e1; clear e1
                    by_cases e2 : f_k = h_k
                    · have y2 : (f_k == h_k) = true := beq_iff_eq.2 e2; have z2 : (f_k != h_k) = false := by rw [bne, y2]; rfl
                      have HE2 := Lib.hid e2; clear e2
                      by_cases e3 : f_b = h_b
                      · have y3 : (f_b.toList == h_b.toList) = true := beqL_yes e3
                        have HE3 := Lib.hid e3; clear e3
                        by_cases e4 : f_a = h_a
                        · have y4 : (f_a == h_a) = true := beq_iff_eq.2 e4; have z4 : (f_a != h_a) = false := by rw [bne, y4]; rfl
                          have HE4 := Lib.hid e4; clear e4
                          by_cases e5 : f_h = h_h
                          · have y5 : (f_h == h_h) = true := beq_iff_eq.2 e5; have z5 : (f_h != h_h) = false := by rw [bne, y5]; rfl
                            have HE5 := Lib.hid e5; clear e5
                            by_cases e6 : f_o = h_o
                            · have y6 : (f_o.toList == h_o.toList) = true := beqL_yes e6
                              have HE6 := Lib.hid e6; clear e6
                              have HQ := Lib.hid (HPR.out.step (by rw [HX.out, HX'.out]; exact congrArg some (show (⟨p_a, ⟨f_s, f_k, f_b, f_a, f_h, f_o⟩⟩ : Fl) = ⟨p_c, ⟨h_s, h_k, h_b, h_a, h_h, h_o⟩⟩ by rw [HE0.out, HE1.out, HE2.out, HE3.out, HE4.out, HE5.out, HE6.out])))
                              go_wp2
                              go_quiet (fail)
                              go_wp2
                              go_roundw
                              case rel => exact ⟨k + 1, by omega, by go_num, HQ.out, HS.out.drewN _⟩
                              case measure => simp [intOf]; omega
                            · have y6 : (f_o.toList == h_o.toList) = false := beqL_no e6
                              have HNE := Lib.hid (show ss.map Prod.fst ≠ us.map Prod.fst from fun e => e6 (by
                                have hz := HPF.out; rw [e, HQF.out] at hz; have h2 : fs' = fs := (Prod.mk.inj (Option.some.inj hz)).2
                                have h3 := HX.out; rw [← h2, HX'.out] at h3; exact (congrArg (fun f : Fl => f.rv.po) (Option.some.inj h3)).symm))
                              clear e6
                              go_wp2
                              go_quiet (fail)
                              go_wp2
                              go_ret
                              exact ⟨ret_b (by rw [← HD.out]; exact (decide_eq_false HNE.out).symm), HS.out.drewN _⟩
                          · have y5 : (f_h == h_h) = false := beq_eq_false_iff_ne.2 e5; have z5 : (f_h != h_h) = true := by rw [bne, y5]; rfl
                            have HNE := Lib.hid (show ss.map Prod.fst ≠ us.map Prod.fst from fun e => e5 (by
                              have hz := HPF.out; rw [e, HQF.out] at hz; have h2 : fs' = fs := (Prod.mk.inj (Option.some.inj hz)).2
                              have h3 := HX.out; rw [← h2, HX'.out] at h3; exact (congrArg (fun f : Fl => f.rv.sh) (Option.some.inj h3)).symm))
                            clear e5
                            go_wp2
                            go_quiet (fail)
                            go_wp2
                            go_ret
                            exact ⟨ret_b (by rw [← HD.out]; exact (decide_eq_false HNE.out).symm), HS.out.drewN _⟩
                        · have y4 : (f_a == h_a) = false := beq_eq_false_iff_ne.2 e4; have z4 : (f_a != h_a) = true := by rw [bne, y4]; rfl
                          have HNE := Lib.hid (show ss.map Prod.fst ≠ us.map Prod.fst from fun e => e4 (by
                            have hz := HPF.out; rw [e, HQF.out] at hz; have h2 : fs' = fs := (Prod.mk.inj (Option.some.inj hz)).2
                            have h3 := HX.out; rw [← h2, HX'.out] at h3; exact (congrArg (fun f : Fl => f.rv.ag) (Option.some.inj h3)).symm))
                          clear e4
                          go_wp2
                          go_quiet (fail)
                          go_wp2
                          go_ret
                          exact ⟨ret_b (by rw [← HD.out]; exact (decide_eq_false HNE.out).symm), HS.out.drewN _⟩
                      · have y3 : (f_b.toList == h_b.toList) = false := beqL_no e3
                        have HNE := Lib.hid (show ss.map Prod.fst ≠ us.map Prod.fst from fun e => e3 (by
                          have hz := HPF.out; rw [e, HQF.out] at hz; have h2 : fs' = fs := (Prod.mk.inj (Option.some.inj hz)).2
                          have h3 := HX.out; rw [← h2, HX'.out] at h3; exact (congrArg (fun f : Fl => f.rv.bo) (Option.some.inj h3)).symm))
                        clear e3
                        go_wp2
                        go_quiet (fail)
                        go_wp2
                        go_ret
                        exact ⟨ret_b (by rw [← HD.out]; exact (decide_eq_false HNE.out).symm), HS.out.drewN _⟩
                    · have y2 : (f_k == h_k) = false := beq_eq_false_iff_ne.2 e2; have z2 : (f_k != h_k) = true := by rw [bne, y2]; rfl
                      have HNE := Lib.hid (show ss.map Prod.fst ≠ us.map Prod.fst from fun e => e2 (by
                        have hz := HPF.out; rw [e, HQF.out] at hz; have h2 : fs' = fs := (Prod.mk.inj (Option.some.inj hz)).2
                        have h3 := HX.out; rw [← h2, HX'.out] at h3; exact (congrArg (fun f : Fl => f.rv.kd) (Option.some.inj h3)).symm))
                      clear e2
                      go_wp2
                      go_quiet (fail)
                      go_wp2
                      go_ret
                      exact ⟨ret_b (by rw [← HD.out]; exact (decide_eq_false HNE.out).symm), HS.out.drewN _⟩
                  · have y1 : (f_s == h_s) = false := beq_eq_false_iff_ne.2 e1; have z1 : (f_s != h_s) = true := by rw [bne, y1]; rfl
                    have HNE := Lib.hid (show ss.map Prod.fst ≠ us.map Prod.fst from fun e => e1 (by
                      have hz := HPF.out; rw [e, HQF.out] at hz; have h2 : fs' = fs := (Prod.mk.inj (Option.some.inj hz)).2
                      have h3 := HX.out; rw [← h2, HX'.out] at h3; exact (congrArg (fun f : Fl => f.rv.st) (Option.some.inj h3)).symm))
                    clear e1
                    go_wp2
                    go_quiet (fail)
                    go_wp2
                    go_ret
                    exact ⟨ret_b (by rw [← HD.out]; exact (decide_eq_false HNE.out).symm), HS.out.drewN _⟩
                · have y0 : (p_a.toList == p_c.toList) = false := beqL_no e0
                  have HNE := Lib.hid (show ss.map Prod.fst ≠ us.map Prod.fst from fun e => e0 (by
                    have hz := HPF.out; rw [e, HQF.out] at hz; have h2 : fs' = fs := (Prod.mk.inj (Option.some.inj hz)).2
                    have h3 := HX.out; rw [← h2, HX'.out] at h3; exact (congrArg (fun f : Fl => f.pa) (Option.some.inj h3)).symm))
                  clear e0
                  go_wp2
                  go_quiet (fail)
                  go_wp2
                  go_ret
                  exact ⟨ret_b (by rw [← HD.out]; exact (decide_eq_false HNE.out).symm), HS.out.drewN _⟩
              · have hkn : k = sn := by omega
                subst hkn
                have HE := Lib.hid (HPR.out.full HM.out HM'.out)
                have HQ := Lib.hid (HP.out.step (by rw [HPF.out, HQF.out]; exact congrArg some (show ((h, fs) : Sp) = (h', fs') by rw [HE0.out, HE.out])))
                go_wp2
                go_roundw
                case rel => exact ⟨i + 1, by omega, by go_num, HQ.out, HS.out⟩
                case measure => simp [intOf]; omega
          · have hmm : ((sn : Int) != (sn' : Int)) = true := by rw [bne, beq_eq_false_iff_ne.2 (show (sn : Int) ≠ (sn' : Int) by omega)]; rfl
            have HNE := Lib.hid (show ss.map Prod.fst ≠ us.map Prod.fst from fun e => hm (by
              have hz := HPF.out; rw [e, HQF.out] at hz; have h2 : fs' = fs := (Prod.mk.inj (Option.some.inj hz)).2
              rw [← HM.out, ← HM'.out, h2]))
            clear hm
            go_wp2
            go_quiet (fail)
            go_wp2
            go_ret
            exact ⟨ret_b (by rw [← HD.out]; exact (decide_eq_false HNE.out).symm), HS.out.drewN _⟩
        · have y0 : (h.toList == h'.toList) = false := beqL_no e0
          have y0' : (h.toList != h'.toList) = true := by rw [bne, y0]; rfl
          have HNE := Lib.hid (show ss.map Prod.fst ≠ us.map Prod.fst from fun e => e0 (by
            have hz := HPF.out; rw [e, HQF.out] at hz; exact (Prod.mk.inj (Option.some.inj hz)).1.symm))
          clear e0
          go_wp2
          go_quiet (fail)
          go_wp2
          go_ret
          exact ⟨ret_b (by rw [← HD.out]; exact (decide_eq_false HNE.out).symm), HS.out.drewN _⟩
      · have hkn : i = n := by omega
        subst hkn
        have HE := Lib.hid (HP.out.full (by rw [List.length_map]; exact HN.out) (by rw [List.length_map]; exact HN'.out))
        go_wp2
        go_ret
        exact ⟨ret_b (by rw [← HD.out]; exact (decide_eq_true HE.out).symm), HS.out⟩
  · have hnn : ((n : Int) != (n' : Int)) = true := by rw [bne, beq_eq_false_iff_ne.2 (show (n : Int) ≠ (n' : Int) by omega)]; rfl
    have HNE := Lib.hid (show ss.map Prod.fst ≠ us.map Prod.fst from fun e => h (by rw [← HN.out, ← HN'.out]; have := congrArg List.length e; simpa using this))
    clear h
    go_enter Try.func13, Try.ntmps13
    go_wp2
    go_ret
    exact ⟨ret_b (by rw [← HD.out]; exact (decide_eq_false HNE.out).symm), Grw.refl _⟩

end Go.Proofs.Ytpkicliimhflgaa
