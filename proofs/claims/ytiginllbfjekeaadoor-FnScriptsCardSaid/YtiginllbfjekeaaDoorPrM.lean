/- ParseScript of the model: the lines of a script. Asked: the string is no longer than 2^20 bytes. -/
import Derived.Test.YtiginllbfjekeaaDoorPrS
namespace Go.Proofs.YtiginllbfjekeaaDoor
open Go.ChangeShapes Go.WideShapes Go.ChangeAt Go.RowKit

theorem spl_pos (c : UInt8) (l : List UInt8) : 1 ≤ (splS c l).length := by
  unfold splS; rw [List.length_map]
  exact List.length_pos_iff.2 (splitB_ne c l)

set_option maxRecDepth 100000 in
set_option maxHeartbeats 4000000 in
theorem pscript_spec (s : ByteArray) (hs : s.size ≤ 1048576) (w : World) :
    Calls Tryd.prog 10 #[.string s] w (ScForm (prsSc s) w) := by
  obtain ⟨W0, hW0⟩ : ∃ W, w.alloc (.cells #[] 47) = W := ⟨_, rfl⟩
  have hm0 : MineK encL 2 47 w.heap.size w W0 (.slice (some ⟨w.heap.size, 0, none⟩) 0 0) [] := by rw [← hW0]; exact MineK.empty encL 2 _ w w w.heap.size (Below.refl _ _) (Nat.le_refl _)
  by_cases hz : s.size = 0
  · rw [prsSc_zero hz]
    have hxe : (s.toList == []) = true := by rw [emp_size, decide_eq_true hz]
    have HM := Lib.hid hm0; have HW0 := Lib.hid hW0
    clear hz hs hm0 hW0
    go_enter Tryd.func10, Tryd.ntmps10
    go_wp2
    go_ret2
    exact ⟨_, _, _, rfl, by rw [HW0.out]; exact HM.out⟩
  have hxe : (s.toList == []) = false := by rw [emp_size, decide_eq_false hz]
  obtain ⟨ps, hps⟩ : ∃ ps, splS 59 s.data.toList = ps := ⟨_, rfl⟩
  have hpz : ∀ p ∈ ps, p.size ≤ 1048576 := fun p hp => by rw [← hps] at hp; exact Nat.le_trans (sc_size hp) hs
  have hpl : ps.length ≤ 1048577 := by have := splS_len 59 s.data.toList; rw [hps, size_list] at this; omega
  have hp1 : 1 ≤ ps.length := by rw [← hps]; exact spl_pos _ _
  have HSP := Lib.hid (show Calls Tryd.prog 30 #[.string s, .int .u8 59] W0 (NewK encS 1 9 ps W0) from by rw [← hps]; exact spl_spec s 59 (by omega) W0)
  have HG6 := Lib.hid (fun h6 => show prsSc s = none from prsSc_long hz (by rw [hps]; exact h6))
  have HG := Lib.hid (fun h6 => show prsSc s = prsLs ps from by rw [prsSc_else hz (by rw [hps]; exact h6), hps])
  obtain ⟨R, hR⟩ : ∃ R, prsSc s = R := ⟨_, rfl⟩
  rw [hR] at HG6 HG ⊢
  have HPZ := Lib.hid hpz; have HM0 := Lib.hid hm0; have HW0 := Lib.hid hW0
  clear hps hpz hR hz hs hm0 hW0
  go_enter Tryd.func10, Tryd.ntmps10
  go_wp2_with fail
  rw [HW0.out]
  refine HSP.out.mono ?_
  rintro e W1 ⟨kv, rfl, hk, hb⟩
  obtain ⟨ka, kc, rfl, hkc1, hkc2⟩ : ∃ a c, kv = .slice a ps.length c ∧ ps.length ≤ c ∧ c ≤ 9223372036854775807 := by
    obtain ⟨a, c, e, h1, h2, _⟩ := hk.reads encS_len
    exact ⟨a, c, e, h1, h2⟩
  obtain ⟨n, hn⟩ : ∃ n, ps.length = n := ⟨_, rfl⟩
  have HP := Lib.hid (show PL w W1 (.slice (some ⟨w.heap.size, 0, none⟩) 0 0) [] W0.heap.size (.slice ka ps.length kc) ps from ⟨HM0.out.later hb, hk⟩)
  rw [hn] at HP hkc1 hpl HG6 HG hp1 ⊢
  have HN := Lib.hid hn
  clear hn hk hb HSP HM0
  go_wp2_with fail
  go_loopw [6, 4] (fun i q wr => ∃ (j : Nat) (xa : Option Addr) (xn xc : Nat) (xs : List Lnv), j ≤ n ∧ i = .int .i64 j ∧ q = .slice xa xn xc ∧ PL w wr (.slice xa xn xc) xs W0.heap.size (.slice ka n kc) ps ∧ prsLs (ps.take j) = some xs ∧ (1 ≤ j → n ≤ 6))
    (fun i _ _ => n - (intOf i).toNat)
  case atStart => exact ⟨0, _, _, _, [], Nat.zero_le _, rfl, rfl, HP.out, rfl, fun h => by omega⟩
  case round =>
    obtain ⟨j, xa, xn, xc, xs, hj, rfl, rfl, hP, hq, h6⟩ := hrel
    clear HP
    have HP := Lib.hid hP; have HQ := Lib.hid hq; have H6 := Lib.hid h6; clear hP hq h6
    by_cases hlt : (j : Int) < (n : Int)
    · have hltd : decide ((j : Int) < (n : Int)) = true := decide_eq_true hlt
      obtain ⟨p, hpj⟩ : ∃ p, ps[j]? = some p := ⟨_, List.getElem?_eq_getElem (by rw [HN.out]; omega)⟩
      obtain ⟨g, off, rfl, hg, c0⟩ := (HP.out.k.reads encS_len).strS hpj
      have HLN := Lib.hid (line_spec p (by have := HPZ.out p (List.mem_of_getElem? hpj); omega) wr)
      have HPJ := Lib.hid hpj; clear hpj
      go_wp2_with fail
      refine HLN.out.mono ?_
      rintro e w2 ⟨op, tx, bb, rfl, hif, hb2⟩
      cases bb with
      | false =>
        have HRN := Lib.hid (show R = none by
          by_cases h6 : 6 < n
          · exact HG6.out h6
          · rw [HG.out h6]; exact prsLs_bad (List.mem_of_getElem? HPJ.out) hif)
        have HM := Lib.hid (show MineK encL 2 47 w.heap.size w ((w2.alloc (.cells #[.int .i64 op, .string tx] 47)).alloc (.cells #[] 47)) (.slice (some ⟨(w2.alloc (.cells #[.int .i64 op, .string tx] 47)).heap.size, 0, none⟩) 0 0) [] from
          MineK.empty encL 2 _ w _ w.heap.size ((HP.out.m.below.trans (hb2.mono HP.out.m.size)).alloc (Nat.le_trans HP.out.m.size hb2.size) _) (by rw [size_alloc]; have := HP.out.m.size; have := hb2.size; omega))
        rw [size_alloc] at HM
        clear hb2 hif
        go_wp2_with fail
        go_ret2
        exact ⟨_, _, _, by rw [HRN.out]; rfl, by rw [HRN.out]; exact HM.out⟩
      | true =>
        by_cases h6 : (6 : Int) < (n : Int)
        · have HRN := Lib.hid (HG6.out (by omega))
          have h6d : decide ((6 : Int) < (n : Int)) = true := decide_eq_true h6
          have HM := Lib.hid (show MineK encL 2 47 w.heap.size w ((w2.alloc (.cells #[.int .i64 op, .string tx] 47)).alloc (.cells #[] 47)) (.slice (some ⟨(w2.alloc (.cells #[.int .i64 op, .string tx] 47)).heap.size, 0, none⟩) 0 0) [] from
            MineK.empty encL 2 _ w _ w.heap.size ((HP.out.m.below.trans (hb2.mono HP.out.m.size)).alloc (Nat.le_trans HP.out.m.size hb2.size) _) (by rw [size_alloc]; have := HP.out.m.size; have := hb2.size; omega))
          rw [size_alloc] at HM
          clear hb2 hif
          go_wp2_with fail
          go_ret2
          exact ⟨_, _, _, by rw [HRN.out]; rfl, by rw [HRN.out]; exact HM.out⟩
        have h6d : decide ((6 : Int) < (n : Int)) = false := decide_eq_false h6
        have hn6 : n ≤ 6 := by omega
        have HQ2 := Lib.hid (show prsLs (ps.take (j + 1)) = some (xs ++ [(op, tx)]) by rw [takeL HPJ.out]; exact prsLs_snoc HQ.out hif)
        have HXL := Lib.hid (show xs.length ≤ 1048576 by have := (prsLs_mem HQ.out).1; rw [this, List.length_take]; omega)
        have HP3 := Lib.hid ((HP.out.later hb2).later ((Below.refl _ _).alloc (Nat.le_refl _) (.cells #[.int .i64 op, .string tx] 47)))
        have HA := Lib.hid (HP3.out.later ((Below.refl _ _).alloc (Nat.le_refl _) (.cells #[.int .i64 op, .string tx] 47)))
        have HRD := Lib.hid (readsL_at (w2.alloc (.cells #[.int .i64 op, .string tx] 47)) (w2.heap.size + 1) (size_alloc _ _) op tx)
        clear hb2 hif
        go_wp2_with (at_builtin; refine wpList_appLG rfl _ _ rfl w.heap.size w _ _ rfl HA.out.m _ _ [(op, tx)] rfl HRD.out ?cl ?_)
        case cl => have := HXL.out; rw [List.length_singleton]; omega
        intro v' w' hm hgr
        obtain ⟨ya, yn, yc, rfl⟩ : ∃ a n c, v' = .slice a n c := by
          obtain ⟨a, c, e, _⟩ := mineL_form hm
          exact ⟨a, _, c, e⟩
        have HP4 := Lib.hid (HA.out.app hm hgr)
        clear hm hgr
        go_wp2_with fail
        go_roundw
        case rel => exact ⟨j + 1, _, _, _, _, by omega, by go_num, rfl, HP4.out, HQ2.out, fun _ => hn6⟩
        case measure => simp [intOf]; omega
    · have hltd : decide ((j : Int) < (n : Int)) = false := decide_eq_false hlt
      have hjn : j = n := by omega
      subst hjn
      have HRS := Lib.hid (show R = some xs by rw [HG.out (by have := H6.out hp1; omega), ← HQ.out, List.take_of_length_le (by rw [HN.out]; exact Nat.le_refl _)])
      go_wp2_with fail
      go_ret2
      exact ⟨_, _, _, by rw [HRS.out]; rfl, by rw [HRS.out]; exact HP.out.m⟩
end Go.Proofs.YtiginllbfjekeaaDoor
