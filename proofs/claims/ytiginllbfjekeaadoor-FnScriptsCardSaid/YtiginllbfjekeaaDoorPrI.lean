/- ParseScript of the program: the lines of a script. Asked: the string is no longer than 2^20 bytes. -/
import Derived.Test.YtiginllbfjekeaaDoorPrL
import Derived.Test.YtiginllbfjekeaaDoorAppS
import Derived.Test.YtiginllbfjekeaaDoorTr
namespace Go.Proofs.YtiginllbfjekeaaDoor
open Go.ChangeShapes Go.WideShapes Go.ChangeAt Go.RowKit

/-- What ParseScript answers. -/
def ScForm (o : Option (List Lnv)) (X : World) (e : Ending) (w' : World) : Prop :=
  ∃ a n c, e = .returned (.tuple #[.slice a n c, .bool (scB o)]) ∧ MineK encL 2 47 X.heap.size X w' (.slice a n c) (scL o)
theorem sc_size {c : UInt8} {s p : ByteArray} (h : p ∈ splS c s.data.toList) : p.size ≤ s.size := by
  unfold splS at h
  obtain ⟨l, hl, rfl⟩ := List.mem_map.1 h
  have := splitB_piece hl
  rw [size_list] at this
  rw [ofL_size]; exact this
/-- What stands in the loop. -/
structure PL (w wr : World) (v : Value) (xs : List Lnv) (lo : Nat) (kv : Value) (N : List ByteArray) : Prop where
  m : MineK encL 2 47 w.heap.size w wr v xs
  k : OwnK encS 1 9 lo wr.heap.size wr kv N
theorem PL.later {w wr w' : World} {v kv : Value} {xs : List Lnv} {lo : Nat} {N : List ByteArray} (h : PL w wr v xs lo kv N) (hb : Below wr.heap.size wr w') : PL w w' v xs lo kv N :=
  ⟨h.m.later hb, (h.k.later hb).mono (Nat.le_refl _) hb.size⟩
theorem PL.app {w w1 w' : World} {v v' kv : Value} {xs xs' : List Lnv} {lo : Nat} {N : List ByteArray} (h : PL w w1 v xs lo kv N) (hm : MineK encL 2 47 w.heap.size w w' v' xs') (hg : w1.grownBy w' v.ownBlock) : PL w w' v' xs' lo kv N := by
  refine ⟨hm, ⟨h.k.1.kept hg ?_, fun g hb => Nat.lt_of_lt_of_le (h.k.2 g hb) hg.size⟩⟩
  cases hv : kv.ownBlock with
  | none => exact Or.inl rfl
  | some g =>
    right
    intro e
    exact rows_ne h.m.row h.k.1 ln_ne e.symm hv

set_option maxRecDepth 100000 in
set_option maxHeartbeats 4000000 in
theorem pscript_impl (s : ByteArray) (hs : s.size ≤ 1048576) (w : World) :
    Calls Tryd.prog 9 #[.string s] w (ScForm (prsSc s) w) := by
  by_cases hz : s.size = 0
  · rw [prsSc_zero hz]
    have hxe : (s.toList == []) = true := by rw [emp_size, decide_eq_true hz]
    have HM := Lib.hid (MineK.empty encL 2 47 w w w.heap.size (Below.refl _ _) (Nat.le_refl _))
    clear hz hs
    go_enter Tryd.func9, Tryd.ntmps9
    go_wp2
    go_ret2
    exact ⟨_, _, _, rfl, HM.out⟩
  have hxe : (s.toList == []) = false := by rw [emp_size, decide_eq_false hz]
  obtain ⟨ps, hps⟩ : ∃ ps, splS 59 s.data.toList = ps := ⟨_, rfl⟩
  have hpz : ∀ p ∈ ps, p.size ≤ 1048576 := fun p hp => by rw [← hps] at hp; exact Nat.le_trans (sc_size hp) hs
  have hpl : ps.length ≤ 1048577 := by have := splS_len 59 s.data.toList; rw [hps, size_list] at this; omega
  have HSP := Lib.hid (show Calls Tryd.prog 28 #[.string s, .string ⟨#[59]⟩] w (NewK encS 1 9 ps w) from by rw [← hps]; exact split_any s 59 (by omega) w)
  have HG6 := Lib.hid (fun h6 => show prsSc s = none from prsSc_long hz (by rw [hps]; exact h6))
  have HG := Lib.hid (fun h6 => show prsSc s = prsLs ps from by rw [prsSc_else hz (by rw [hps]; exact h6), hps])
  obtain ⟨R, hR⟩ : ∃ R, prsSc s = R := ⟨_, rfl⟩
  rw [hR] at HG6 HG ⊢
  have HPZ := Lib.hid hpz
  clear hps hpz hR hz hs
  go_enter Tryd.func9, Tryd.ntmps9
  go_wp2_with fail
  refine HSP.out.mono ?_
  rintro e W1 ⟨kv, rfl, hk, hb⟩
  obtain ⟨ka, kc, rfl, hkc1, hkc2⟩ : ∃ a c, kv = .slice a ps.length c ∧ ps.length ≤ c ∧ c ≤ 9223372036854775807 := by
    obtain ⟨a, c, e, h1, h2, _⟩ := hk.reads encS_len
    exact ⟨a, c, e, h1, h2⟩
  obtain ⟨n, hn⟩ : ∃ n, ps.length = n := ⟨_, rfl⟩
  have HK := Lib.hid hk; have HB1 := Lib.hid hb
  rw [hn] at HK hkc1 hpl HG6 HG ⊢
  have HN := Lib.hid hn
  clear hn hk hb HSP
  by_cases h6 : (6 : Int) < (n : Int)
  · have HRN := Lib.hid (HG6.out (by omega))
    have HM := Lib.hid (MineK.empty encL 2 47 w W1 w.heap.size HB1.out HB1.out.size)
    go_wp2_with fail
    go_ret2
    exact ⟨_, _, _, by rw [HRN.out]; rfl, by rw [HRN.out]; exact HM.out⟩
  have h6d : decide ((6 : Int) < (n : Int)) = false := decide_eq_false h6
  have HRP := Lib.hid (HG.out (by omega))
  have hn6 : n ≤ 6 := by omega
  clear HG HG6 h6
  go_wp2_with fail
  obtain ⟨W2, hW2⟩ : ∃ W, W1.alloc (.cells #[] 47) = W := ⟨_, rfl⟩
  have hb2 : Below W1.heap.size W1 W2 := by rw [← hW2]; exact (Below.refl _ _).alloc (Nat.le_refl _) _
  have HP := Lib.hid (show PL w W2 (.slice (some ⟨W1.heap.size, 0, none⟩) 0 0) [] w.heap.size (.slice ka n kc) ps from
    ⟨by rw [← hW2]; exact MineK.empty encL 2 _ w W1 w.heap.size HB1.out HB1.out.size, (HK.out.later hb2).mono (Nat.le_refl _) hb2.size⟩)
  rw [hW2]
  clear hW2 hb2 HK HB1
  go_loopw [22, 5] (fun i q wr => ∃ (j : Nat) (xa : Option Addr) (xn xc : Nat) (xs : List Lnv), j ≤ n ∧ i = .int .i64 j ∧ q = .slice xa xn xc ∧ PL w wr (.slice xa xn xc) xs w.heap.size (.slice ka n kc) ps ∧ prsLs (ps.take j) = some xs)
    (fun i _ _ => n - (intOf i).toNat)
  case atStart => exact ⟨0, _, _, _, [], Nat.zero_le _, rfl, rfl, HP.out, rfl⟩
  case round =>
    obtain ⟨j, xa, xn, xc, xs, hj, rfl, rfl, hP, hq⟩ := hrel
    clear HP
    have HP := Lib.hid hP; have HQ := Lib.hid hq; clear hP hq
    by_cases hlt : (j : Int) < (n : Int)
    · obtain ⟨p, hpj⟩ : ∃ p, ps[j]? = some p := ⟨_, List.getElem?_eq_getElem (by rw [HN.out]; omega)⟩
      obtain ⟨g, off, rfl, hg, c0⟩ := (HP.out.k.reads encS_len).strS hpj
      have HLN := Lib.hid (pline_impl p (by have := HPZ.out p (List.mem_of_getElem? hpj); omega) wr)
      have HPJ := Lib.hid hpj; clear hpj
      obtain ⟨r, hr⟩ : ∃ r, lnOf p = r := ⟨_, rfl⟩
      have HR := Lib.hid hr
      rw [hr] at HLN
      clear hr
      cases r with
      | none =>
        unfold lnV at HLN
        have HRN := Lib.hid (show R = none by rw [HRP.out]; exact prsLs_bad (List.mem_of_getElem? HPJ.out) HR.out)
        go_wp2_with fail
        refine HLN.out.mono ?_
        rintro e w2 ⟨rfl, hb2⟩
        have HM := Lib.hid (show MineK encL 2 47 w.heap.size w ((w2.alloc (.cells #[.int .i64 0, .string ⟨#[]⟩] 47)).alloc (.cells #[] 47)) (.slice (some ⟨(w2.alloc (.cells #[.int .i64 0, .string ⟨#[]⟩] 47)).heap.size, 0, none⟩) 0 0) [] from
          MineK.empty encL 2 _ w _ w.heap.size ((HP.out.m.below.trans (hb2.mono HP.out.m.size)).alloc (Nat.le_trans HP.out.m.size hb2.size) _) (by rw [size_alloc]; have := HP.out.m.size; have := hb2.size; omega))
        rw [size_alloc] at HM
        clear hb2
        go_wp2_with fail
        go_ret2
        exact ⟨_, _, _, by rw [HRN.out]; rfl, by rw [HRN.out]; exact HM.out⟩
      | some x =>
        obtain ⟨op, tx⟩ := x
        unfold lnV at HLN
        have HQ2 := Lib.hid (show prsLs (ps.take (j + 1)) = some (xs ++ [(op, tx)]) by rw [takeL HPJ.out]; exact prsLs_snoc HQ.out HR.out)
        have HXL := Lib.hid (show xs.length ≤ 1048576 by have := (prsLs_mem HQ.out).1; rw [this, List.length_take]; omega)
        go_wp2_with fail
        refine HLN.out.mono ?_
        rintro e w2 ⟨rfl, hb2⟩
        have HP3 := Lib.hid ((HP.out.later hb2).later ((Below.refl _ _).alloc (Nat.le_refl _) (.cells #[.int .i64 op, .string tx] 47)))
        have HA := Lib.hid (HP3.out.later ((Below.refl _ _).alloc (Nat.le_refl _) (.cells #[.int .i64 op, .string tx] 47)))
        have HRD := Lib.hid (readsL_at (w2.alloc (.cells #[.int .i64 op, .string tx] 47)) (w2.heap.size + 1) (size_alloc _ _) op tx)
        clear hb2
        go_wp2_with (at_builtin; refine wpList_appLG rfl _ _ rfl w.heap.size w _ _ rfl HA.out.m _ _ [(op, tx)] rfl HRD.out ?cl ?_)
        case cl => have := HXL.out; rw [List.length_singleton]; omega
        intro v' w' hm hgr
        obtain ⟨ya, yn, yc, rfl⟩ : ∃ a n c, v' = .slice a n c := by
          obtain ⟨a, c, e, _⟩ := mineL_form hm
          exact ⟨a, _, c, e⟩
        have HP4 := Lib.hid (HA.out.app hm hgr)
        clear hm hgr
        go_wp2_with fail
        go_roundw
        case rel => exact ⟨j + 1, _, _, _, _, by omega, by go_num, rfl, HP4.out, HQ2.out⟩
        case measure => simp [intOf]; omega
    · have hjn : j = n := by omega
      subst hjn
      have HRS := Lib.hid (show R = some xs by rw [HRP.out, ← HQ.out, List.take_of_length_le (by rw [HN.out]; exact Nat.le_refl _)])
      go_wp2_with fail
      go_ret2
      exact ⟨_, _, _, by rw [HRS.out]; rfl, by rw [HRS.out]; exact HP.out.m⟩
end Go.Proofs.YtiginllbfjekeaaDoor
