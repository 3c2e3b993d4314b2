/- FormatScript of the program and of the model: the lines' forms, joined by semicolons. Asked: the lines lie in memory as named, and are not too long. -/
import Derived.Test.YtiginllbfjekeaaDoorPrS
import Derived.Test.YtiginllbfjekeaaDoorShelfJ
import Derived.Test.YtiginllbfjekeaaDoorBl
import Derived.Deep.RegionHeld3
import Derived.Laws.Concat
namespace Go.Proofs.YtiginllbfjekeaaDoor
open Go.ChangeShapes Go.WideShapes Go.ChangeAt Go.RowKit

/-- A line's form; empty if its Op is none. -/
def frmS (x : Lnv) : ByteArray := match frm x with | some f => f | none => ⟨#[]⟩
theorem frmS_no {x : Lnv} (h : frm x = none) : frmS x = ⟨#[]⟩ := by unfold frmS; rw [h]
theorem frmS_yes {x : Lnv} {f : ByteArray} (h : frm x = some f) : frmS x = f := by unfold frmS; rw [h]
theorem frmS_size (x : Lnv) : (frmS x).size ≤ x.2.size + 6 := by
  cases h : frm x with
  | none => rw [frmS_no h]; exact Nat.zero_le _
  | some f => rw [frmS_yes h]; exact (frm_size h).2

set_option maxRecDepth 100000 in
set_option maxHeartbeats 2000000 in
theorem form_any (op : Int) (tx : ByteArray) (hx : tx.size ≤ 1099511627776) (w : World) :
    Calls Tryd.prog 32 #[.agg #[.int .i64 op, .string tx]] w fun e w' => e = .returned (.string (frmS (op, tx))) ∧ Below w.heap.size w w' := by
  obtain ⟨W0, hW0⟩ : ∃ W, w.alloc (.cells #[.int .i64 op, .string tx] 47) = W := ⟨_, rfl⟩
  have hb0 : Below w.heap.size w W0 := by rw [← hW0]; exact (Below.refl _ _).alloc (Nat.le_refl _) _
  have hx0 : W0.heap[w.heap.size]? = some (.cells #[.int .i64 op, .string tx] 47 (0, 0)) := by rw [← hW0]; exact (MapKept.heap_alloc w _).1
  have e0 := box_cell hx0 (j := 0) rfl
  have HB0 := Lib.hid hb0; have HX0 := Lib.hid hx0; have HW0 := Lib.hid hW0
  have HNO := Lib.hid (fun h => frmS_no (x := (op, tx)) (frm_no h)); have HYES := Lib.hid (fun h => frmS_yes (frm_yes (x := (op, tx)) h))
  have HOP0 := Lib.hid (fun h => opN_no (op := op) h); have HOP1 := Lib.hid (fun h => opN_yes (op := op) h)
  obtain ⟨F, hF⟩ : ∃ F, frmS (op, tx) = F := ⟨_, rfl⟩
  rw [hF] at HNO HYES ⊢
  clear hb0 hx0 hW0 hF
  go_enter Tryd.func32, Tryd.ntmps32
  go_upto_region 1 with (fail)
  rw [HW0.out]
  go_wp2_with fail
  refine (fop_any op _).mono ?_
  rintro e w1 ⟨rfl, hb1⟩
  have HX1 := Lib.hid (below_heap hb1 (heap_lt HX0.out) HX0.out)
  have HB1 := Lib.hid (HB0.out.trans (hb1.mono HB0.out.size))
  clear hb1 e0
  by_cases ho : 1 ≤ op ∧ op ≤ 5
  · have hm := HOP1.out ho
    have hF := HYES.out ho
    obtain ⟨m, hm2⟩ : ∃ m, opN op = m := ⟨_, rfl⟩
    rw [hm2] at hm ⊢
    have hm0 : m ≠ 0 := by omega
    rw [res_form hm0]
    replace hF : F = wd m ++ sp ++ tx := by rw [hF, hm]
    have hws := wd_size m
    obtain ⟨s1, h1⟩ : ∃ u, wd m = u := ⟨_, rfl⟩
    obtain ⟨q2, h2⟩ : ∃ u, fmTk m = u := ⟨_, rfl⟩
    obtain ⟨q3, h3⟩ : ∃ u, fmRn m = u := ⟨_, rfl⟩
    obtain ⟨x0, h0⟩ : ∃ u : Int, (m : Int) = u := ⟨_, rfl⟩
    rw [h1] at hF hws
    rw [h0, h1, h2, h3]
    have HF := Lib.hid hF
    have a0 : ∀ W, (Op.stringOp .add s1 ⟨#[32]⟩).run Tryd.prog W = .ok (.string (s1 ++ sp)) W := fun W => run_string_add_sum _ _ _ (by rw [sp_size]; omega)
    obtain ⟨X1, hX1⟩ : ∃ Y, s1 ++ sp = Y := ⟨_, rfl⟩
    have hz1 : X1.size ≤ 6 := by rw [← hX1, ByteArray.size_append, sp_size]; omega
    rw [hX1] at a0 HF
    have a1 : ∀ W, (Op.stringOp .add X1 tx).run Tryd.prog W = .ok (.string (X1 ++ tx)) W := fun W => run_string_add_sum _ _ _ (by omega)
    obtain ⟨X2, hX2⟩ : ∃ Y, X1 ++ tx = Y := ⟨_, rfl⟩
    rw [hX2] at a1 HF
    have hba : Below w1.heap.size w1 (w1.alloc (.cells #[.int .i64 x0, .string s1, .func (.func q2) #[] #[], .func (.func q3) #[] #[]] 70)) := (Below.refl _ _).alloc (Nat.le_refl _) _
    have hx2 := below_heap hba (heap_lt HX1.out) HX1.out
    have e1 := box_cell hx2 (j := 1) rfl
    have HB2 := Lib.hid (HB1.out.trans (hba.mono HB1.out.size))
    clear hX1 hX2 h0 h1 h2 h3 hm hm2 hm0 hF hba hx2 ho
    go_wp2_with fail
    go_ret
    exact ⟨by rw [HF.out]; rfl, HB2.out⟩
  · have hm := HOP0.out ho
    have HF := Lib.hid (HNO.out ho)
    rw [hm, res_zero]
    have HB2 := Lib.hid (HB1.out.alloc HB1.out.size (.cells fmZ0 70))
    clear hm ho
    go_wp2_with fail
    go_ret
    exact ⟨by rw [HF.out]; rfl, HB2.out⟩

theorem own_strs8 {lo hi g n c : Nat} {w : World} {xs : List ByteArray} (h : OwnK encS 1 9 lo hi w (.slice (some ⟨g, 0, none⟩) n c) xs) (hn : xs.length = n) : g < w.heap.size ∧ n ≤ c ∧ ∀ (j : Nat) x, xs[j]? = some x → w.cell? ⟨g, 0 + j, none⟩ = some (.string x) := by
  have hr := h.reads encS_len
  rcases h.1.2 with ⟨e, _⟩ | ⟨g', cap, cur, e, hg, hh, hc, hm, _⟩
  · cases e
  · cases e
    refine ⟨heap_lt hh, by omega, fun j x hj => ?_⟩
    have := hr.news encS_len j (.string x) (by
      have := flat_at encS_len hj (show 0 < 1 by decide)
      simpa [encS] using this)
    rwa [add_off] at this
theorem mineS_some {B : Nat} {w0 w : World} {v : Value} {xs : List ByteArray} (h : MineK encS 1 9 B w0 w v xs) (h1 : 1 ≤ xs.length) : ∃ g c, v = .slice (some ⟨g, 0, none⟩) xs.length c := by
  rcases h.row.2 with ⟨e, h0⟩ | ⟨g, cap, cur, e, _⟩
  · omega
  · exact ⟨g, cap, e⟩

set_option maxRecDepth 100000 in
set_option maxHeartbeats 4000000 in
theorem fscript_impl (v : Value) (ls : List Lnv) (w : World) (h : ReadsK encL 2 w.heap.size w v ls) (hl : ls.length ≤ 1048576) (hz : sumL ls ≤ 1048576) :
    Calls Tryd.prog 11 #[v] w fun e w' => e = .returned (.string (fmtSc ls)) ∧ Below w.heap.size w w' := by
  obtain ⟨a, cap, rfl, hc1, hc2, _⟩ := id h
  obtain ⟨n, hn⟩ : ∃ n, ls.length = n := ⟨_, rfl⟩
  have hJL := fmtSc_size ls
  rw [hn] at h hc1 hl hJL ⊢
  obtain ⟨W0, hW0⟩ : ∃ W, w.alloc (.cells #[] 9) = W := ⟨_, rfl⟩
  have hm0 : MineK encS 1 9 w.heap.size w W0 (.slice (some ⟨w.heap.size, 0, none⟩) 0 0) (frms (ls.take 0)) := by
    rw [← hW0]; exact MineK.empty encS 1 _ w _ _ (Below.refl _ _) (Nat.le_refl _)
  have H := Lib.hid h; have HN := Lib.hid hn; have HZ := Lib.hid hz; have HM0 := Lib.hid hm0; have HW0 := Lib.hid hW0; have HJL := Lib.hid hJL
  clear h hn hz hm0 hW0 hJL
  go_enter Tryd.func11, Tryd.ntmps11
  go_upto_region 2 with (fail)
  rw [HW0.out]
  go_wp2_with fail
  go_loopw [10, 3] (fun i q wr => ∃ (k g q1 c : Nat), k ≤ n ∧ i = .int .i64 k ∧ q = .slice (some ⟨g, 0, none⟩) q1 c ∧ MineK encS 1 9 w.heap.size w wr (.slice (some ⟨g, 0, none⟩) q1 c) (frms (ls.take k)))
    (fun i _ _ => n - (intOf i).toNat)
  case atStart => exact ⟨0, _, _, _, Nat.zero_le _, rfl, rfl, HM0.out⟩
  case round =>
    obtain ⟨k, g, q1, c, hk, rfl, rfl, hM⟩ := hrel
    clear HM0
    have HM := Lib.hid hM; clear hM
    by_cases hlt : (k : Int) < (n : Int)
    · obtain ⟨op, tx, hr⟩ := ln_at (xs := ls) (j := k) (by rw [HN.out]; omega)
      obtain ⟨gr, off, rfl, hg, d0, d1⟩ := (H.out.below HM.out.below (Nat.le_refl _)).line hr
      replace d0 : _ = some (Value.int .i64 op) := d0
      replace d1 : _ = some (Value.string tx) := d1
      have htz : tx.size ≤ 1048576 := by have h1 := sumL_at hr; have h2 := HZ.out; simp only at h1; omega
      have hfz := frmS_size (op, tx)
      have HFR := Lib.hid (frms_snoc (l := ls.take k) (x := (op, tx)))
      have HTK := Lib.hid (takeL hr)
      have HFO := Lib.hid (form_any op tx (by omega) (wr.alloc (.cells #[.int .i64 op, .string tx] 47)))
      have HLK := Lib.hid (show (frms (ls.take k)).length ≤ 1048576 by have h1 := frms_len (ls.take k); rw [List.length_take] at h1; omega)
      cases hf : frm (op, tx) with
      | none =>
        have hFe := frmS_no hf
        rw [hFe] at HFO
        have HM2 := Lib.hid (show frms (ls.take (k + 1)) = frms (ls.take k) by rw [HTK.out, HFR.out, hf]; simp)
        clear hr hf hFe hfz
        go_wp2_with fail
        refine HFO.out.mono ?_
        rintro e w2 ⟨rfl, hb2⟩
        have HM3 := Lib.hid (HM.out.later ((((Below.refl wr.heap.size wr).alloc (Nat.le_refl _) (.cells #[.int .i64 op, .string tx] 47))).trans (hb2.mono (by rw [size_alloc]; omega))))
        clear hb2
        go_wp2_with fail
        go_roundw
        case rel => exact ⟨k + 1, _, _, _, by omega, by go_num, rfl, by rw [HM2.out]; exact HM3.out⟩
        case measure => simp [intOf]; omega
      | some f =>
        have hFe := frmS_yes hf
        have hf1 := frm_size hf
        rw [hFe] at HFO hfz
        have hxe : (f.toList == []) = false := by rw [emp_size, decide_eq_false (by omega)]
        have hxn : (f.toList != []) = true := by rw [bne, hxe]; rfl
        have HM2 := Lib.hid (show frms (ls.take (k + 1)) = frms (ls.take k) ++ [f] by rw [HTK.out, HFR.out, hf]; rfl)
        clear hr hf hFe hf1
        go_wp2_with fail
        refine HFO.out.mono ?_
        rintro e w2 ⟨rfl, hb2⟩
        have HM3 := Lib.hid (HM.out.later ((((Below.refl wr.heap.size wr).alloc (Nat.le_refl _) (.cells #[.int .i64 op, .string tx] 47))).trans (hb2.mono (by rw [size_alloc]; omega))))
        clear hb2
        go_wp2_with (at_builtin; refine wpList_appS rfl _ _ rfl w.heap.size w _ _ rfl (HM3.out.alloc _) _ _ [f] rfl (readsS_one w2 f) ?cl ?_)
        case cl => have := HLK.out; rw [List.length_singleton]; omega
        intro v' w' hm
        obtain ⟨g2, c2, rfl⟩ := mineS_some hm (by simp)
        rw [← HM2.out] at hm
        have HM4 := Lib.hid hm
        clear hm
        go_wp2_with fail
        go_roundw
        case rel => exact ⟨k + 1, _, _, _, by omega, by go_num, rfl, by rw [HM2.out] at HM4 ⊢; exact HM4.out⟩
        case measure => simp [intOf]; omega
    · have hkn : k = n := by omega
      subst hkn
      have hM := HM.out
      rw [List.take_of_length_le (show ls.length ≤ k by rw [HN.out]; exact Nat.le_refl _)] at hM
      obtain ⟨a1, c1, e1, _⟩ := mineS_form hM
      injection e1 with e2 hlm e3
      clear e2 e3
      obtain ⟨hbw, hcp, hcl⟩ := own_strs8 hM.own hlm.symm
      have hfl := frms_len ls
      have hJ := Tryd.strings_Join g 0 c (frms ls) ⟨#[59]⟩ wr hcl hbw (by have := HN.out; omega) (by omega) (by
        have h1 := HJL.out; have h2 := HZ.out
        have h3 := fmtSc_list ls
        rw [show (⟨#[59]⟩ : ByteArray).data.toList = [59] from rfl, ← h3, size_list]; omega)
      rw [← hlm, show (⟨#[59]⟩ : ByteArray).data.toList = [59] from rfl] at hJ
      have HJ := Lib.hid hJ
      clear hJ hcl hM hlm hfl
      go_wp2_with fail
      refine HJ.out.mono ?_
      rintro e w2 ⟨rfl, hb2⟩
      have HB2 := Lib.hid (HM.out.below.trans (hb2.mono HM.out.size))
      clear hb2
      go_wp2_with fail
      go_ret
      exact ⟨rfl, HB2.out⟩
end Go.Proofs.YtiginllbfjekeaaDoor
