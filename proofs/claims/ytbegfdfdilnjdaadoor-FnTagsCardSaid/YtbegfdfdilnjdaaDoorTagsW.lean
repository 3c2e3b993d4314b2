/- The walk of the law FnTags: it returns true, and writes nothing that was there. -/
import Derived.Test.YtbegfdfdilnjdaaDoorTags
namespace Go.Proofs.YtbegfdfdilnjdaaDoor
open Go.ChangeShapes Go.WideShapes Go.ChangeAt Go.RowKit

set_option maxRecDepth 100000 in
set_option maxHeartbeats 4000000 in
theorem walkTagsW (a_c : Option Addr) (len_c cap_c : Nat) (w : World) (r_c : CodeOk w.heap.size w (.slice a_c len_c cap_c) len_c) (hb_c : ¬ (1048576 : Int) < (len_c : Int)) :
    Calls Tryd.prog 3 #[.slice a_c len_c cap_c] w fun e w' => e = .returned (.bool true) ∧ Below w.heap.size w w' := by
  have HCO := Lib.hid r_c; clear r_c
  go_enter Tryd.func3, Tryd.ntmps3
  have HB := Lib.hid (Below.refl w.heap.size w)
  go_wp2_with fail
  refine (big_no a_c len_c cap_c _ (by omega)).mono ?_
  rintro e w_1 ⟨rfl, hw⟩
  have hB := (show Below (World.heap w).size w w_1 by rw [← hw]; exact Below.refl _ _)
  have HS1 := Lib.hid hB.size
  replace HB := Lib.hid (HB.out.trans (hB.mono HB.out.size))
  clear hB hw
  go_wp2_with fail
  refine (drawTag_any _ len_c _ (codeOk_later HCO.out HB.out)).mono ?_
  rintro e w_2 ⟨s, rfl, hs, hb⟩
  have hB := hb
  have HS2 := Lib.hid hB.size
  replace HB := Lib.hid (HB.out.trans (hB.mono HB.out.size))
  clear hB hb
  have hsz : s.size ≤ 400 := hs.1
  have HSP := Lib.hid (fun W => tagS_any s (by omega) W); have HIM := Lib.hid (fun W => tagI_any s (by omega) W)
  have HTK := Lib.hid (fun W => toks_tagC hs.2 hsz W)
  clear hs
  cases ht : tagB s.data.toList with
  | none =>
    have HTO := Lib.hid (fun w e w' h => (tagOut_all (s := s) (w := w) (e := e) (w' := w') h))
    rw [show tagT s = tokZero by unfold tagT; rw [ht]; rfl, show tagOk s = false by unfold tagOk; rw [ht]; rfl] at HTO
    simp only [tokZero] at HTO
    rw [ht] at HTK
    clear ht
    go_wp2_with fail
    refine ((HIM.out _).mono (HTO.out _)).mono ?_
    rintro e w_3 ⟨a_x, n_x, c_x, rfl, ho, hb⟩
    have hB := hb
    have Hx := Lib.hid (rwA_own ho)
    have HS3 := Lib.hid hB.size
    replace HB := Lib.hid (HB.out.trans (hB.mono HB.out.size))
    clear hB ho hb
    go_wp2_with fail
    obtain ⟨w_4, hw⟩ : ∃ x, w_3.alloc (.cells #[.int .i64 0, .string ⟨#[]⟩, .slice a_x n_x c_x, .string ⟨#[]⟩] 27) = x := ⟨_, rfl⟩
    rw [hw]
    have hB : Below w_3.heap.size w_3 w_4 := by rw [← hw]; exact (Below.refl _ _).alloc (Nat.le_refl _) _
    have q_x0 : w_4.cell? ⟨w_3.heap.size, 0, none⟩ = some (.int .i64 0) := by rw [← hw]; simp
    have q_x1 : w_4.cell? ⟨w_3.heap.size, 1, none⟩ = some (.string ⟨#[]⟩) := by rw [← hw]; simp
    have q_x2 : w_4.cell? ⟨w_3.heap.size, 2, none⟩ = some (.slice a_x n_x c_x) := by rw [← hw]; simp
    have q_x3 : w_4.cell? ⟨w_3.heap.size, 3, none⟩ = some (.string ⟨#[]⟩) := by rw [← hw]; simp
    have b_x : w_3.heap.size < w_4.heap.size := World.block_lt_of_cell? _ _ q_x0
    replace Hx := Lib.hid (Hx.out.later hB)
    have HS4 := Lib.hid hB.size
    replace HB := Lib.hid (HB.out.trans (hB.mono HB.out.size))
    clear hB hw
    have HSb_x := Lib.hid b_x
    go_wp2_with fail
    refine ((HSP.out _).mono (HTO.out _)).mono ?_
    rintro e w_5 ⟨a_y, n_y, c_y, rfl, ho, hb⟩
    have hB := hb
    replace q_x0 := (hB.cell (show (⟨w_3.heap.size, 0, none⟩ : Addr).block < _ from World.block_lt_of_cell? _ _ q_x0)).trans q_x0
    replace q_x1 := (hB.cell (show (⟨w_3.heap.size, 1, none⟩ : Addr).block < _ from World.block_lt_of_cell? _ _ q_x1)).trans q_x1
    replace q_x2 := (hB.cell (show (⟨w_3.heap.size, 2, none⟩ : Addr).block < _ from World.block_lt_of_cell? _ _ q_x2)).trans q_x2
    replace q_x3 := (hB.cell (show (⟨w_3.heap.size, 3, none⟩ : Addr).block < _ from World.block_lt_of_cell? _ _ q_x3)).trans q_x3
    replace b_x : w_3.heap.size < w_5.heap.size := World.block_lt_of_cell? _ _ q_x0
    replace Hx := Lib.hid (Hx.out.later hB)
    have Hy := Lib.hid (rwA_own ho)
    have HS5 := Lib.hid hB.size
    replace HB := Lib.hid (HB.out.trans (hB.mono HB.out.size))
    clear hB ho hb
    go_wp2_with fail
    obtain ⟨w_6, hw⟩ : ∃ x, w_5.alloc (.cells #[.int .i64 0, .string ⟨#[]⟩, .slice a_y n_y c_y, .string ⟨#[]⟩] 27) = x := ⟨_, rfl⟩
    rw [hw]
    have hB : Below w_5.heap.size w_5 w_6 := by rw [← hw]; exact (Below.refl _ _).alloc (Nat.le_refl _) _
    have q_y0 : w_6.cell? ⟨w_5.heap.size, 0, none⟩ = some (.int .i64 0) := by rw [← hw]; simp
    have q_y1 : w_6.cell? ⟨w_5.heap.size, 1, none⟩ = some (.string ⟨#[]⟩) := by rw [← hw]; simp
    have q_y2 : w_6.cell? ⟨w_5.heap.size, 2, none⟩ = some (.slice a_y n_y c_y) := by rw [← hw]; simp
    have q_y3 : w_6.cell? ⟨w_5.heap.size, 3, none⟩ = some (.string ⟨#[]⟩) := by rw [← hw]; simp
    have b_y : w_5.heap.size < w_6.heap.size := World.block_lt_of_cell? _ _ q_y0
    replace q_x0 := (hB.cell (show (⟨w_3.heap.size, 0, none⟩ : Addr).block < _ from World.block_lt_of_cell? _ _ q_x0)).trans q_x0
    replace q_x1 := (hB.cell (show (⟨w_3.heap.size, 1, none⟩ : Addr).block < _ from World.block_lt_of_cell? _ _ q_x1)).trans q_x1
    replace q_x2 := (hB.cell (show (⟨w_3.heap.size, 2, none⟩ : Addr).block < _ from World.block_lt_of_cell? _ _ q_x2)).trans q_x2
    replace q_x3 := (hB.cell (show (⟨w_3.heap.size, 3, none⟩ : Addr).block < _ from World.block_lt_of_cell? _ _ q_x3)).trans q_x3
    replace b_x : w_3.heap.size < w_6.heap.size := World.block_lt_of_cell? _ _ q_x0
    replace Hx := Lib.hid (Hx.out.later hB)
    replace Hy := Lib.hid (Hy.out.later hB)
    have HS6 := Lib.hid hB.size
    replace HB := Lib.hid (HB.out.trans (hB.mono HB.out.size))
    clear hB hw
    have HSb_y := Lib.hid b_y
    go_wp2_with fail
    refine (HTK.out _).mono ?_
    rintro e w_7 ⟨v_k, t_k, rfl, hts, hM⟩
    have hB := hM.row.below
    replace q_x0 := (hB.cell (show (⟨w_3.heap.size, 0, none⟩ : Addr).block < _ from World.block_lt_of_cell? _ _ q_x0)).trans q_x0
    replace q_x1 := (hB.cell (show (⟨w_3.heap.size, 1, none⟩ : Addr).block < _ from World.block_lt_of_cell? _ _ q_x1)).trans q_x1
    replace q_x2 := (hB.cell (show (⟨w_3.heap.size, 2, none⟩ : Addr).block < _ from World.block_lt_of_cell? _ _ q_x2)).trans q_x2
    replace q_x3 := (hB.cell (show (⟨w_3.heap.size, 3, none⟩ : Addr).block < _ from World.block_lt_of_cell? _ _ q_x3)).trans q_x3
    replace b_x : w_3.heap.size < w_7.heap.size := World.block_lt_of_cell? _ _ q_x0
    replace q_y0 := (hB.cell (show (⟨w_5.heap.size, 0, none⟩ : Addr).block < _ from World.block_lt_of_cell? _ _ q_y0)).trans q_y0
    replace q_y1 := (hB.cell (show (⟨w_5.heap.size, 1, none⟩ : Addr).block < _ from World.block_lt_of_cell? _ _ q_y1)).trans q_y1
    replace q_y2 := (hB.cell (show (⟨w_5.heap.size, 2, none⟩ : Addr).block < _ from World.block_lt_of_cell? _ _ q_y2)).trans q_y2
    replace q_y3 := (hB.cell (show (⟨w_5.heap.size, 3, none⟩ : Addr).block < _ from World.block_lt_of_cell? _ _ q_y3)).trans q_y3
    replace b_y : w_5.heap.size < w_7.heap.size := World.block_lt_of_cell? _ _ q_y0
    replace Hx := Lib.hid (Hx.out.later hB)
    replace Hy := Lib.hid (Hy.out.later hB)
    have HS7 := Lib.hid hB.size
    replace HB := Lib.hid (HB.out.trans (hB.mono HB.out.size))
    obtain rfl : t_k = [] := by simpa using hts
    obtain ⟨a_k, c_k, rfl⟩ := hM.row.own.slice
    simp only [List.length_nil]
    clear hB hts hM
    go_wp2_with fail
    refine (drawVal_any _ len_c _ (codeOk_later HCO.out HB.out)).mono ?_
    rintro e w_8 ⟨v, rfl, hv, hb⟩
    have hB := hb
    replace q_x0 := (hB.cell (show (⟨w_3.heap.size, 0, none⟩ : Addr).block < _ from World.block_lt_of_cell? _ _ q_x0)).trans q_x0
    replace q_x1 := (hB.cell (show (⟨w_3.heap.size, 1, none⟩ : Addr).block < _ from World.block_lt_of_cell? _ _ q_x1)).trans q_x1
    replace q_x2 := (hB.cell (show (⟨w_3.heap.size, 2, none⟩ : Addr).block < _ from World.block_lt_of_cell? _ _ q_x2)).trans q_x2
    replace q_x3 := (hB.cell (show (⟨w_3.heap.size, 3, none⟩ : Addr).block < _ from World.block_lt_of_cell? _ _ q_x3)).trans q_x3
    replace b_x : w_3.heap.size < w_8.heap.size := World.block_lt_of_cell? _ _ q_x0
    replace q_y0 := (hB.cell (show (⟨w_5.heap.size, 0, none⟩ : Addr).block < _ from World.block_lt_of_cell? _ _ q_y0)).trans q_y0
    replace q_y1 := (hB.cell (show (⟨w_5.heap.size, 1, none⟩ : Addr).block < _ from World.block_lt_of_cell? _ _ q_y1)).trans q_y1
    replace q_y2 := (hB.cell (show (⟨w_5.heap.size, 2, none⟩ : Addr).block < _ from World.block_lt_of_cell? _ _ q_y2)).trans q_y2
    replace q_y3 := (hB.cell (show (⟨w_5.heap.size, 3, none⟩ : Addr).block < _ from World.block_lt_of_cell? _ _ q_y3)).trans q_y3
    replace b_y : w_5.heap.size < w_8.heap.size := World.block_lt_of_cell? _ _ q_y0
    replace Hx := Lib.hid (Hx.out.later hB)
    replace Hy := Lib.hid (Hy.out.later hB)
    have HS8 := Lib.hid hB.size
    replace HB := Lib.hid (HB.out.trans (hB.mono HB.out.size))
    clear hB hb hv
    go_wp2_with fail
    go_ret
    exact ⟨rfl, HB.out⟩
  | some t =>
    have HTO := Lib.hid (fun w e w' h => (tagOut_all (s := s) (w := w) (e := e) (w' := w') h))
    rw [show tagT s = t by unfold tagT; rw [ht]; rfl, show tagOk s = true by unfold tagOk; rw [ht]; rfl] at HTO
    have hfs := tag_fmt_size ht hsz
    have hft := fmt_tag ht
    rw [← tok_eta t] at hft
    obtain ⟨K, hK⟩ : ∃ x, t.kind = x := ⟨_, rfl⟩
    obtain ⟨NM, hNM⟩ : ∃ x, t.name = x := ⟨_, rfl⟩
    obtain ⟨TX, hTX⟩ : ∃ x, t.text = x := ⟨_, rfl⟩
    obtain ⟨AT, hAT⟩ : ∃ x, t.attrs = x := ⟨_, rfl⟩
    rw [hK, hNM, hTX, hAT] at HTO hft
    rw [hNM, hAT] at hfs
    have HFS := Lib.hid hfs; have HFT := Lib.hid hft; have HE := Lib.hid (And.intro hK (And.intro hNM (And.intro hTX hAT))); clear hfs hft hK hNM hTX hAT
    rw [ht] at HTK
    clear ht
    go_wp2_with fail
    refine ((HIM.out _).mono (HTO.out _)).mono ?_
    rintro e w_3 ⟨a_x, n_x, c_x, rfl, ho, hb⟩
    have hB := hb
    have Hx := Lib.hid (rwA_own ho)
    have HS3 := Lib.hid hB.size
    replace HB := Lib.hid (HB.out.trans (hB.mono HB.out.size))
    clear hB ho hb
    go_wp2_with fail
    obtain ⟨w_4, hw⟩ : ∃ x, w_3.alloc (.cells #[.int .i64 K, .string NM, .slice a_x n_x c_x, .string TX] 27) = x := ⟨_, rfl⟩
    rw [hw]
    have hB : Below w_3.heap.size w_3 w_4 := by rw [← hw]; exact (Below.refl _ _).alloc (Nat.le_refl _) _
    have q_x0 : w_4.cell? ⟨w_3.heap.size, 0, none⟩ = some (.int .i64 K) := by rw [← hw]; simp
    have q_x1 : w_4.cell? ⟨w_3.heap.size, 1, none⟩ = some (.string NM) := by rw [← hw]; simp
    have q_x2 : w_4.cell? ⟨w_3.heap.size, 2, none⟩ = some (.slice a_x n_x c_x) := by rw [← hw]; simp
    have q_x3 : w_4.cell? ⟨w_3.heap.size, 3, none⟩ = some (.string TX) := by rw [← hw]; simp
    have b_x : w_3.heap.size < w_4.heap.size := World.block_lt_of_cell? _ _ q_x0
    replace Hx := Lib.hid (Hx.out.later hB)
    have HS4 := Lib.hid hB.size
    replace HB := Lib.hid (HB.out.trans (hB.mono HB.out.size))
    clear hB hw
    have HSb_x := Lib.hid b_x
    go_wp2_with fail
    refine ((HSP.out _).mono (HTO.out _)).mono ?_
    rintro e w_5 ⟨a_y, n_y, c_y, rfl, ho, hb⟩
    have hB := hb
    replace q_x0 := (hB.cell (show (⟨w_3.heap.size, 0, none⟩ : Addr).block < _ from World.block_lt_of_cell? _ _ q_x0)).trans q_x0
    replace q_x1 := (hB.cell (show (⟨w_3.heap.size, 1, none⟩ : Addr).block < _ from World.block_lt_of_cell? _ _ q_x1)).trans q_x1
    replace q_x2 := (hB.cell (show (⟨w_3.heap.size, 2, none⟩ : Addr).block < _ from World.block_lt_of_cell? _ _ q_x2)).trans q_x2
    replace q_x3 := (hB.cell (show (⟨w_3.heap.size, 3, none⟩ : Addr).block < _ from World.block_lt_of_cell? _ _ q_x3)).trans q_x3
    replace b_x : w_3.heap.size < w_5.heap.size := World.block_lt_of_cell? _ _ q_x0
    replace Hx := Lib.hid (Hx.out.later hB)
    have Hy := Lib.hid (rwA_own ho)
    have HS5 := Lib.hid hB.size
    replace HB := Lib.hid (HB.out.trans (hB.mono HB.out.size))
    clear hB ho hb
    go_wp2_with fail
    obtain ⟨w_6, hw⟩ : ∃ x, w_5.alloc (.cells #[.int .i64 K, .string NM, .slice a_y n_y c_y, .string TX] 27) = x := ⟨_, rfl⟩
    rw [hw]
    have hB : Below w_5.heap.size w_5 w_6 := by rw [← hw]; exact (Below.refl _ _).alloc (Nat.le_refl _) _
    have q_y0 : w_6.cell? ⟨w_5.heap.size, 0, none⟩ = some (.int .i64 K) := by rw [← hw]; simp
    have q_y1 : w_6.cell? ⟨w_5.heap.size, 1, none⟩ = some (.string NM) := by rw [← hw]; simp
    have q_y2 : w_6.cell? ⟨w_5.heap.size, 2, none⟩ = some (.slice a_y n_y c_y) := by rw [← hw]; simp
    have q_y3 : w_6.cell? ⟨w_5.heap.size, 3, none⟩ = some (.string TX) := by rw [← hw]; simp
    have b_y : w_5.heap.size < w_6.heap.size := World.block_lt_of_cell? _ _ q_y0
    replace q_x0 := (hB.cell (show (⟨w_3.heap.size, 0, none⟩ : Addr).block < _ from World.block_lt_of_cell? _ _ q_x0)).trans q_x0
    replace q_x1 := (hB.cell (show (⟨w_3.heap.size, 1, none⟩ : Addr).block < _ from World.block_lt_of_cell? _ _ q_x1)).trans q_x1
    replace q_x2 := (hB.cell (show (⟨w_3.heap.size, 2, none⟩ : Addr).block < _ from World.block_lt_of_cell? _ _ q_x2)).trans q_x2
    replace q_x3 := (hB.cell (show (⟨w_3.heap.size, 3, none⟩ : Addr).block < _ from World.block_lt_of_cell? _ _ q_x3)).trans q_x3
    replace b_x : w_3.heap.size < w_6.heap.size := World.block_lt_of_cell? _ _ q_x0
    replace Hx := Lib.hid (Hx.out.later hB)
    replace Hy := Lib.hid (Hy.out.later hB)
    have HS6 := Lib.hid hB.size
    replace HB := Lib.hid (HB.out.trans (hB.mono HB.out.size))
    clear hB hw
    have HSb_y := Lib.hid b_y
    go_wp2_with fail
    refine (fmtI_any K NM a_x n_x c_x _ AT TX _ (attrs_of_data (u := .slice a_x n_x c_x) rfl (own_read Hx.out (Nat.le_refl _))) (by have := HS1.out; have := HS2.out; have := HS3.out; have := HS4.out; have := HSb_x.out; have := HS5.out; have := HS6.out; have := HSb_y.out; omega) HFS.out).mono ?_
    rintro e w_7 ⟨rfl, hb⟩
    have hB := hb
    replace q_x0 := (hB.cell (show (⟨w_3.heap.size, 0, none⟩ : Addr).block < _ from World.block_lt_of_cell? _ _ q_x0)).trans q_x0
    replace q_x1 := (hB.cell (show (⟨w_3.heap.size, 1, none⟩ : Addr).block < _ from World.block_lt_of_cell? _ _ q_x1)).trans q_x1
    replace q_x2 := (hB.cell (show (⟨w_3.heap.size, 2, none⟩ : Addr).block < _ from World.block_lt_of_cell? _ _ q_x2)).trans q_x2
    replace q_x3 := (hB.cell (show (⟨w_3.heap.size, 3, none⟩ : Addr).block < _ from World.block_lt_of_cell? _ _ q_x3)).trans q_x3
    replace b_x : w_3.heap.size < w_7.heap.size := World.block_lt_of_cell? _ _ q_x0
    replace q_y0 := (hB.cell (show (⟨w_5.heap.size, 0, none⟩ : Addr).block < _ from World.block_lt_of_cell? _ _ q_y0)).trans q_y0
    replace q_y1 := (hB.cell (show (⟨w_5.heap.size, 1, none⟩ : Addr).block < _ from World.block_lt_of_cell? _ _ q_y1)).trans q_y1
    replace q_y2 := (hB.cell (show (⟨w_5.heap.size, 2, none⟩ : Addr).block < _ from World.block_lt_of_cell? _ _ q_y2)).trans q_y2
    replace q_y3 := (hB.cell (show (⟨w_5.heap.size, 3, none⟩ : Addr).block < _ from World.block_lt_of_cell? _ _ q_y3)).trans q_y3
    replace b_y : w_5.heap.size < w_7.heap.size := World.block_lt_of_cell? _ _ q_y0
    replace Hx := Lib.hid (Hx.out.later hB)
    replace Hy := Lib.hid (Hy.out.later hB)
    have HS7 := Lib.hid hB.size
    replace HB := Lib.hid (HB.out.trans (hB.mono HB.out.size))
    rw [HFT.out]
    clear hB hb
    go_wp2_with fail
    refine (HTK.out _).mono ?_
    rintro e w_8 ⟨v_k, t_k, rfl, hts, hM⟩
    have hB := hM.row.below
    replace q_x0 := (hB.cell (show (⟨w_3.heap.size, 0, none⟩ : Addr).block < _ from World.block_lt_of_cell? _ _ q_x0)).trans q_x0
    replace q_x1 := (hB.cell (show (⟨w_3.heap.size, 1, none⟩ : Addr).block < _ from World.block_lt_of_cell? _ _ q_x1)).trans q_x1
    replace q_x2 := (hB.cell (show (⟨w_3.heap.size, 2, none⟩ : Addr).block < _ from World.block_lt_of_cell? _ _ q_x2)).trans q_x2
    replace q_x3 := (hB.cell (show (⟨w_3.heap.size, 3, none⟩ : Addr).block < _ from World.block_lt_of_cell? _ _ q_x3)).trans q_x3
    replace b_x : w_3.heap.size < w_8.heap.size := World.block_lt_of_cell? _ _ q_x0
    replace q_y0 := (hB.cell (show (⟨w_5.heap.size, 0, none⟩ : Addr).block < _ from World.block_lt_of_cell? _ _ q_y0)).trans q_y0
    replace q_y1 := (hB.cell (show (⟨w_5.heap.size, 1, none⟩ : Addr).block < _ from World.block_lt_of_cell? _ _ q_y1)).trans q_y1
    replace q_y2 := (hB.cell (show (⟨w_5.heap.size, 2, none⟩ : Addr).block < _ from World.block_lt_of_cell? _ _ q_y2)).trans q_y2
    replace q_y3 := (hB.cell (show (⟨w_5.heap.size, 3, none⟩ : Addr).block < _ from World.block_lt_of_cell? _ _ q_y3)).trans q_y3
    replace b_y : w_5.heap.size < w_8.heap.size := World.block_lt_of_cell? _ _ q_y0
    replace Hx := Lib.hid (Hx.out.later hB)
    replace Hy := Lib.hid (Hy.out.later hB)
    have Hk0 := Lib.hid (hM.own)
    have HS8 := Lib.hid hB.size
    replace HB := Lib.hid (HB.out.trans (hB.mono HB.out.size))
    obtain ⟨p, rfl, hp⟩ : ∃ p, t_k = [p] ∧ p.1 = t := by
      match t_k, hts with
      | [p], h => exact ⟨p, rfl, by simpa using h⟩
    obtain ⟨g_k, cc_k, rfl, hgk, q_k0, q_k1, q_k2, q_k3⟩ := toks_first hM
    have hin := hM.inn p (List.mem_singleton.2 rfl)
    rw [hp] at q_k0 q_k1 q_k3 hin
    rw [HE.out.1] at q_k0
    rw [HE.out.2.1] at q_k1
    rw [HE.out.2.2.1] at q_k3
    rw [HE.out.2.2.2] at hin
    obtain ⟨a_k, n_k, c_k, hk⟩ : ∃ a n c, sv p.2 = .slice a n c := ⟨_, _, _, rfl⟩
    rw [hk] at q_k2 hin
    have Hk := Lib.hid (rwA_own hin)
    have b_k : g_k < _ := hgk
    clear hB hts hM hin hk hgk
    clear Hk0
    go_wp2_with fail
    refine (drawVal_any _ len_c _ (codeOk_later HCO.out HB.out)).mono ?_
    rintro e w_9 ⟨v, rfl, hv, hb⟩
    have hB := hb
    replace q_x0 := (hB.cell (show (⟨w_3.heap.size, 0, none⟩ : Addr).block < _ from World.block_lt_of_cell? _ _ q_x0)).trans q_x0
    replace q_x1 := (hB.cell (show (⟨w_3.heap.size, 1, none⟩ : Addr).block < _ from World.block_lt_of_cell? _ _ q_x1)).trans q_x1
    replace q_x2 := (hB.cell (show (⟨w_3.heap.size, 2, none⟩ : Addr).block < _ from World.block_lt_of_cell? _ _ q_x2)).trans q_x2
    replace q_x3 := (hB.cell (show (⟨w_3.heap.size, 3, none⟩ : Addr).block < _ from World.block_lt_of_cell? _ _ q_x3)).trans q_x3
    replace b_x : w_3.heap.size < w_9.heap.size := World.block_lt_of_cell? _ _ q_x0
    replace q_y0 := (hB.cell (show (⟨w_5.heap.size, 0, none⟩ : Addr).block < _ from World.block_lt_of_cell? _ _ q_y0)).trans q_y0
    replace q_y1 := (hB.cell (show (⟨w_5.heap.size, 1, none⟩ : Addr).block < _ from World.block_lt_of_cell? _ _ q_y1)).trans q_y1
    replace q_y2 := (hB.cell (show (⟨w_5.heap.size, 2, none⟩ : Addr).block < _ from World.block_lt_of_cell? _ _ q_y2)).trans q_y2
    replace q_y3 := (hB.cell (show (⟨w_5.heap.size, 3, none⟩ : Addr).block < _ from World.block_lt_of_cell? _ _ q_y3)).trans q_y3
    replace b_y : w_5.heap.size < w_9.heap.size := World.block_lt_of_cell? _ _ q_y0
    replace q_k0 := (hB.cell (show (⟨g_k, 0, none⟩ : Addr).block < _ from World.block_lt_of_cell? _ _ q_k0)).trans q_k0
    replace q_k1 := (hB.cell (show (⟨g_k, 1, none⟩ : Addr).block < _ from World.block_lt_of_cell? _ _ q_k1)).trans q_k1
    replace q_k2 := (hB.cell (show (⟨g_k, 2, none⟩ : Addr).block < _ from World.block_lt_of_cell? _ _ q_k2)).trans q_k2
    replace q_k3 := (hB.cell (show (⟨g_k, 3, none⟩ : Addr).block < _ from World.block_lt_of_cell? _ _ q_k3)).trans q_k3
    replace b_k : g_k < w_9.heap.size := World.block_lt_of_cell? _ _ q_k0
    replace Hx := Lib.hid (Hx.out.later hB)
    replace Hy := Lib.hid (Hy.out.later hB)
    replace Hk := Lib.hid (Hk.out.later hB)
    have HS9 := Lib.hid hB.size
    replace HB := Lib.hid (HB.out.trans (hB.mono HB.out.size))
    have hvz : v.size ≤ 9223372036854775807 := by have := hv.1; omega
    clear hB hb hv
    go_wp2_with fail
    refine (fmtI_any K NM a_k n_k c_k _ AT TX _ (attrs_of_data (u := .slice a_k n_k c_k) rfl (own_read Hk.out (Nat.le_refl _))) (by have := HS1.out; have := HS2.out; have := HS3.out; have := HS4.out; have := HSb_x.out; have := HS5.out; have := HS6.out; have := HSb_y.out; have := HS7.out; have := HS8.out; have := HS9.out; omega) HFS.out).mono ?_
    rintro e w_10 ⟨rfl, hb⟩
    have hB := hb
    replace q_x0 := (hB.cell (show (⟨w_3.heap.size, 0, none⟩ : Addr).block < _ from World.block_lt_of_cell? _ _ q_x0)).trans q_x0
    replace q_x1 := (hB.cell (show (⟨w_3.heap.size, 1, none⟩ : Addr).block < _ from World.block_lt_of_cell? _ _ q_x1)).trans q_x1
    replace q_x2 := (hB.cell (show (⟨w_3.heap.size, 2, none⟩ : Addr).block < _ from World.block_lt_of_cell? _ _ q_x2)).trans q_x2
    replace q_x3 := (hB.cell (show (⟨w_3.heap.size, 3, none⟩ : Addr).block < _ from World.block_lt_of_cell? _ _ q_x3)).trans q_x3
    replace b_x : w_3.heap.size < w_10.heap.size := World.block_lt_of_cell? _ _ q_x0
    replace q_y0 := (hB.cell (show (⟨w_5.heap.size, 0, none⟩ : Addr).block < _ from World.block_lt_of_cell? _ _ q_y0)).trans q_y0
    replace q_y1 := (hB.cell (show (⟨w_5.heap.size, 1, none⟩ : Addr).block < _ from World.block_lt_of_cell? _ _ q_y1)).trans q_y1
    replace q_y2 := (hB.cell (show (⟨w_5.heap.size, 2, none⟩ : Addr).block < _ from World.block_lt_of_cell? _ _ q_y2)).trans q_y2
    replace q_y3 := (hB.cell (show (⟨w_5.heap.size, 3, none⟩ : Addr).block < _ from World.block_lt_of_cell? _ _ q_y3)).trans q_y3
    replace b_y : w_5.heap.size < w_10.heap.size := World.block_lt_of_cell? _ _ q_y0
    replace q_k0 := (hB.cell (show (⟨g_k, 0, none⟩ : Addr).block < _ from World.block_lt_of_cell? _ _ q_k0)).trans q_k0
    replace q_k1 := (hB.cell (show (⟨g_k, 1, none⟩ : Addr).block < _ from World.block_lt_of_cell? _ _ q_k1)).trans q_k1
    replace q_k2 := (hB.cell (show (⟨g_k, 2, none⟩ : Addr).block < _ from World.block_lt_of_cell? _ _ q_k2)).trans q_k2
    replace q_k3 := (hB.cell (show (⟨g_k, 3, none⟩ : Addr).block < _ from World.block_lt_of_cell? _ _ q_k3)).trans q_k3
    replace b_k : g_k < w_10.heap.size := World.block_lt_of_cell? _ _ q_k0
    replace Hx := Lib.hid (Hx.out.later hB)
    replace Hy := Lib.hid (Hy.out.later hB)
    replace Hk := Lib.hid (Hk.out.later hB)
    have HS10 := Lib.hid hB.size
    replace HB := Lib.hid (HB.out.trans (hB.mono HB.out.size))
    rw [HFT.out]
    clear hB hb
    go_wp2_with fail
    refine (val_impl v hvz _).mono ?_
    rintro e w_11 ⟨rfl, hw⟩
    have hB := (show Below (World.heap w_10).size w_10 w_11 by rw [← hw]; exact Below.refl _ _)
    replace q_x0 := (hB.cell (show (⟨w_3.heap.size, 0, none⟩ : Addr).block < _ from World.block_lt_of_cell? _ _ q_x0)).trans q_x0
    replace q_x1 := (hB.cell (show (⟨w_3.heap.size, 1, none⟩ : Addr).block < _ from World.block_lt_of_cell? _ _ q_x1)).trans q_x1
    replace q_x2 := (hB.cell (show (⟨w_3.heap.size, 2, none⟩ : Addr).block < _ from World.block_lt_of_cell? _ _ q_x2)).trans q_x2
    replace q_x3 := (hB.cell (show (⟨w_3.heap.size, 3, none⟩ : Addr).block < _ from World.block_lt_of_cell? _ _ q_x3)).trans q_x3
    replace b_x : w_3.heap.size < w_11.heap.size := World.block_lt_of_cell? _ _ q_x0
    replace q_y0 := (hB.cell (show (⟨w_5.heap.size, 0, none⟩ : Addr).block < _ from World.block_lt_of_cell? _ _ q_y0)).trans q_y0
    replace q_y1 := (hB.cell (show (⟨w_5.heap.size, 1, none⟩ : Addr).block < _ from World.block_lt_of_cell? _ _ q_y1)).trans q_y1
    replace q_y2 := (hB.cell (show (⟨w_5.heap.size, 2, none⟩ : Addr).block < _ from World.block_lt_of_cell? _ _ q_y2)).trans q_y2
    replace q_y3 := (hB.cell (show (⟨w_5.heap.size, 3, none⟩ : Addr).block < _ from World.block_lt_of_cell? _ _ q_y3)).trans q_y3
    replace b_y : w_5.heap.size < w_11.heap.size := World.block_lt_of_cell? _ _ q_y0
    replace q_k0 := (hB.cell (show (⟨g_k, 0, none⟩ : Addr).block < _ from World.block_lt_of_cell? _ _ q_k0)).trans q_k0
    replace q_k1 := (hB.cell (show (⟨g_k, 1, none⟩ : Addr).block < _ from World.block_lt_of_cell? _ _ q_k1)).trans q_k1
    replace q_k2 := (hB.cell (show (⟨g_k, 2, none⟩ : Addr).block < _ from World.block_lt_of_cell? _ _ q_k2)).trans q_k2
    replace q_k3 := (hB.cell (show (⟨g_k, 3, none⟩ : Addr).block < _ from World.block_lt_of_cell? _ _ q_k3)).trans q_k3
    replace b_k : g_k < w_11.heap.size := World.block_lt_of_cell? _ _ q_k0
    replace Hx := Lib.hid (Hx.out.later hB)
    replace Hy := Lib.hid (Hy.out.later hB)
    replace Hk := Lib.hid (Hk.out.later hB)
    have HS11 := Lib.hid hB.size
    replace HB := Lib.hid (HB.out.trans (hB.mono HB.out.size))
    clear hB hw
    go_wp2_with fail
    refine (val_spec v hvz _).mono ?_
    rintro e w_12 ⟨rfl, hw⟩
    have hB := (show Below (World.heap w_11).size w_11 w_12 by rw [← hw]; exact Below.refl _ _)
    replace q_x0 := (hB.cell (show (⟨w_3.heap.size, 0, none⟩ : Addr).block < _ from World.block_lt_of_cell? _ _ q_x0)).trans q_x0
    replace q_x1 := (hB.cell (show (⟨w_3.heap.size, 1, none⟩ : Addr).block < _ from World.block_lt_of_cell? _ _ q_x1)).trans q_x1
    replace q_x2 := (hB.cell (show (⟨w_3.heap.size, 2, none⟩ : Addr).block < _ from World.block_lt_of_cell? _ _ q_x2)).trans q_x2
    replace q_x3 := (hB.cell (show (⟨w_3.heap.size, 3, none⟩ : Addr).block < _ from World.block_lt_of_cell? _ _ q_x3)).trans q_x3
    replace b_x : w_3.heap.size < w_12.heap.size := World.block_lt_of_cell? _ _ q_x0
    replace q_y0 := (hB.cell (show (⟨w_5.heap.size, 0, none⟩ : Addr).block < _ from World.block_lt_of_cell? _ _ q_y0)).trans q_y0
    replace q_y1 := (hB.cell (show (⟨w_5.heap.size, 1, none⟩ : Addr).block < _ from World.block_lt_of_cell? _ _ q_y1)).trans q_y1
    replace q_y2 := (hB.cell (show (⟨w_5.heap.size, 2, none⟩ : Addr).block < _ from World.block_lt_of_cell? _ _ q_y2)).trans q_y2
    replace q_y3 := (hB.cell (show (⟨w_5.heap.size, 3, none⟩ : Addr).block < _ from World.block_lt_of_cell? _ _ q_y3)).trans q_y3
    replace b_y : w_5.heap.size < w_12.heap.size := World.block_lt_of_cell? _ _ q_y0
    replace q_k0 := (hB.cell (show (⟨g_k, 0, none⟩ : Addr).block < _ from World.block_lt_of_cell? _ _ q_k0)).trans q_k0
    replace q_k1 := (hB.cell (show (⟨g_k, 1, none⟩ : Addr).block < _ from World.block_lt_of_cell? _ _ q_k1)).trans q_k1
    replace q_k2 := (hB.cell (show (⟨g_k, 2, none⟩ : Addr).block < _ from World.block_lt_of_cell? _ _ q_k2)).trans q_k2
    replace q_k3 := (hB.cell (show (⟨g_k, 3, none⟩ : Addr).block < _ from World.block_lt_of_cell? _ _ q_k3)).trans q_k3
    replace b_k : g_k < w_12.heap.size := World.block_lt_of_cell? _ _ q_k0
    replace Hx := Lib.hid (Hx.out.later hB)
    replace Hy := Lib.hid (Hy.out.later hB)
    replace Hk := Lib.hid (Hk.out.later hB)
    have HS12 := Lib.hid hB.size
    replace HB := Lib.hid (HB.out.trans (hB.mono HB.out.size))
    have hvv : (isVal v == isVal v) = true := beq_self_eq_true _
    clear hB hw
    go_wp2_with fail
    go_ret
    exact ⟨rfl, HB.out⟩

theorem tags_all (a : Option Addr) (len cap : Nat) (zs : List Int) (w : World) (h : IsRow .u8 w a len cap zs) :
    Calls Tryd.prog 3 #[.slice a len cap] w fun e w' => e = .returned (.bool true) ∧ Below w.heap.size w w' := by
  by_cases hb : (1048576 : Int) < (len : Int)
  · go_enter Tryd.func3, Tryd.ntmps3
    go_wp2_with fail
    refine (big_yes a len cap _ hb).mono ?_
    rintro e w' ⟨rfl, rfl⟩
    go_wp2_with fail
    go_ret
    exact ⟨rfl, Below.refl _ _⟩
  · exact walkTagsW a len cap w (code_of_row h (by omega)) hb
end Go.Proofs.YtbegfdfdilnjdaaDoor
