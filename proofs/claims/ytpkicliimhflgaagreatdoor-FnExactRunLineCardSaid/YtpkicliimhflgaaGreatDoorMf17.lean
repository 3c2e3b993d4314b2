/- Helper contract: RunLine of the model. Asked: the text is no longer than 2^20; the builder and the sheets read as named and fit. Helper contract: RunLine of the model. Asked: the text is no longer than 2^20; the builder and the sheets read as named and fit. Helper contract: RunLine of the model, whatever the line. Asked: the text is no longer than 2^20; the builder and the sheets read as named and fit. Helper contracts: openElement and closeElement of the program. Helper contracts: FormatToken of the program and of the model answer alike. Asked: the attributes read as the list named, and the token's strings are shorter than 2^30 bytes together. Helper contracts: FormatToken of the program. Asked: the attributes read as the list named, and the token's strings are shorter than 2^30 bytes together. Helper contracts: addMarkup, AddToken and AddTokens of the program. Helper contracts: AddTokens of the program and of the model. Cells read in a row: what an argument's memory holds. Helper facts, no claim of its own. What a tokenizer, a token, and a slice of attributes, that came in is, for the walks. Helper facts, no claim of its own. -/
import Derived.Test.YtpkicliimhflgaaGreatDoorMf16
import Derived.Deep.RegionWith
import Derived.Test.YtpkicliimhflgaaGreatDoorMf9
import Derived.Test.YtpkicliimhflgaaGreatDoorShelfJ
import Derived.Test.YtpkicliimhflgaaGreatDoorMf7
import Derived.Lib.Join
import Derived.Test.YtpkicliimhflgaaGreatDoorMf6
import Derived.Test.YtpkicliimhflgaaGreatDoorMf1
import Derived.Lib.SmallJoins
import Derived.Deep.Slices
import Derived.ShutString
import Derived.ChangeOld
import Derived.Carry
namespace Go.Proofs.YtpkicliimhflgaaGreatDoor

open Go.ChangeShapes Go.WideShapes Go.ChangeAt Go.RowKit

set_option maxRecDepth 100000 in
set_option maxHeartbeats 4000000 in
theorem rls_count (tx : ByteArray) (v : Value) (ss : List Shv) (nv ov : Value) (b : Bd) (hx : tx.size ≤ 1048576) (w : World) (hb : BdIn w.heap.size w nv ov b) (hfit : Fits b) (hs : ReadH w.heap.size w v ss) :
    Calls Tryz.prog 23 #[.agg #[nv, ov], v, .agg #[.int .i64 3, .string tx]] w (RlOut b (flatR ss) 3 tx w) := by
  obtain ⟨nsb, hnsb, hrn, hro⟩ := hb
  obtain ⟨na, nc, rfl, hq1, hq2⟩ := hrn.form
  obtain ⟨oa, oc, rfl, -⟩ := reads_form hro
  have hbd : BdIn w.heap.size w (.slice na nsb.length nc) (.slice oa b.opn.length oc) b := ⟨nsb, hnsb, hrn, hro⟩
  have hlb : nsb.length = b.nodes.length := by rw [← hnsb, List.length_map]
  obtain ⟨n, hn⟩ : ∃ n, nsb.length = n := ⟨_, rfl⟩
  obtain ⟨on, hon⟩ : ∃ n, b.opn.length = n := ⟨_, rfl⟩
  rw [hn, hon] at hbd; rw [hn] at hlb; rw [hn, hon]; have HLB := Lib.hid hlb; clear hrn hro hnsb hn hq1 hq2 hon hlb
  obtain ⟨W0, hW0⟩ : ∃ W, ((w.alloc (.cells #[.slice na n nc, .slice oa on oc] 41)).alloc (.cells #[.int .i64 3, .string tx] 51)).alloc (.cells #[.slice none 0 0, .slice none 0 0] 41) = W := ⟨_, rfl⟩
  have HB := Lib.hid (show Below w.heap.size w W0 by rw [← hW0]; exact bl_aw (bl_aw (bl_aw (Below.refl _ _) _) _) _)
  have XB := Lib.hid (show Box2 W0 w.heap.size (.slice na n nc) (.slice oa on oc) by rw [← hW0]; exact box3_0 _ _ _ _)
  have XL := Lib.hid (show W0.heap[w.heap.size + 1]? = some (.cells #[.int .i64 3, .string tx] 51 (0, 0)) by rw [← hW0]; exact box3_1 _ _ _ _)
  have XR := Lib.hid (show Box2 W0 (w.heap.size + 1 + 1) (.slice none 0 0) (.slice none 0 0) by rw [← hW0]; exact box3_2 _ _ _ _)
  have HW0 := Lib.hid hW0; clear hW0
  have HBI := Lib.hid (hbd.up HB.out); have HRH := Lib.hid (hs.up HB.out); have hNL := hfit.1; have hnl := ndW_len b.nodes; clear hbd hs
  have HCP := Lib.hid (copy_spec _ _ b W0 HBI.out hfit)
  obtain ⟨⟨y0, y1⟩, -, -⟩ := XB.out.cells
  go_enter Tryz.func23, Tryz.ntmps23
  go_wp2_with fail
  rw [HW0.out]
  clear y0 y1
  refine HCP.out.mono ?_
  rintro e w1 ⟨nv1, ov1, rfl, hat⟩
  clear HCP
  obtain ⟨ns, hns, hmn, hmo⟩ := hat
  have hbm : BdM W0.heap.size W0 w1 nv1 ov1 ns b.opn := ⟨hmn, hmo⟩
  have hb1 : Below W0.heap.size W0 w1 := hmo.below
  obtain ⟨na1, nc1, rfl⟩ := mineN_form hmn
  obtain ⟨oa1, oc1, rfl⟩ := mine_form hmo
  obtain ⟨n1, hn1⟩ : ∃ n, ns.length = n := ⟨_, rfl⟩
  obtain ⟨o1, ho1⟩ : ∃ n, b.opn.length = n := ⟨_, rfl⟩
  rw [hn1, ho1] at hbm; rw [hn1, ho1]
  have hlen0 : ns.length = b.nodes.length := by rw [← hns, List.length_map]
  have hlen : ns.length ≤ 68719476736 := by omega
  have hnn : n1 = n := by have := HLB.out; omega
  clear hlen0
  replace HB := Lib.hid (HB.out.trans (hb1.mono HB.out.size))
  have hdn := hbm.down HB.out (show w.heap.size ≤ W0.heap.size from by have := heap_lt XL.out; omega)
  replace XL := Lib.hid (below_heap hb1 (heap_lt XL.out) XL.out); replace XR := Lib.hid (XR.out.later hb1); replace XB := Lib.hid (XB.out.later hb1); replace HRH := Lib.hid (HRH.out.up hb1); replace HBI := Lib.hid (HBI.out.up hb1)
  have HNS := Lib.hid hns; have HLN := Lib.hid hlen; have HBM := Lib.hid hdn; have HN1 := Lib.hid hn1; have HNN := Lib.hid hnn; have HNL := Lib.hid (show b.nodes.length ≤ 68719476736 by omega); clear hmn hmo hbm hb1 hdn hn1 ho1 hns hlen hNL hnl hnn
  obtain ⟨W1, hW1⟩ : ∃ W, w1.alloc (.cells #[.slice na1 n1 nc1, .slice oa1 o1 oc1] 41) = W := ⟨_, rfl⟩
  have hb2 : Below w1.heap.size w1 W1 := by rw [← hW1]; exact bl_aw (Below.refl _ _) _
  have XC := Lib.hid (show Box2 W1 w1.heap.size (.slice na1 n1 nc1) (.slice oa1 o1 oc1) by rw [← hW1]; exact Box2.new _ _ _)
  have PRC := Lib.hid XR.out.lt
  replace XL := Lib.hid (below_heap hb2 (heap_lt XL.out) XL.out); replace XR := Lib.hid (XR.out.later hb2); replace XB := Lib.hid (XB.out.later hb2); replace HRH := Lib.hid (HRH.out.up hb2); replace HBI := Lib.hid (HBI.out.up hb2); replace HBM := Lib.hid (HBM.out.later hb2); replace HB := Lib.hid (HB.out.trans (hb2.mono HB.out.size)); have HW1 := Lib.hid hW1; clear hb2 hW1
  go_upto_region 2 with (fail)
  rw [HW1.out]
  obtain ⟨C, hC⟩ : ∃ c, w1.heap.size = c := ⟨_, rfl⟩
  rw [hC] at XC PRC; try simp only [hC]
  clear hC
  have hcl := count_le b.nodes tx; have hnl := HNL.out
  have hN0 : (-9223372036854775808 : Int) ≤ (countName b.nodes tx : Int) := by omega
  have hN1 : (countName b.nodes tx : Int) ≤ (9223372036854775807 : Int) := by omega
  have HQN := Lib.hid (count_spec _ _ b tx (World.drew W1) (HBI.out.up (show Below W1.heap.size W1 (World.drew W1) from (Below.refl _ _).drew)))
  obtain ⟨N, hN⟩ : ∃ N : Int, (countName b.nodes tx : Int) = N := ⟨_, rfl⟩
  rw [hN] at HQN hN0 hN1
  have hSz := fmtSR hN0 hN1
  have HLG := Lib.hid (show lgdS b.nodes (flatR ss) 3 tx = lgN 3 tx N by rw [← hN]; rfl)
  unfold lgN at HLG; rw [frm_3] at HLG
  have a0 : ∀ W, (Op.stringOp .add ⟨#[99, 111, 117, 110, 116, 32]⟩ tx).run Tryz.prog W = .ok (.string (⟨#[99, 111, 117, 110, 116, 32]⟩ ++ tx)) W := fun W => run_string_add_sum _ _ _ (by rw [show (⟨#[99, 111, 117, 110, 116, 32]⟩ : ByteArray).size = 6 from rfl]; omega)
  have hG : ((⟨#[99, 111, 117, 110, 116, 32]⟩ : ByteArray) ++ tx).size = 6 + tx.size := by rw [ByteArray.size_append]; rfl
  obtain ⟨G, hGG⟩ : ∃ G, (⟨#[99, 111, 117, 110, 116, 32]⟩ : ByteArray) ++ tx = G := ⟨_, rfl⟩
  rw [hGG] at a0 hG HLG
  have a1 : ∀ W, (Op.stringOp .add G ⟨#[32]⟩).run Tryz.prog W = .ok (.string (G ++ ⟨#[32]⟩)) W := fun W => run_string_add_sum _ _ _ (by rw [show (⟨#[32]⟩ : ByteArray).size = 1 from rfl]; omega)
  have hG2 : (G ++ (⟨#[32]⟩ : ByteArray)).size = G.size + 1 := by rw [ByteArray.size_append]; rfl
  obtain ⟨G2, hGG2⟩ : ∃ G2, G ++ (⟨#[32]⟩ : ByteArray) = G2 := ⟨_, rfl⟩
  rw [hGG2] at a1 hG2 HLG
  obtain ⟨S, hS⟩ : ∃ S, fmtS N = S := ⟨_, rfl⟩
  have HQS := Lib.hid (fun X => fmt_spec N hN0 hN1 X)
  rw [hS] at hSz HQS HLG
  have a2 : ∀ W, (Op.stringOp .add G2 S).run Tryz.prog W = .ok (.string (G2 ++ S)) W := fun W => run_string_add_sum _ _ _ (by omega)
  obtain ⟨Z, hZ⟩ : ∃ Z, G2 ++ S = Z := ⟨_, rfl⟩
  rw [hZ] at a2 HLG
  clear hZ hS hGG hGG2 hG hG2 hSz hN hN0 hN1
  obtain ⟨⟨c0, c1⟩, -, -⟩ := XC.out.cells; obtain ⟨⟨b0, b1⟩, -, -⟩ := XB.out.cells; obtain ⟨⟨r0, r1⟩, f0, f1⟩ := XR.out.cells; have l0 := box_cell XL.out (j := 0) rfl; have l1 := box_cell XL.out (j := 1) rfl
  have lt := PRC.out
  go_upto_region 10 with (fail)
  have KEEP := Lib.hid (fun (w' : World) (h : Below (w.heap.size + 1 + 1) W1 w') (hc : Box2 w' C (.slice na1 n1 nc1) (.slice oa1 o1 oc1)) => show Below (w.heap.size + 1 + 1) W1 w' ∧ w'.cell? ⟨C, 0, none⟩ = some (.slice na1 n1 nc1) ∧ w'.cell? ⟨C, 1, none⟩ = some (.slice oa1 o1 oc1) ∧ w'.cell? ⟨w.heap.size + 1, 1, none⟩ = some (.string tx) ∧ w'.cell? ⟨w.heap.size, 0, none⟩ = some (.slice na n nc) ∧ w'.cell? ⟨w.heap.size, 1, none⟩ = some (.slice oa on oc) from ⟨h, hc.cells.1.1, hc.cells.1.2, (h.cell (show (⟨w.heap.size + 1, 1, none⟩ : Addr).block < _ from show w.heap.size + 1 < w.heap.size + 1 + 1 by omega)).trans l1, (h.cell (show (⟨w.heap.size, 0, none⟩ : Addr).block < _ from show w.heap.size < w.heap.size + 1 + 1 by omega)).trans b0, (h.cell (show (⟨w.heap.size, 1, none⟩ : Addr).block < _ from show w.heap.size < w.heap.size + 1 + 1 by omega)).trans b1⟩)
  have hRW : w.heap.size + 1 + 1 ≤ W1.heap.size := by have := XC.out.lt; omega
  have HRW := Lib.hid hRW; clear hRW
  go_region_held3 (fun w' => Below (w.heap.size + 1 + 1) W1 w' ∧ w'.cell? ⟨C, 0, none⟩ = some (.slice na1 n1 nc1) ∧ w'.cell? ⟨C, 1, none⟩ = some (.slice oa1 o1 oc1) ∧ w'.cell? ⟨w.heap.size + 1, 1, none⟩ = some (.string tx) ∧ w'.cell? ⟨w.heap.size, 0, none⟩ = some (.slice na n nc) ∧ w'.cell? ⟨w.heap.size, 1, none⟩ = some (.slice oa on oc)) (first | exact KEEP.out _ (kB.mono HRW.out) XCB | exact KEEP.out _ (kA.mono HRW.out) XCA | exact KEEP.out _ ((Below.refl _ _).drew) XC.out | exact KEEP.out _ (Below.refl _ _) XC.out | exact KEEP.out _ (((kB.mono HRW.out).setCell (Nat.le_refl _) _).setCell (Nat.le_refl _) _) ((XCB.far (show C ≠ w.heap.size + 1 + 1 from by have := PRC.out; omega) _).far (show C ≠ w.heap.size + 1 + 1 from by have := PRC.out; omega) _)) (first | (go_at_call 73; refine (HQN.out).mono ?_; rintro e wA ⟨rfl, hbA⟩; have kA := ((Below.refl W1.heap.size W1).drew).trans hbA.below; have XCA := XC.out.later kA; have XBA := XB.out.later kA; have XRA := XR.out.later kA; have XLA := below_heap kA (heap_lt XL.out) XL.out; obtain ⟨⟨c0A, c1A⟩, -, -⟩ := XCA.cells; obtain ⟨⟨b0A, b1A⟩, -, -⟩ := XBA.cells; obtain ⟨⟨r0A, r1A⟩, f0A, f1A⟩ := XRA.cells; have l0A := box_cell XLA (j := 0) rfl; have l1A := box_cell XLA (j := 1) rfl) | (go_at_call 72; refine (HQS.out wA).mono ?_; rintro e wB ⟨rfl, hbB⟩; have kB := kA.trans (hbB.mono kA.size); have XCB := XC.out.later kB; have XBB := XB.out.later kB; have XRB := XR.out.later kB; have XLB := below_heap kB (heap_lt XL.out) XL.out; obtain ⟨⟨c0B, c1B⟩, -, -⟩ := XCB.cells; obtain ⟨⟨b0B, b1B⟩, -, -⟩ := XBB.cells; obtain ⟨⟨r0B, r1B⟩, f0B, f1B⟩ := XRB.cells; have l0B := box_cell XLB (j := 0) rfl; have l1B := box_cell XLB (j := 1) rfl))
  all_goals
    obtain ⟨w9, hw9⟩ : ∃ x, (wB.setCell ⟨w.heap.size + 1 + 1, 0, none⟩ (.slice na1 n1 nc1)).setCell ⟨w.heap.size + 1 + 1, 1, none⟩ (.slice oa1 o1 oc1) = x := ⟨_, rfl⟩
    rw [hw9]
    have hX := (XRB.set0 (.slice na1 n1 nc1)).set1 (.slice oa1 o1 oc1)
    have hD := ((HBM.out.later kB).setT (o := 0) (u := .slice na1 n1 nc1) XRB (show w.heap.size ≤ w.heap.size + 1 + 1 by omega)).setT (o := 1) (u := .slice oa1 o1 oc1) (XRB.set0 _) (show w.heap.size ≤ w.heap.size + 1 + 1 by omega)
    rw [hw9] at hX hD
    obtain ⟨⟨p0, p1⟩, -, -⟩ := hX.cells
    go_wp2_with fail
    refine bodyPost_ret (v := .tuple #[.agg #[.slice na1 n1 nc1, .slice oa1 o1 oc1], .string ⟨#[]⟩, .string Z]) (by simp [results, Tryz.results23, go_sem, p0, p1]) rfl ?_
    exact ⟨_, _, ns, by rw [HLG.out]; rfl, by unfold rlN; rw [if_neg (by omega)]; exact HNS.out, hD⟩

set_option maxRecDepth 100000 in
set_option maxHeartbeats 4000000 in
theorem rls_look (tx : ByteArray) (v : Value) (ss : List Shv) (nv ov : Value) (b : Bd) (hx : tx.size ≤ 1048576) (w : World) (hb : BdIn w.heap.size w nv ov b) (hfit : Fits b) (hs : ReadH w.heap.size w v ss) (hf : ShFit ss) :
    Calls Tryz.prog 23 #[.agg #[nv, ov], v, .agg #[.int .i64 4, .string tx]] w (RlOut b (flatR ss) 4 tx w) := by
  obtain ⟨nsb, hnsb, hrn, hro⟩ := hb
  obtain ⟨na, nc, rfl, hq1, hq2⟩ := hrn.form
  obtain ⟨oa, oc, rfl, -⟩ := reads_form hro
  have hbd : BdIn w.heap.size w (.slice na nsb.length nc) (.slice oa b.opn.length oc) b := ⟨nsb, hnsb, hrn, hro⟩
  have hlb : nsb.length = b.nodes.length := by rw [← hnsb, List.length_map]
  obtain ⟨n, hn⟩ : ∃ n, nsb.length = n := ⟨_, rfl⟩
  obtain ⟨on, hon⟩ : ∃ n, b.opn.length = n := ⟨_, rfl⟩
  rw [hn, hon] at hbd; rw [hn] at hlb; rw [hn, hon]; have HLB := Lib.hid hlb; clear hrn hro hnsb hn hq1 hq2 hon hlb
  obtain ⟨W0, hW0⟩ : ∃ W, ((w.alloc (.cells #[.slice na n nc, .slice oa on oc] 41)).alloc (.cells #[.int .i64 4, .string tx] 51)).alloc (.cells #[.slice none 0 0, .slice none 0 0] 41) = W := ⟨_, rfl⟩
  have HB := Lib.hid (show Below w.heap.size w W0 by rw [← hW0]; exact bl_aw (bl_aw (bl_aw (Below.refl _ _) _) _) _)
  have XB := Lib.hid (show Box2 W0 w.heap.size (.slice na n nc) (.slice oa on oc) by rw [← hW0]; exact box3_0 _ _ _ _)
  have XL := Lib.hid (show W0.heap[w.heap.size + 1]? = some (.cells #[.int .i64 4, .string tx] 51 (0, 0)) by rw [← hW0]; exact box3_1 _ _ _ _)
  have XR := Lib.hid (show Box2 W0 (w.heap.size + 1 + 1) (.slice none 0 0) (.slice none 0 0) by rw [← hW0]; exact box3_2 _ _ _ _)
  have HW0 := Lib.hid hW0; clear hW0
  have HBI := Lib.hid (hbd.up HB.out); have HRH := Lib.hid (hs.up HB.out); have hNL := hfit.1; have hnl := ndW_len b.nodes; clear hbd hs
  have HCP := Lib.hid (copy_spec _ _ b W0 HBI.out hfit)
  obtain ⟨⟨y0, y1⟩, -, -⟩ := XB.out.cells
  go_enter Tryz.func23, Tryz.ntmps23
  go_wp2_with fail
  rw [HW0.out]
  clear y0 y1
  refine HCP.out.mono ?_
  rintro e w1 ⟨nv1, ov1, rfl, hat⟩
  clear HCP
  obtain ⟨ns, hns, hmn, hmo⟩ := hat
  have hbm : BdM W0.heap.size W0 w1 nv1 ov1 ns b.opn := ⟨hmn, hmo⟩
  have hb1 : Below W0.heap.size W0 w1 := hmo.below
  obtain ⟨na1, nc1, rfl⟩ := mineN_form hmn
  obtain ⟨oa1, oc1, rfl⟩ := mine_form hmo
  obtain ⟨n1, hn1⟩ : ∃ n, ns.length = n := ⟨_, rfl⟩
  obtain ⟨o1, ho1⟩ : ∃ n, b.opn.length = n := ⟨_, rfl⟩
  rw [hn1, ho1] at hbm; rw [hn1, ho1]
  have hlen0 : ns.length = b.nodes.length := by rw [← hns, List.length_map]
  have hlen : ns.length ≤ 68719476736 := by omega
  have hnn : n1 = n := by have := HLB.out; omega
  clear hlen0
  replace HB := Lib.hid (HB.out.trans (hb1.mono HB.out.size))
  have hdn := hbm.down HB.out (show w.heap.size ≤ W0.heap.size from by have := heap_lt XL.out; omega)
  replace XL := Lib.hid (below_heap hb1 (heap_lt XL.out) XL.out); replace XR := Lib.hid (XR.out.later hb1); replace XB := Lib.hid (XB.out.later hb1); replace HRH := Lib.hid (HRH.out.up hb1); replace HBI := Lib.hid (HBI.out.up hb1)
  have HNS := Lib.hid hns; have HLN := Lib.hid hlen; have HBM := Lib.hid hdn; have HN1 := Lib.hid hn1; have HNN := Lib.hid hnn; have HNL := Lib.hid (show b.nodes.length ≤ 68719476736 by omega); clear hmn hmo hbm hb1 hdn hn1 ho1 hns hlen hNL hnl hnn
  obtain ⟨W1, hW1⟩ : ∃ W, w1.alloc (.cells #[.slice na1 n1 nc1, .slice oa1 o1 oc1] 41) = W := ⟨_, rfl⟩
  have hb2 : Below w1.heap.size w1 W1 := by rw [← hW1]; exact bl_aw (Below.refl _ _) _
  have XC := Lib.hid (show Box2 W1 w1.heap.size (.slice na1 n1 nc1) (.slice oa1 o1 oc1) by rw [← hW1]; exact Box2.new _ _ _)
  have PRC := Lib.hid XR.out.lt
  replace XL := Lib.hid (below_heap hb2 (heap_lt XL.out) XL.out); replace XR := Lib.hid (XR.out.later hb2); replace XB := Lib.hid (XB.out.later hb2); replace HRH := Lib.hid (HRH.out.up hb2); replace HBI := Lib.hid (HBI.out.up hb2); replace HBM := Lib.hid (HBM.out.later hb2); replace HB := Lib.hid (HB.out.trans (hb2.mono HB.out.size)); have HW1 := Lib.hid hW1; clear hb2 hW1
  go_upto_region 2 with (fail)
  rw [HW1.out]
  obtain ⟨C, hC⟩ : ∃ c, w1.heap.size = c := ⟨_, rfl⟩
  rw [hC] at XC PRC; try simp only [hC]
  clear hC
  have hN0 : (-9223372036854775808 : Int) ≤ (colOf (flatR ss) tx) := (colOf_range (flat_ok hf.ok)).1
  have hN1 : (colOf (flatR ss) tx) ≤ (9223372036854775807 : Int) := (colOf_range (flat_ok hf.ok)).2
  have HQN := Lib.hid (colorOf_spec v ss tx (World.drew W1) (HRH.out.up (show Below W1.heap.size W1 (World.drew W1) from (Below.refl _ _).drew)) hf.n hf.r)
  obtain ⟨N, hN⟩ : ∃ N : Int, (colOf (flatR ss) tx) = N := ⟨_, rfl⟩
  rw [hN] at HQN hN0 hN1
  have hSz := fmtSR hN0 hN1
  have HLG := Lib.hid (show lgdS b.nodes (flatR ss) 4 tx = lgN 4 tx N by rw [← hN]; rfl)
  unfold lgN at HLG; rw [frm_4] at HLG
  have a0 : ∀ W, (Op.stringOp .add ⟨#[108, 111, 111, 107, 32]⟩ tx).run Tryz.prog W = .ok (.string (⟨#[108, 111, 111, 107, 32]⟩ ++ tx)) W := fun W => run_string_add_sum _ _ _ (by rw [show (⟨#[108, 111, 111, 107, 32]⟩ : ByteArray).size = 5 from rfl]; omega)
  have hG : ((⟨#[108, 111, 111, 107, 32]⟩ : ByteArray) ++ tx).size = 5 + tx.size := by rw [ByteArray.size_append]; rfl
  obtain ⟨G, hGG⟩ : ∃ G, (⟨#[108, 111, 111, 107, 32]⟩ : ByteArray) ++ tx = G := ⟨_, rfl⟩
  rw [hGG] at a0 hG HLG
  have a1 : ∀ W, (Op.stringOp .add G ⟨#[32]⟩).run Tryz.prog W = .ok (.string (G ++ ⟨#[32]⟩)) W := fun W => run_string_add_sum _ _ _ (by rw [show (⟨#[32]⟩ : ByteArray).size = 1 from rfl]; omega)
  have hG2 : (G ++ (⟨#[32]⟩ : ByteArray)).size = G.size + 1 := by rw [ByteArray.size_append]; rfl
  obtain ⟨G2, hGG2⟩ : ∃ G2, G ++ (⟨#[32]⟩ : ByteArray) = G2 := ⟨_, rfl⟩
  rw [hGG2] at a1 hG2 HLG
  obtain ⟨S, hS⟩ : ∃ S, fmtS N = S := ⟨_, rfl⟩
  have HQS := Lib.hid (fun X => fmt_spec N hN0 hN1 X)
  rw [hS] at hSz HQS HLG
  have a2 : ∀ W, (Op.stringOp .add G2 S).run Tryz.prog W = .ok (.string (G2 ++ S)) W := fun W => run_string_add_sum _ _ _ (by omega)
  obtain ⟨Z, hZ⟩ : ∃ Z, G2 ++ S = Z := ⟨_, rfl⟩
  rw [hZ] at a2 HLG
  clear hZ hS hGG hGG2 hG hG2 hSz hN hN0 hN1
  obtain ⟨⟨c0, c1⟩, -, -⟩ := XC.out.cells; obtain ⟨⟨b0, b1⟩, -, -⟩ := XB.out.cells; obtain ⟨⟨r0, r1⟩, f0, f1⟩ := XR.out.cells; have l0 := box_cell XL.out (j := 0) rfl; have l1 := box_cell XL.out (j := 1) rfl
  have lt := PRC.out
  go_upto_region 12 with (fail)
  have KEEP := Lib.hid (fun (w' : World) (h : Below (w.heap.size + 1 + 1) W1 w') (hc : Box2 w' C (.slice na1 n1 nc1) (.slice oa1 o1 oc1)) => show Below (w.heap.size + 1 + 1) W1 w' ∧ w'.cell? ⟨C, 0, none⟩ = some (.slice na1 n1 nc1) ∧ w'.cell? ⟨C, 1, none⟩ = some (.slice oa1 o1 oc1) ∧ w'.cell? ⟨w.heap.size + 1, 1, none⟩ = some (.string tx) from ⟨h, hc.cells.1.1, hc.cells.1.2, (h.cell (show (⟨w.heap.size + 1, 1, none⟩ : Addr).block < _ from show w.heap.size + 1 < w.heap.size + 1 + 1 by omega)).trans l1⟩)
  have hRW : w.heap.size + 1 + 1 ≤ W1.heap.size := by have := XC.out.lt; omega
  have HRW := Lib.hid hRW; clear hRW
  go_region_held3 (fun w' => Below (w.heap.size + 1 + 1) W1 w' ∧ w'.cell? ⟨C, 0, none⟩ = some (.slice na1 n1 nc1) ∧ w'.cell? ⟨C, 1, none⟩ = some (.slice oa1 o1 oc1) ∧ w'.cell? ⟨w.heap.size + 1, 1, none⟩ = some (.string tx)) (first | exact KEEP.out _ (kB.mono HRW.out) XCB | exact KEEP.out _ (kA.mono HRW.out) XCA | exact KEEP.out _ ((Below.refl _ _).drew) XC.out | exact KEEP.out _ (Below.refl _ _) XC.out | exact KEEP.out _ (((kB.mono HRW.out).setCell (Nat.le_refl _) _).setCell (Nat.le_refl _) _) ((XCB.far (show C ≠ w.heap.size + 1 + 1 from by have := PRC.out; omega) _).far (show C ≠ w.heap.size + 1 + 1 from by have := PRC.out; omega) _)) (first | (go_at_call 74; refine HQN.out.mono ?_; rintro e wA ⟨rfl, hbA⟩; have kA : Below W1.heap.size W1 wA := hbA ▸ (Below.refl W1.heap.size W1).drew; have XCA := XC.out.later kA; have XBA := XB.out.later kA; have XRA := XR.out.later kA; have XLA := below_heap kA (heap_lt XL.out) XL.out; obtain ⟨⟨c0A, c1A⟩, -, -⟩ := XCA.cells; obtain ⟨⟨b0A, b1A⟩, -, -⟩ := XBA.cells; obtain ⟨⟨r0A, r1A⟩, f0A, f1A⟩ := XRA.cells; have l0A := box_cell XLA (j := 0) rfl; have l1A := box_cell XLA (j := 1) rfl) | (go_at_call 72; refine (HQS.out wA).mono ?_; rintro e wB ⟨rfl, hbB⟩; have kB := kA.trans (hbB.mono kA.size); have XCB := XC.out.later kB; have XBB := XB.out.later kB; have XRB := XR.out.later kB; have XLB := below_heap kB (heap_lt XL.out) XL.out; obtain ⟨⟨c0B, c1B⟩, -, -⟩ := XCB.cells; obtain ⟨⟨b0B, b1B⟩, -, -⟩ := XBB.cells; obtain ⟨⟨r0B, r1B⟩, f0B, f1B⟩ := XRB.cells; have l0B := box_cell XLB (j := 0) rfl; have l1B := box_cell XLB (j := 1) rfl))
  all_goals
    obtain ⟨w9, hw9⟩ : ∃ x, (wB.setCell ⟨w.heap.size + 1 + 1, 0, none⟩ (.slice na1 n1 nc1)).setCell ⟨w.heap.size + 1 + 1, 1, none⟩ (.slice oa1 o1 oc1) = x := ⟨_, rfl⟩
    rw [hw9]
    have hX := (XRB.set0 (.slice na1 n1 nc1)).set1 (.slice oa1 o1 oc1)
    have hD := ((HBM.out.later kB).setT (o := 0) (u := .slice na1 n1 nc1) XRB (show w.heap.size ≤ w.heap.size + 1 + 1 by omega)).setT (o := 1) (u := .slice oa1 o1 oc1) (XRB.set0 _) (show w.heap.size ≤ w.heap.size + 1 + 1 by omega)
    rw [hw9] at hX hD
    obtain ⟨⟨p0, p1⟩, -, -⟩ := hX.cells
    go_wp2_with fail
    refine bodyPost_ret (v := .tuple #[.agg #[.slice na1 n1 nc1, .slice oa1 o1 oc1], .string ⟨#[]⟩, .string Z]) (by simp [results, Tryz.results23, go_sem, p0, p1]) rfl ?_
    exact ⟨_, _, ns, by rw [HLG.out]; rfl, by unfold rlN; rw [if_neg (by omega)]; exact HNS.out, hD⟩

end Go.Proofs.YtpkicliimhflgaaGreatDoor
namespace Go.Proofs.YtpkicliimhflgaaGreatDoor
open Go.ChangeShapes Go.WideShapes Go.ChangeAt Go.RowKit

set_option maxRecDepth 100000 in
set_option maxHeartbeats 4000000 in
theorem rls_add (tx : ByteArray) (v : Value) (ss : List Shv) (nv ov : Value) (b : Bd) (hx : tx.size ≤ 1048576) (w : World) (hb : BdIn w.heap.size w nv ov b) (hfit : Fits b) (hs : ReadH w.heap.size w v ss) :
    Calls Tryz.prog 23 #[.agg #[nv, ov], v, .agg #[.int .i64 2, .string tx]] w (RlOut b (flatR ss) 2 tx w) := by
  obtain ⟨nsb, hnsb, hrn, hro⟩ := hb
  obtain ⟨na, nc, rfl, hq1, hq2⟩ := hrn.form
  obtain ⟨oa, oc, rfl, -⟩ := reads_form hro
  have hbd : BdIn w.heap.size w (.slice na nsb.length nc) (.slice oa b.opn.length oc) b := ⟨nsb, hnsb, hrn, hro⟩
  have hlb : nsb.length = b.nodes.length := by rw [← hnsb, List.length_map]
  obtain ⟨n, hn⟩ : ∃ n, nsb.length = n := ⟨_, rfl⟩
  obtain ⟨on, hon⟩ : ∃ n, b.opn.length = n := ⟨_, rfl⟩
  rw [hn, hon] at hbd; rw [hn] at hlb; rw [hn, hon]; have HLB := Lib.hid hlb; clear hrn hro hnsb hn hq1 hq2 hon hlb
  obtain ⟨W0, hW0⟩ : ∃ W, ((w.alloc (.cells #[.slice na n nc, .slice oa on oc] 41)).alloc (.cells #[.int .i64 2, .string tx] 51)).alloc (.cells #[.slice none 0 0, .slice none 0 0] 41) = W := ⟨_, rfl⟩
  have HB := Lib.hid (show Below w.heap.size w W0 by rw [← hW0]; exact bl_aw (bl_aw (bl_aw (Below.refl _ _) _) _) _)
  have XB := Lib.hid (show Box2 W0 w.heap.size (.slice na n nc) (.slice oa on oc) by rw [← hW0]; exact box3_0 _ _ _ _)
  have XL := Lib.hid (show W0.heap[w.heap.size + 1]? = some (.cells #[.int .i64 2, .string tx] 51 (0, 0)) by rw [← hW0]; exact box3_1 _ _ _ _)
  have XR := Lib.hid (show Box2 W0 (w.heap.size + 1 + 1) (.slice none 0 0) (.slice none 0 0) by rw [← hW0]; exact box3_2 _ _ _ _)
  have HW0 := Lib.hid hW0; clear hW0
  have HBI := Lib.hid (hbd.up HB.out); have HRH := Lib.hid (hs.up HB.out); have hNL := hfit.1; have hnl := ndW_len b.nodes; clear hbd hs
  have HCP := Lib.hid (copy_spec _ _ b W0 HBI.out hfit)
  obtain ⟨⟨y0, y1⟩, -, -⟩ := XB.out.cells
  go_enter Tryz.func23, Tryz.ntmps23
  go_wp2_with fail
  rw [HW0.out]
  clear y0 y1
  refine HCP.out.mono ?_
  rintro e w1 ⟨nv1, ov1, rfl, hat⟩
  clear HCP
  obtain ⟨ns, hns, hmn, hmo⟩ := hat
  have hbm : BdM W0.heap.size W0 w1 nv1 ov1 ns b.opn := ⟨hmn, hmo⟩
  have hb1 : Below W0.heap.size W0 w1 := hmo.below
  obtain ⟨na1, nc1, rfl⟩ := mineN_form hmn
  obtain ⟨oa1, oc1, rfl⟩ := mine_form hmo
  obtain ⟨n1, hn1⟩ : ∃ n, ns.length = n := ⟨_, rfl⟩
  obtain ⟨o1, ho1⟩ : ∃ n, b.opn.length = n := ⟨_, rfl⟩
  rw [hn1, ho1] at hbm; rw [hn1, ho1]
  have hlen0 : ns.length = b.nodes.length := by rw [← hns, List.length_map]
  have hlen : ns.length ≤ 68719476736 := by omega
  have hnn : n1 = n := by have := HLB.out; omega
  clear hlen0
  replace HB := Lib.hid (HB.out.trans (hb1.mono HB.out.size))
  have hdn := hbm.down HB.out (show w.heap.size ≤ W0.heap.size from by have := heap_lt XL.out; omega)
  replace XL := Lib.hid (below_heap hb1 (heap_lt XL.out) XL.out); replace XR := Lib.hid (XR.out.later hb1); replace XB := Lib.hid (XB.out.later hb1); replace HRH := Lib.hid (HRH.out.up hb1); replace HBI := Lib.hid (HBI.out.up hb1)
  have HNS := Lib.hid hns; have HLN := Lib.hid hlen; have HBM := Lib.hid hdn; have HN1 := Lib.hid hn1; have HNN := Lib.hid hnn; have HNL := Lib.hid (show b.nodes.length ≤ 68719476736 by omega); clear hmn hmo hbm hb1 hdn hn1 ho1 hns hlen hNL hnl hnn
  obtain ⟨W1, hW1⟩ : ∃ W, w1.alloc (.cells #[.slice na1 n1 nc1, .slice oa1 o1 oc1] 41) = W := ⟨_, rfl⟩
  have hb2 : Below w1.heap.size w1 W1 := by rw [← hW1]; exact bl_aw (Below.refl _ _) _
  have XC := Lib.hid (show Box2 W1 w1.heap.size (.slice na1 n1 nc1) (.slice oa1 o1 oc1) by rw [← hW1]; exact Box2.new _ _ _)
  have PRC := Lib.hid XR.out.lt
  replace XL := Lib.hid (below_heap hb2 (heap_lt XL.out) XL.out); replace XR := Lib.hid (XR.out.later hb2); replace XB := Lib.hid (XB.out.later hb2); replace HRH := Lib.hid (HRH.out.up hb2); replace HBI := Lib.hid (HBI.out.up hb2); replace HBM := Lib.hid (HBM.out.later hb2); replace HB := Lib.hid (HB.out.trans (hb2.mono HB.out.size)); have HW1 := Lib.hid hW1; clear hb2 hW1
  go_upto_region 2 with (fail)
  rw [HW1.out]
  obtain ⟨C, hC⟩ : ∃ c, w1.heap.size = c := ⟨_, rfl⟩
  rw [hC] at XC PRC; try simp only [hC]
  clear hC
  obtain ⟨⟨c0, c1⟩, -, -⟩ := XC.out.cells; obtain ⟨⟨b0, b1⟩, -, -⟩ := XB.out.cells; obtain ⟨⟨r0, r1⟩, f0, f1⟩ := XR.out.cells; have l0 := box_cell XL.out (j := 0) rfl; have l1 := box_cell XL.out (j := 1) rfl
  have lt := PRC.out
  have HND := Lib.hid (show (insN ns ++ insN [((⟨tx, ⟨#[]⟩, 0, []⟩, svNil) : Nv)]).Nodup from by have := HBM.out.n.nod; simpa [insN, sv, svNil, Value.ownBlock] using this)
  go_wp2_with fail
  refine (lin_any _ _ _ _).mono ?_
  rintro e wz ⟨rfl, rfl⟩
  by_cases h1 : 1 ≤ n ∧ n ≤ 39
  · have e1 : inB n 1 39 = true := inB_yes (by omega) (by omega)
    rw [e1]; clear e1
    have HL1 := Lib.hid h1; clear h1
    go_wp2_with fail
    refine (nm_spec tx (by omega) _).mono ?_
    rintro e wz ⟨rfl, rfl⟩
    cases e2 : isNm tx with
    | false =>
      have HE2 := Lib.hid e2; clear e2
      go_wp2_with fail
      obtain ⟨w9, hw9⟩ : ∃ x, (W1.setCell ⟨w.heap.size + 1 + 1, 0, none⟩ (.slice na1 n1 nc1)).setCell ⟨w.heap.size + 1 + 1, 1, none⟩ (.slice oa1 o1 oc1) = x := ⟨_, rfl⟩
      rw [hw9]
      have hX := (XR.out.set0 (.slice na1 n1 nc1)).set1 (.slice oa1 o1 oc1)
      have hD := ((HBM.out).setT (o := 0) (u := .slice na1 n1 nc1) XR.out (show w.heap.size ≤ w.heap.size + 1 + 1 by omega)).setT (o := 1) (u := .slice oa1 o1 oc1) (XR.out.set0 _) (show w.heap.size ≤ w.heap.size + 1 + 1 by omega)
      rw [hw9] at hX hD
      obtain ⟨⟨p0, p1⟩, -, -⟩ := hX.cells
      refine bodyPost_ret (v := .tuple #[.agg #[.slice na1 n1 nc1, .slice oa1 o1 oc1], .string ⟨#[]⟩, .string ⟨#[]⟩]) (by simp [results, Tryz.results23, go_sem, p0, p1]) rfl ?_
      exact ⟨_, _, ns, rfl, by unfold rlN; rw [if_neg (by rintro ⟨_, _, _, h3⟩; rw [HE2.out] at h3; cases h3)]; exact HNS.out, hD⟩
    | true =>
      have HE2 := Lib.hid e2; clear e2
      go_wp2_with (at_builtin; refine wpList_appNG rfl _ _ rfl w.heap.size w _ ns rfl (HBM.out.n.later ((Below.refl _ _).alloc (Nat.le_refl _) _)) _ _ [((⟨tx, ⟨#[]⟩, 0, []⟩, svNil) : Nv)] rfl (readsN_at W1 W1.heap.size rfl (⟨tx, ⟨#[]⟩, 0, []⟩, svNil) rfl rfl rfl rfl) ?ci HND.out ?cl ?_)
      case ci => intro p hp; rw [List.mem_singleton] at hp; subst hp; exact ownK_nil _ _ _ _ _ _
      case cl => have := HLN.out; simp; omega
      intro v5 w5 hm5 hg5
      obtain ⟨a5, c5, hv5⟩ := mineN_form hm5
      obtain ⟨n5, hn5⟩ : ∃ m, (ns ++ [((⟨tx, ⟨#[]⟩, 0, []⟩, svNil) : Nv)]).length = m := ⟨_, rfl⟩
      rw [hn5] at hv5; subst hv5
      have hM4 := HBM.out.later ((Below.refl _ _).alloc (Nat.le_refl _) (.cells #[.string tx, .string ⟨#[]⟩, .int .i64 0, .slice none 0 0] 117))
      have hk5 := keep_of hM4.n.row.row hg5
      have ZC := Lib.hid ((XC.out.alloc (.cells #[.string tx, .string ⟨#[]⟩, .int .i64 0, .slice none 0 0] 117)).keep hk5 bd_ne.1); have ZR := Lib.hid ((XR.out.alloc (.cells #[.string tx, .string ⟨#[]⟩, .int .i64 0, .slice none 0 0] 117)).keep hk5 bd_ne.1); have HB5 := Lib.hid (hM4.node hm5 hg5)
      obtain ⟨⟨d5, d6⟩, f5, f6⟩ := ZC.out.cells; obtain ⟨⟨g5, g6⟩, h5, h6⟩ := ZR.out.cells; have bc5 := ZC.out.lt
      clear hm5 hg5 hM4 hk5 hn5
      go_wp2_with fail
      clear d5 d6 f5 f6 g5 g6 h5 h6 bc5 lt
      obtain ⟨w9, hw9⟩ : ∃ x, ((w5.setCell ⟨C, 0, none⟩ (.slice a5 n5 c5)).setCell ⟨w.heap.size + 1 + 1, 0, none⟩ (.slice a5 n5 c5)).setCell ⟨w.heap.size + 1 + 1, 1, none⟩ (.slice oa1 o1 oc1) = x := ⟨_, rfl⟩
      rw [hw9]
      have hlc : w.heap.size ≤ C := by have := PRC.out; omega
      have YR := ZR.out.far (show w.heap.size + 1 + 1 ≠ C by have := PRC.out; omega) (o := 0) (.slice a5 n5 c5)
      have hX := (YR.set0 (.slice a5 n5 c5)).set1 (.slice oa1 o1 oc1)
      have hD := ((HB5.out.setT (u := .slice a5 n5 c5) (o := 0) ZC.out hlc).setT (o := 0) (u := .slice a5 n5 c5) YR (show w.heap.size ≤ w.heap.size + 1 + 1 by omega)).setT (o := 1) (u := .slice oa1 o1 oc1) (YR.set0 _) (show w.heap.size ≤ w.heap.size + 1 + 1 by omega)
      rw [hw9] at hX hD
      obtain ⟨⟨p0, p1⟩, -, -⟩ := hX.cells
      refine bodyPost_ret (v := .tuple #[.agg #[.slice a5 n5 c5, .slice oa1 o1 oc1], .string ⟨#[]⟩, .string ⟨#[]⟩]) (by simp [results, Tryz.results23, go_sem, p0, p1]) rfl ?_
      exact ⟨_, _, _, rfl, by rw [List.map_append, HNS.out]; unfold rlN; rw [if_pos ⟨rfl, by rw [← HLB.out]; exact HL1.out.1, by rw [← HLB.out]; exact HL1.out.2, HE2.out⟩]; rfl, hD⟩
  · have e1 : inB n 1 39 = false := inB_no (by omega)
    rw [e1]; clear e1
    have HL1 := Lib.hid h1; clear h1
    go_wp2_with fail
    obtain ⟨w9, hw9⟩ : ∃ x, (W1.setCell ⟨w.heap.size + 1 + 1, 0, none⟩ (.slice na1 n1 nc1)).setCell ⟨w.heap.size + 1 + 1, 1, none⟩ (.slice oa1 o1 oc1) = x := ⟨_, rfl⟩
    rw [hw9]
    have hX := (XR.out.set0 (.slice na1 n1 nc1)).set1 (.slice oa1 o1 oc1)
    have hD := ((HBM.out).setT (o := 0) (u := .slice na1 n1 nc1) XR.out (show w.heap.size ≤ w.heap.size + 1 + 1 by omega)).setT (o := 1) (u := .slice oa1 o1 oc1) (XR.out.set0 _) (show w.heap.size ≤ w.heap.size + 1 + 1 by omega)
    rw [hw9] at hX hD
    obtain ⟨⟨p0, p1⟩, -, -⟩ := hX.cells
    refine bodyPost_ret (v := .tuple #[.agg #[.slice na1 n1 nc1, .slice oa1 o1 oc1], .string ⟨#[]⟩, .string ⟨#[]⟩]) (by simp [results, Tryz.results23, go_sem, p0, p1]) rfl ?_
    exact ⟨_, _, ns, rfl, by unfold rlN; rw [if_neg (by rintro ⟨_, a, b, _⟩; rw [← HLB.out] at a b; exact HL1.out ⟨a, b⟩)]; exact HNS.out, hD⟩

end Go.Proofs.YtpkicliimhflgaaGreatDoor
namespace Go.Proofs.YtpkicliimhflgaaGreatDoor
open Go.ChangeShapes Go.WideShapes Go.ChangeAt Go.RowKit

theorem runLine_spec (op : Int) (tx : ByteArray) (v : Value) (ss : List Shv) (nv ov : Value) (b : Bd) (hx : tx.size ≤ 1048576) (w : World) (hb : BdIn w.heap.size w nv ov b) (hfit : Fits b) (hs : ReadH w.heap.size w v ss) (hf : ShFit ss) :
    Calls Tryz.prog 23 #[.agg #[nv, ov], v, .agg #[.int .i64 op, .string tx]] w (RlOut b (flatR ss) op tx w) := by
  rcases (show op = 1 ∨ op = 2 ∨ op = 3 ∨ op = 4 ∨ op = 5 ∨ (op ≠ 1 ∧ op ≠ 2 ∧ op ≠ 3 ∧ op ≠ 4 ∧ op ≠ 5) by omega) with rfl | rfl | rfl | rfl | rfl | h
  · exact rls_write tx v ss nv ov b hx w hb hfit hs
  · exact rls_add tx v ss nv ov b hx w hb hfit hs
  · exact rls_count tx v ss nv ov b hx w hb hfit hs
  · exact rls_look tx v ss nv ov b hx w hb hfit hs hf
  · exact rls_say tx v ss nv ov b hx w hb hfit hs
  · exact rls_none op tx v ss nv ov b w hb hfit hs h

end Go.Proofs.YtpkicliimhflgaaGreatDoor
namespace Go.Proofs.YtpkicliimhflgaaGreatDoor
open Go.ChangeShapes Go.WideShapes Go.ChangeAt Go.RowKit

/-- What a function answers that changes a builder in a box: a number, and the builder then. -/
def BOut (B : Nat) (w0 : World) (c : Nat) (b : Bd) (z : Int) (w : World) (e : Ending) (w' : World) : Prop :=
  ∃ nv ov, e = .returned (.int .i64 z) ∧ Box2 w' c nv ov ∧ Upd c w w' ∧ BdAt B w0 w' nv ov b

theorem cpA_up {w X : World} {v : Value} {xs : List At} (hr : ReadsK encA 2 w.heap.size w v xs) (hl : xs.length ≤ 68719476736) (hb : Below w.heap.size w X) :
    Calls Tryz.prog 113 #[v] X fun e w' => ∃ xa xn xc, e = .returned (.slice xa xn xc) ∧ OwnK encA 2 178 w.heap.size w'.heap.size w' (.slice xa xn xc) xs ∧ Below w.heap.size w w' := by
  refine (cpA_impl v _ xs X (hr.below hb (Nat.le_refl _)) hb.size (by omega)).mono ?_
  rintro e w' ⟨v', rfl, ho, hb'⟩
  obtain ⟨⟨a, n, c⟩, rfl⟩ := ho.sv
  exact ⟨a, n, c, rfl, ho.mono hb.size (Nat.le_refl _), hb.trans (hb'.mono hb.size)⟩
theorem openB_full {b : Bd} {n : ByteArray} {ats : List (ByteArray × ByteArray)} (hv : isVoid n = false) (h8 : 8 ≤ b.opn.length) : openB b n ats = (b, -1) := by
  unfold openB; rw [if_pos ⟨hv, h8⟩]
theorem openB_no {b : Bd} {n : ByteArray} {ats : List (ByteArray × ByteArray)} (hr : roomB b = false) : openB b n ats = (b, -1) := by
  unfold openB; split
  · rfl
  · rfl
theorem openB_yes {b : Bd} {n : ByteArray} {ats : List (ByteArray × ByteArray)} (hv : isVoid n = false) (h8 : ¬ 8 ≤ b.opn.length) (hr : roomB b = true) : openB b n ats = (⟨b.nodes ++ [⟨n, ⟨#[]⟩, lastOpen b, ats⟩], b.opn ++ [(b.nodes.length : Int)]⟩, (b.nodes.length : Int)) := by
  unfold openB; rw [if_neg (fun h => h8 h.2), if_neg (by rw [hr]; decide), if_pos hv]
theorem openB_void {b : Bd} {n : ByteArray} {ats : List (ByteArray × ByteArray)} (hv : isVoid n = true) (hr : roomB b = true) : openB b n ats = (⟨b.nodes ++ [⟨n, ⟨#[]⟩, lastOpen b, ats⟩], b.opn⟩, (b.nodes.length : Int)) := by
  unfold openB; rw [if_neg (fun h => by rw [hv] at h; exact absurd h.1 (by decide)), if_neg (by rw [hr]; decide), if_neg (by rw [hv]; decide)]

end Go.Proofs.YtpkicliimhflgaaGreatDoor
namespace Go.Proofs.YtpkicliimhflgaaGreatDoor
open Go.ChangeShapes Go.WideShapes Go.ChangeAt Go.RowKit

theorem fmtAs_one (a : At) : fmtAs [a] = 32 :: a.1.data.toList ++ 61 :: a.2.data.toList := by
  show 32 :: _ ++ _ ++ fmtAs [] = _
  simp [fmtAs]
theorem fmtAs_take {xs : List At} {j : Nat} {a : At} (h : xs[j]? = some a) : fmtAs (xs.take (j + 1)) = fmtAs (xs.take j) ++ (32 :: a.1.data.toList ++ 61 :: a.2.data.toList) := by
  rw [List.take_add_one, h, Option.toList_some, fmtAs_append, fmtAs_one]
theorem fmtAs_len : ∀ xs : List At, (fmtAs xs).length = 2 * xs.length + (xs.map fun a => a.1.size + a.2.size).sum
  | [] => rfl
  | a :: xs => by
    show (32 :: _ ++ _ ++ fmtAs xs).length = _
    rw [List.length_append, List.length_append, List.length_cons, List.length_cons, fmtAs_len xs, List.map_cons, List.sum_cons, List.length_cons, size_list, size_list]; omega
theorem fmtAs_le {xs : List At} (j : Nat) : (fmtAs (xs.take j)).length ≤ (fmtAs xs).length := by
  conv => rhs; rw [← List.take_append_drop j xs, fmtAs_append, List.length_append]
  omega
theorem fmtAs_at {xs : List At} {j : Nat} {a : At} (h : xs[j]? = some a) : a.1.size + a.2.size ≤ (fmtAs xs).length := by
  have h1 := fmtAs_le (xs := xs) (j + 1)
  rw [fmtAs_take h] at h1
  simp only [List.length_append, List.length_cons, size_list] at h1
  omega
/-- The form up to the first j attributes. -/
def fmtTo (n : ByteArray) (xs : List At) (j : Nat) : ByteArray := ofL (60 :: (n.data.toList ++ fmtAs (xs.take j)))
theorem fmtTo_zero (n : ByteArray) (xs : List At) : (⟨#[60]⟩ : ByteArray) ++ n = fmtTo n xs 0 := bytesEq (by rw [append_list, fmtTo, ofL_list, List.take_zero]; simp [fmtAs])
theorem fmtTo_succ {n : ByteArray} {xs : List At} {j : Nat} {a : At} (h : xs[j]? = some a) : fmtTo n xs j ++ ⟨#[32]⟩ ++ a.1 ++ ⟨#[61]⟩ ++ a.2 = fmtTo n xs (j + 1) := bytesEq (by
  rw [append_list, append_list, append_list, append_list, fmtTo, fmtTo, ofL_list, ofL_list, fmtAs_take h]
  simp)
theorem fmtTo_size {n : ByteArray} {xs : List At} (j : Nat) (h : n.size + (fmtAs xs).length ≤ 1073741824) : (fmtTo n xs j).size ≤ 1073741825 := by
  rw [fmtTo, ofL_size, List.length_cons, List.length_append, size_list]
  have := fmtAs_le (xs := xs) j
  omega
theorem fmtT_open (n : ByteArray) (xs : List At) (t : ByteArray) {j : Nat} (h : xs.length ≤ j) : fmtTo n xs j ++ ⟨#[62]⟩ = ofL (fmtT ⟨1, n, xs, t⟩) := bytesEq (by
  rw [append_list, fmtTo, ofL_list, ofL_list, List.take_of_length_le h]
  simp [fmtT])
theorem fmtT_close (n : ByteArray) (xs : List At) (t : ByteArray) : (⟨#[60, 47]⟩ : ByteArray) ++ n ++ ⟨#[62]⟩ = ofL (fmtT ⟨2, n, xs, t⟩) := bytesEq (by
  rw [append_list, append_list, ofL_list]
  simp [fmtT])
theorem fmtT_text (n : ByteArray) (xs : List At) (t : ByteArray) : t = ofL (fmtT ⟨3, n, xs, t⟩) := by
  rw [show fmtT ⟨3, n, xs, t⟩ = t.data.toList from rfl, ofL_of]
theorem fmtT_none {k : Int} (n : ByteArray) (xs : List At) (t : ByteArray) (h1 : k ≠ 1) (h2 : k ≠ 2) (h3 : k ≠ 3) : (⟨#[]⟩ : ByteArray) = ofL (fmtT ⟨k, n, xs, t⟩) := by
  unfold fmtT
  rw [if_neg h1, if_neg h2, if_neg h3]; rfl

end Go.Proofs.YtpkicliimhflgaaGreatDoor
namespace Go.Proofs.YtpkicliimhflgaaGreatDoor
open Go.ChangeShapes Go.WideShapes Go.ChangeAt Go.RowKit

/-- The words of a tag. -/
def attrW (a : At) : ByteArray := a.1 ++ ⟨#[61]⟩ ++ a.2
theorem join_words (n : ByteArray) (xs : List At) : Lib.join ((n :: xs.map attrW).map (·.data.toList)) [32] = n.data.toList ++ fmtAs xs := by
  rw [List.map_cons, Lib.join_cons]
  congr 1
  unfold Lib.joinTail
  induction xs with
  | nil => rfl
  | cons a xs ih =>
    rw [List.map_cons, List.map_cons, List.map_cons, List.flatten_cons, ih]
    show _ = 32 :: _ ++ _ ++ fmtAs xs
    rw [attrW, append_list, append_list]
    simp
theorem words_more {n : ByteArray} {xs : List At} {j : Nat} {a : At} (h : xs[j]? = some a) : n :: ((xs.map attrW).take j ++ [a.1 ++ ⟨#[61]⟩ ++ a.2]) = n :: (xs.map attrW).take (j + 1) := by
  rw [List.take_add_one, List.getElem?_map, h]; rfl
theorem fmt_joined (n : ByteArray) (xs : List At) (t : ByteArray) : (⟨#[60]⟩ : ByteArray) ++ ⟨(n.data.toList ++ fmtAs xs).toArray⟩ ++ ⟨#[62]⟩ = ofL (fmtT ⟨1, n, xs, t⟩) := bytesEq (by
  rw [append_list, append_list, ofL_list]
  simp [fmtT])

theorem readsS_at (w : World) (H : Nat) (hH : w.heap.size = H) (s : ByteArray) : ReadsK encS 1 (H + 1) (w.alloc (.cells #[.string s] 9)) (.slice (some ⟨H, 0, none⟩) 1 1) [s] := by
  subst hH; exact readsS_one w s

end Go.Proofs.YtpkicliimhflgaaGreatDoor
namespace Go.Proofs.YtpkicliimhflgaaGreatDoor
open Go.ChangeShapes Go.WideShapes Go.ChangeAt Go.RowKit

theorem BdAt.lens {B : Nat} {w0 w : World} {nv ov : Value} {b : Bd} (h : BdAt B w0 w nv ov b) : ∃ a n c a' n' c', nv = .slice a n c ∧ ov = .slice a' n' c' := by
  obtain ⟨ns, _, hm, ho⟩ := h
  obtain ⟨a, c, e⟩ := mineN_form hm
  obtain ⟨a', c', e'⟩ := mine_form ho
  exact ⟨_, _, _, _, _, _, e, e'⟩
theorem BOut.from {B : Nat} {w0 w w1 : World} {c : Nat} {b : Bd} {z : Int} {e : Ending} {w' : World} (h : BOut B w0 c b z w1 e w') (hu : Upd c w w1) : BOut B w0 c b z w e w' := by
  obtain ⟨nv, ov, h1, h2, h3, h4⟩ := h
  exact ⟨nv, ov, h1, h2, hu.trans h3, h4⟩

theorem addToks_len : ∀ (ts : List Tok) (b : Bd), (addToks b ts).nodes.length ≤ max 40 b.nodes.length ∧ (addToks b ts).opn.length ≤ max 8 b.opn.length
  | [], b => by rw [addToks]; omega
  | t :: ts, b => by
    have h := addToks_len ts (addTok b t).1
    have h2 := (addTok_W b t).2
    rw [addToks]; omega
theorem addToks_more {b : Bd} {ts : List Tok} {k : Nat} {t : Tok} (h : ts[k]? = some t) : addToks b (ts.take (k + 1)) = (addTok (addToks b (ts.take k)) t).1 := by
  rw [take_moreN h, addToks_append]

/-- The token's cells. -/
theorem ReadT.at {hi n cap k : Nat} {w : World} {a : Option Addr} {ts : List Tv} {p : Tv} (h : ReadT hi w (.slice a n cap) ts) (hk : ts[k]? = some p) :
    ∃ g off, a = some ⟨g, off, none⟩ ∧ g < hi ∧ w.cell? ⟨g, off + k * 4, none⟩ = some (.int .i64 p.1.kind) ∧ w.cell? ⟨g, off + k * 4 + 1, none⟩ = some (.string p.1.name) ∧ w.cell? ⟨g, off + k * 4 + 2, none⟩ = some (sv p.2) ∧ w.cell? ⟨g, off + k * 4 + 3, none⟩ = some (.string p.1.text) := by
  obtain ⟨⟨a', cap', e, h1, h2, h3, h4⟩, _⟩ := h
  cases e
  have hlt := (List.getElem?_eq_some_iff.1 hk).1
  rcases h4 with h4 | ⟨g, off, rfl, hg, hc⟩
  · omega
  · exact ⟨g, off, rfl, hg, hc k p hk 0 (by omega), hc k p hk 1 (by omega), hc k p hk 2 (by omega), hc k p hk 3 (by omega)⟩
theorem ReadT.form {hi : Nat} {w : World} {v : Value} {ts : List Tv} (h : ReadT hi w v ts) : ∃ a cap, v = .slice a ts.length cap ∧ ts.length ≤ cap ∧ cap ≤ 9223372036854775807 := by
  obtain ⟨⟨a, cap, e, h1, h2, _⟩, _⟩ := h
  exact ⟨a, cap, e, h1, h2⟩

end Go.Proofs.YtpkicliimhflgaaGreatDoor
namespace Go.Proofs.YtpkicliimhflgaaGreatDoor
open Go.ChangeShapes Go.WideShapes Go.ChangeAt Go.RowKit

/-- How much tokens add. -/
def tkW : List Tok → Nat
  | [] => 0
  | t :: ts => 3 + 2 * t.attrs.length + tkW ts
theorem tkW_take : ∀ (ts : List Tok) (k : Nat), tkW (ts.take k) ≤ tkW ts
  | [], k => by rw [List.take_nil]; exact Nat.le_refl _
  | t :: ts, 0 => Nat.zero_le _
  | t :: ts, k + 1 => by
    have := tkW_take ts k
    rw [List.take_succ_cons, tkW, tkW]; omega
theorem tkW_at : ∀ {ts : List Tok} {t : Tok}, t ∈ ts → 3 + 2 * t.attrs.length ≤ tkW ts
  | [], t, h => by cases h
  | u :: ts, t, h => by
    rw [tkW]
    rcases List.mem_cons.1 h with e | h2
    · rw [e]; omega
    · have := tkW_at h2; omega
theorem addToks_W : ∀ (ts : List Tok) (b : Bd), ndW (addToks b ts).nodes ≤ ndW b.nodes + tkW ts
  | [], b => by rw [addToks, tkW]; omega
  | t :: ts, b => by
    have h := addToks_W ts (addTok b t).1
    have h2 := (addTok_W b t).1
    rw [addToks, tkW]; omega
theorem fits_take {b : Bd} {ts : List Tok} (h : ndW b.nodes + tkW ts ≤ 68719476736) (ho : b.opn.length ≤ 68719476736) (k : Nat) : Fits (addToks b (ts.take k)) := by
  have h1 := addToks_W (ts.take k) b
  have h2 := tkW_take ts k
  have h3 := (addToks_len (ts.take k) b).2
  exact ⟨by omega, by omega⟩
def AddsOut (b : Bd) (ts : List Tok) (w : World) (e : Ending) (w' : World) : Prop := ∃ nv ov, e = .returned (.agg #[nv, ov]) ∧ BdAt w.heap.size w w' nv ov (addToks b ts)
theorem tok_at {tvs : List Tv} {ts : List Tok} (h : tvs.map Prod.fst = ts) {k : Nat} {p : Tv} (hp : tvs[k]? = some p) : ts[k]? = some p.1 := by
  rw [← h, List.getElem?_map, hp]; rfl

set_option maxRecDepth 100000 in
set_option maxHeartbeats 8000000 in
theorem adds_spec (nv ov : Value) (b : Bd) (lv : Value) (tvs : List Tv) (ts : List Tok) (hts : tvs.map Prod.fst = ts) (w : World) (hb : BdIn w.heap.size w nv ov b) (hl : ReadT w.heap.size w lv tvs) (hf : ndW b.nodes + tkW ts ≤ 68719476736) (hfo : b.opn.length ≤ 68719476736) :
    Calls Tryz.prog 138 #[.agg #[nv, ov], lv] w (AddsOut b ts w) := by
  obtain ⟨la, lc, rfl, hl1, hl2⟩ := hl.form
  obtain ⟨n, hn⟩ : ∃ n, tvs.length = n := ⟨_, rfl⟩
  rw [hn] at hl hl1 ⊢
  have htl : ts.length = n := by rw [← hts, List.length_map, hn]
  obtain ⟨W0, hW0⟩ : ∃ W, (w.alloc (.cells #[nv, ov] 41)).alloc (.cells #[.slice none 0 0, .slice none 0 0] 41) = W := ⟨_, rfl⟩
  have q1 : Box2 W0 w.heap.size nv ov := by rw [← hW0]; exact (Box2.new _ _ _).alloc _
  have q2 : Box2 W0 (w.heap.size + 1) (.slice none 0 0) (.slice none 0 0) := by rw [← hW0, ← size_alloc w]; exact Box2.new _ _ _
  have hB0 : Below w.heap.size w W0 := by rw [← hW0]; exact ((Below.refl _ _).alloc (Nat.le_refl _) _).alloc (by rw [size_alloc]; omega) _
  have hbi := (hb.below hB0 (Nat.le_refl _)).mono hB0.size
  have HCP := Lib.hid (copy_spec nv ov b W0 hbi ⟨by omega, hfo⟩)
  have HW0 := Lib.hid hW0; have Q2 := Lib.hid q2; have HB0 := Lib.hid hB0; have HL := Lib.hid hl; have HN := Lib.hid hn; have HTL := Lib.hid htl; have HTS := Lib.hid hts
  have HF := Lib.hid hf; have HFO := Lib.hid hfo
  obtain ⟨a0, n0, c0', rfl⟩ : ∃ a n c, nv = .slice a n c := by obtain ⟨ns, _, hrn, _⟩ := hb; obtain ⟨a, c, e, _⟩ := hrn.form; exact ⟨_, _, _, e⟩
  obtain ⟨a1, n1, c1', rfl⟩ : ∃ a n c, ov = .slice a n c := by obtain ⟨ns, _, _, hro⟩ := hb; obtain ⟨a, c, e, _⟩ := reads_form hro; exact ⟨_, _, _, e⟩
  clear hb hl hf hfo hW0 q1 q2 hB0 hbi hn htl hts
  go_enter Tryz.func138, Tryz.ntmps138
  go_wp2_with fail
  rw [HW0.out]
  refine HCP.out.mono ?_
  rintro e w1 ⟨nv1, ov1, rfl, hb1⟩
  obtain ⟨na, nn, nc, oa, on, oc, rfl, rfl⟩ := hb1.lens
  have hbw := hb1.below
  obtain ⟨W1, hW1⟩ : ∃ W, w1.alloc (.cells #[.slice na nn nc, .slice oa on oc] 41) = W := ⟨_, rfl⟩
  have hb2 : Below w1.heap.size w1 W1 := by rw [← hW1]; exact (Below.refl _ _).alloc (Nat.le_refl _) _
  have q3 : Box2 W1 w1.heap.size (.slice na nn nc) (.slice oa on oc) := by rw [← hW1]; exact Box2.new _ _ _
  have HBD := Lib.hid ((hb1.lower HB0.out HB0.out.size).later hb2)
  have P2 := Lib.hid ((Q2.out.later hbw).later hb2)
  have P3 := Lib.hid q3
  obtain ⟨C, hC⟩ : ∃ C, w1.heap.size = C := ⟨_, rfl⟩
  have HC := Lib.hid (show w.heap.size + 1 < C by have := hbw.size; have := Q2.out.lt; omega)
  rw [hC] at P3
  have HCE := Lib.hid hC; have HW1 := Lib.hid hW1
  clear hb1 hbw hW1 hb2 q3 hC
  go_upto_region 2 with (fail)
  rw [HW1.out, HCE.out]
  go_wp2_with fail
  go_loopw [6] (fun i wr => ∃ (k : Nat) (na : Option Addr) (nn nc : Nat) (oa : Option Addr) (on oc : Nat), k ≤ n ∧ i = .int .i64 k ∧ Box2 wr C (.slice na nn nc) (.slice oa on oc) ∧ Box2 wr (w.heap.size + 1) (.slice none 0 0) (.slice none 0 0) ∧ BdAt w.heap.size w wr (.slice na nn nc) (.slice oa on oc) (addToks b (ts.take k)))
    (fun i _ => n - (intOf i).toNat)
  case atStart => exact ⟨0, _, _, _, _, _, _, Nat.zero_le _, rfl, P3.out, P2.out, by rw [List.take_zero]; exact HBD.out⟩
  case round =>
    obtain ⟨k, na, nn, nc, oa, on, oc, hk, rfl, hq3, hq2, hbd⟩ := hrel
    obtain ⟨⟨d2, d3⟩, fd2, fd3⟩ := hq3.cells
    have bC := hq3.lt
    by_cases hlt : (k : Int) < (n : Int)
    · obtain ⟨p, hp⟩ : ∃ p, tvs[k]? = some p := ⟨_, List.getElem?_eq_getElem (by rw [HN.out]; omega)⟩
      obtain ⟨g, off, rfl, hg, c0, c1, c2, c3⟩ := (HL.out.below hbd.below (Nat.le_refl _)).at hp
      have hpa := (HL.out.below hbd.below (Nat.le_refl _)).2 p (List.mem_of_getElem? hp)
      have hpt := tok_at HTS.out hp
      have hal : p.1.attrs.length ≤ 68719476736 := by have := tkW_at (List.mem_of_getElem? hpt); have := HF.out; omega
      obtain ⟨⟨⟨kd, nm, ats, tx⟩, ⟨ta, tn, tc⟩⟩, rfl⟩ : ∃ q : Tv, p = q := ⟨p, rfl⟩
      replace c0 : _ = some (Value.int .i64 kd) := c0
      replace c1 : _ = some (Value.string nm) := c1
      replace c2 : _ = some (Value.slice ta tn tc) := c2
      replace c3 : _ = some (Value.string tx) := c3
      have hsz := hbd.size
      have bg : g < wr.heap.size := by omega
      have hk0 : (0 : Int) ≤ (k : Int) := by omega
      have hfit := fits_take HF.out HFO.out k
      have HADD := Lib.hid (fun (X : World) (hX : Below wr.heap.size wr X) => show Calls Tryz.prog 107 #[.agg #[.slice na nn nc, .slice oa on oc], .agg #[.int .i64 kd, .string nm, .slice ta tn tc, .string tx]] X fun e wA => ∃ naA nnA ncA oaA onA ocA z, e = .returned (.tuple #[.agg #[.slice naA nnA ncA, .slice oaA onA ocA], .int .i64 z]) ∧ Box2 wA C (.slice na nn nc) (.slice oa on oc) ∧ Box2 wA (w.heap.size + 1) (.slice none 0 0) (.slice none 0 0) ∧ BdAt w.heap.size w wA (.slice naA nnA ncA) (.slice oaA onA ocA) (addTok (addToks b (ts.take k)) ⟨kd, nm, ats, tx⟩).1 from by
        refine (add_spec (.slice na nn nc) (.slice oa on oc) (addToks b (ts.take k)) ⟨kd, nm, ats, tx⟩ ta tn tc X ((hbd.reads (Nat.le_refl _)).up hX) hfit ((hpa.below hX (by omega)).mono (by have := hX.size; omega)) hal).mono ?_
        rintro e wA ⟨nvA, ovA, rfl, hbA⟩
        obtain ⟨naA, nnA, ncA, oaA, onA, ocA, rfl, rfl⟩ := hbA.lens
        exact ⟨_, _, _, _, _, _, _, rfl, (hq3.later hX).later hbA.below, (hq2.later hX).later hbA.below, hbA.lower (hbd.below.trans (hX.mono hsz)) (Nat.le_trans hsz hX.size)⟩)
      have HMORE := Lib.hid (addToks_more (b := b) hpt)
      have HQ2 := Lib.hid hq2; have HQ3 := Lib.hid hq3; have HBE := Lib.hid hbd.below
      clear hq3 hq2 hbd hpa hpt hal hfit hp
      go_wp2_with fail
      go_region_with ((go_at_call 107; refine (HADD.out _ (by repeat' (first | (with_reducible exact Below.refl _ _) | (with_reducible refine bl_dr ?_) | (with_reducible refine bl_al ?_ _)))).mono ?_; rintro e wA ⟨naA, nnA, ncA, oaA, onA, ocA, zA, rfl, hq3A, hq2A, hbdA⟩; obtain ⟨⟨x0, x1⟩, y0, y1⟩ := hq3A.cells; have bCA := hq3A.lt))
      all_goals
        rw [← HMORE.out] at hbdA
        obtain ⟨nsA, hnsA, hmA, hoA⟩ := hbdA
        have HO := Lib.hid (out_box (⟨hmA, hoA⟩ : BdM w.heap.size w wA _ _ nsA (addToks b (ts.take (k + 1))).opn) hq3A (show w.heap.size ≤ C by have := HC.out; omega))
        have HNA := Lib.hid hnsA
        have HQA := Lib.hid ((hq2A.far (show w.heap.size + 1 ≠ C by have := HC.out; omega) (o := 0) (.slice naA nnA ncA)).far (show w.heap.size + 1 ≠ C by have := HC.out; omega) (o := 1) (.slice oaA onA ocA))
        clear hmA hoA hnsA hq2A hq3A
        go_wp2_with fail
        go_roundw
        case rel => exact ⟨k + 1, _, _, _, _, _, _, by omega, by go_num, HO.out.1, HQA.out, HO.out.2.at HNA.out⟩
        case measure => simp [intOf]; omega
    · have hkn : k = n := by omega
      subst hkn
      rw [show ts.take k = ts from List.take_of_length_le (by rw [HTL.out]; exact Nat.le_refl _)] at hbd
      obtain ⟨ns3, hns3, hm3, ho3⟩ := hbd
      have HO := Lib.hid (out_box (⟨hm3, ho3⟩ : BdM w.heap.size w wr _ _ ns3 (addToks b ts).opn) hq2 (Nat.le_succ _))
      have HN3 := Lib.hid hns3
      obtain ⟨⟨d0, d1⟩, f0, f1⟩ := hq2.cells
      have bH := hq2.lt
      clear hq3 hm3 ho3 hq2 hns3
      go_wp2_with fail
      obtain ⟨⟨r0, r1⟩, _⟩ := HO.out.1.cells
      refine bodyPost_ret (v := .agg #[.slice na nn nc, .slice oa on oc]) (by simp [results, Tryz.results138, go_sem, r0, r1]) rfl ?_
      exact ⟨_, _, rfl, HO.out.2.at HN3.out⟩

end Go.Proofs.YtpkicliimhflgaaGreatDoor
namespace Go.Proofs.YtpkicliimhflgaaGreatDoor
open Go.ChangeShapes Go.WideShapes Go.ChangeAt Go.RowKit Go.Joins Go.Deep

theorem add_lit (g off j : Nat) : (⟨g, off, none⟩ : Addr).add j = ⟨g, off + j, none⟩ := by
  unfold Addr.add
  split
  · rename_i h4; subst h4; rfl
  · rfl
theorem mapM_at {f : Nat → Option Value} : ∀ {l : List Nat} {cs : List Value}, l.mapM f = some cs → cs.length = l.length ∧ ∀ i j : Nat, l[i]? = some j → f j = cs[i]?
  | [], cs, h => by
    have : cs = [] := by simpa using h.symm
    subst this
    exact ⟨rfl, fun i j h => by simp at h⟩
  | a :: l, cs, h => by
    rw [List.mapM_cons] at h
    obtain ⟨v, hv, h⟩ := Option.bind_eq_some_iff.1 h
    obtain ⟨vs, hvs, h⟩ := Option.bind_eq_some_iff.1 h
    have : cs = v :: vs := by simpa using h.symm
    subst this
    obtain ⟨k1, k2⟩ := mapM_at hvs
    refine ⟨by simp [k1], fun i j hj => ?_⟩
    cases i with
    | zero =>
      have : a = j := by simpa using hj
      subst this
      simpa using hv
    | succ i => simpa using k2 i j (by simpa using hj)
theorem cells?_at {w : World} {base n : Nat} {a : Addr} {cs : List Value} (h : w.cells? base a n = some cs) : cs.length = n ∧ ∀ i, i < n → w.cell? (a.add i) = cs[i]? := by
  unfold World.cells? at h
  split at h
  · obtain ⟨k1, k2⟩ := mapM_at h
    rw [List.length_range] at k1
    exact ⟨k1, fun i hi => k2 i i (by rw [List.getElem?_range hi])⟩
  · cases h

end Go.Proofs.YtpkicliimhflgaaGreatDoor
namespace Go.Proofs.YtpkicliimhflgaaGreatDoor
open Go.ChangeShapes Go.WideShapes Go.ChangeAt Go.RowKit Go.Joins Go.Deep

/-- The strings of an attribute are no longer than a string may be. -/
def AtOk (a : At) : Prop := a.1.size ≤ 9223372036854775807 ∧ a.2.size ≤ 9223372036854775807
theorem atCells_small {ats : List At} (h : ∀ a ∈ ats, AtOk a) : SmallL (atCells ats) := by
  induction ats with
  | nil => rw [atCells, SmallL]; trivial
  | cons a ats ih =>
    rw [atCells, SmallL, SmallL, Rw.Small, Rw.Small]
    exact ⟨(h a List.mem_cons_self).1, (h a List.mem_cons_self).2, ih fun b hb => h b (List.mem_cons_of_mem _ hb)⟩
theorem rwA_small {v : Value} {ats : List At} (h : ∀ a ∈ ats, AtOk a) : (rwA v ats).Small := by rw [rwA, Rw.Small]; exact atCells_small h
/-- A slice of attributes that came in. -/
def IsAts (w : World) (a : Option Addr) (len cap : Nat) (xs : List At) : Prop :=
  ReadsK encA 2 w.heap.size w (.slice a len cap) xs ∧ xs.length = len ∧ ∀ x ∈ xs, AtOk x

theorem attrs_of {H : Type} {enc : TypeId × Value → H} {W : World} {a : Option Addr} {len cap : Nat} {d : DataW H} {p : List MemPlace} (h : DataW.Trod enc Tryz.prog W 0 (fun _ => true) true 182 (.slice a len cap) d p) :
    ∃ xs, IsAts W a len cap xs := by
  obtain ⟨fuel, hf⟩ := h
  rcases open_slice Tryz.underlying182 hf with ⟨hcs, _⟩ | ⟨x, l, c, m, n, D, Pl, hcs, _, hl, hc, hm, _, hel⟩
  · simp [Value.cells] at hcs
    obtain ⟨rfl, rfl, rfl⟩ := hcs
    exact ⟨[], ⟨none, 0, rfl, Nat.le_refl _, by omega, (fun _ => rfl), Or.inl rfl⟩, rfl, by simp⟩
  · simp [Value.cells] at hcs
    obtain ⟨rfl, rfl, rfl⟩ := hcs
    simp only [if_true] at hm
    subst hm
    have hC : Tryz.prog.cellsOf 233 = 2 := by kernel_rfl
    rw [hC] at hel
    have hstr : Tryz.prog.cellsOf 9 = 1 := by kernel_rfl
    have hx : ∀ i, i < len → ∃ y : At, W.cell? (x.add (i * 2)) = some (.string y.1) ∧ W.cell? (x.add (i * 2 + 1)) = some (.string y.2) ∧ AtOk y := by
      intro i hi
      obtain ⟨cs, h1, h2⟩ := hel i (by omega)
      obtain ⟨hlen, hat⟩ := cells?_at h1
      obtain ⟨y0, y1, n', _, _, t0, t1⟩ := trod_struct2 Tryz.underlying233 h2
      obtain ⟨s, e0, _, w0⟩ := DataW.trod_string Tryz.underlying9 t0
      obtain ⟨t, e1, _, w1⟩ := DataW.trod_string Tryz.underlying9 t1
      simp only [hstr] at e0 e1
      obtain ⟨c0, c1, rfl⟩ : ∃ c0 c1, cs = [c0, c1] := by
        rcases cs with _ | ⟨c0, _ | ⟨c1, _ | ⟨c2, cs⟩⟩⟩
        · cases hlen
        · cases hlen
        · exact ⟨c0, c1, rfl⟩
        · exact absurd (congrArg (fun n => n - 2) hlen) (by simp)
      simp at e0 e1
      have g0 := hat 0 (by omega)
      have g1 := hat 1 (by omega)
      rw [add_add] at g0 g1
      simp at g0 g1
      exact ⟨(s, t), by rw [g0, e0], by rw [g1, e1], w0, w1⟩
    obtain ⟨f, hf⟩ := choose_lt hx
    refine ⟨(List.range len).map f, ⟨some x, _, by rw [List.length_map, List.length_range], by simpa using hl, by unfold maxLen at hc; omega, (fun h => by cases h), ?_⟩, by simp, ?_⟩
    · by_cases h0 : len = 0
      · exact Or.inl (by simpa using h0)
      · obtain ⟨blk, off, spot⟩ := x
        have c0 := (hf 0 (by omega)).1
        have hspot : spot = none := by simpa [Addr.add] using World.cell?_spot c0
        subst hspot
        have hlt : blk < W.heap.size := by
          have := World.block_lt_of_cell? W _ c0
          rwa [add_lit] at this
        refine Or.inr ⟨blk, off, rfl, hlt, fun j y hj i hi' => ?_⟩
        have hjl : j < len := by have := (List.getElem?_eq_some_iff.1 hj).1; simpa using this
        simp [hjl] at hj
        subst hj
        obtain ⟨g0, g1, _⟩ := hf j hjl
        rw [add_lit] at g0 g1
        rcases (show i = 0 ∨ i = 1 by omega) with rfl | rfl
        · rw [Nat.add_zero]; exact g0
        · rw [Nat.add_assoc]; exact g1
    · intro y hy
      obtain ⟨i, hi, rfl⟩ := List.mem_map.1 hy
      exact (hf i (List.mem_range.1 hi)).2.2

theorem array1 {α : Type} {cs : Array α} (h : cs.size = 1) : ∃ c0, cs = #[c0] := by
  obtain ⟨l⟩ := cs
  match l, h with
  | [c0], _ => exact ⟨c0, rfl⟩
set_option maxRecDepth 100000 in
theorem open_agg1 {P : Program} {H : Type} {enc : TypeId × Value → H} {w : World} {base : Nat} {spare : Nat → Bool} {held : Bool} {r : Reach} {b0 : Nat} {t : TypeId} {f0 : Field} {v : Value} {d : DataW H} {p : List MemPlace} (hs : P.underlying t = some (.struct #[f0])) (hone : oneCellFields P #[f0] = true) (hC : P.cellsOf t = 1)
    (hv : Value.okWide P w r b0 t v) (h : DataW.Trod enc P w base spare held t v d p) :
    ∃ (v0 : Value) (y0 : DataW H × List MemPlace) (n : Nat), v = .agg #[v0] ∧ d = .agg [y0.1] ∧ p = y0.2 ∧ DataW.trod enc P w base spare held n f0.type [v0] = some y0 := by
  obtain ⟨cs, rfl, hsz⟩ := okWide_struct hs hv
  obtain ⟨c0, rfl⟩ := array1 (hsz.trans hC)
  obtain ⟨fuel, hf⟩ := h
  obtain ⟨y0, n, hx, _, h0⟩ := trod_struct1 hs hf
  obtain ⟨o0, k0⟩ := hone_of hone 0 f0 rfl
  simp only [Prod.mk.injEq] at hx
  exact ⟨c0, y0, n, rfl, hx.1, hx.2, by simpa [Value.cells, o0, k0] using h0⟩

end Go.Proofs.YtpkicliimhflgaaGreatDoor
