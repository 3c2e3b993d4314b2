/- What stays below, in small steps. Helper facts, no claim of its own. FormatScript of the program and of the model: the lines' forms, joined by semicolons. Asked: the lines lie in memory as named, and are not too long. CountName of the program, in a text of its own: for seats where the model's CountName is not there (XCnt's paragraph falls there). Helper contracts over the functions with which the laws copy, compare, measure and mark slices, by program (deep.py). Asked: what lies in memory is as named. -/
import Derived.Test.YtpkicliimhflgaaGreatDoorMf3
import Derived.Test.YtpkicliimhflgaaGreatDoorMf12
import Derived.Test.YtpkicliimhflgaaGreatDoorShelfJ
import Derived.Deep.RegionHeld3
import Derived.Laws.Concat
import Derived.Test.YtpkicliimhflgaaGreatDoorMf6
import Derived.Test.YtpkicliimhflgaaGreatDoorMf2
import Derived.Shelf.SlSortCmp.QuietGrown
namespace Go.Proofs.YtpkicliimhflgaaGreatDoor

open Go.ChangeShapes Go.WideShapes Go.ChangeAt Go.RowKit

theorem bl_tr {w X w' : World} (h : Below w.heap.size w X) (k : Below X.heap.size X w') : Below w.heap.size w w' := h.trans (k.mono h.size)
theorem bl_via {B : Nat} {w0 w X : World} (h : Below B w0 w) (hB : B ≤ w.heap.size) (k : Below w.heap.size w X) : Below B w0 X := h.trans (k.mono hB)
theorem bl_dw {B : Nat} {w w' : World} (h : Below B w w') : Below B w w'.drew := h.drew
theorem bl_aw {w w' : World} (h : Below w.heap.size w w') (o : Obj) : Below w.heap.size w (w'.alloc o) := h.alloc h.size o
theorem hq_dr {w : World} {g : Nat} {o : Obj} (h : w.heap[g]? = some o) : w.drew.heap[g]? = some o := h
theorem hq_nw {w : World} {g : Nat} {o : Obj} (h : w.heap.size = g) : (w.alloc o).heap[g]? = some o := by subst h; exact (MapKept.heap_alloc w o).1
theorem box_ca {w : World} {o o' : Obj} {g : Nat} (h : w.heap[g]? = some o) : (w.alloc o').heap[g]? = some o := by
  rw [Below.heap_alloc _ _ _ (heap_lt h)]; exact h
theorem box3_0 (w : World) (o1 o2 o3 : Obj) : (((w.alloc o1).alloc o2).alloc o3).heap[w.heap.size]? = some o1 := box_ca (box_ca (heap_alloc_new _ _))
theorem box3_1 (w : World) (o1 o2 o3 : Obj) : (((w.alloc o1).alloc o2).alloc o3).heap[w.heap.size + 1]? = some o2 := box_ca (by rw [← World.size_alloc]; exact heap_alloc_new _ _)
theorem box3_2 (w : World) (o1 o2 o3 : Obj) : (((w.alloc o1).alloc o2).alloc o3).heap[w.heap.size + 1 + 1]? = some o3 := by
  have h := heap_alloc_new ((w.alloc o1).alloc o2) o3
  rw [World.size_alloc, World.size_alloc] at h; exact h
/-- One cell of a box is stored. -/
theorem box_set {w : World} {b o : Nat} {cs : Array Value} {T : TypeId} (h : w.heap[b]? = some (.cells cs T (0, 0))) (u : Value) : (w.setCell ⟨b, o, none⟩ u).heap[b]? = some (.cells (cs.setIfInBounds o u) T (0, 0)) := by
  show (w.heap.modify b _)[b]? = _
  rw [Array.getElem?_modify, if_pos rfl, h]; rfl
theorem box_off {w : World} {b r o : Nat} {x : Obj} (h : w.heap[b]? = some x) (hne : b ≠ r) (u : Value) : (w.setCell ⟨r, o, none⟩ u).heap[b]? = some x := by
  rw [Below.heap_setCell _ _ _ _ hne]; exact h

end Go.Proofs.YtpkicliimhflgaaGreatDoor
namespace Go.Proofs.YtpkicliimhflgaaGreatDoor
open Go.ChangeShapes Go.WideShapes Go.ChangeAt Go.RowKit

/-- A line's form; empty if its Op is none. -/
def frmS (x : Lnv) : ByteArray := match frm x with | some f => f | none => ⟨#[]⟩
theorem frmS_no {x : Lnv} (h : frm x = none) : frmS x = ⟨#[]⟩ := by unfold frmS; rw [h]
theorem frmS_yes {x : Lnv} {f : ByteArray} (h : frm x = some f) : frmS x = f := by unfold frmS; rw [h]
theorem frmS_size (x : Lnv) : (frmS x).size ≤ x.2.size + 6 := by
  cases h : frm x with
  | none => rw [frmS_no h]; exact Nat.zero_le _
  | some f => rw [frmS_yes h]; exact (frm_size h).2

set_option maxRecDepth 100000 in
set_option maxHeartbeats 2000000 in
theorem form_any (op : Int) (tx : ByteArray) (hx : tx.size ≤ 1099511627776) (w : World) :
    Calls Tryz.prog 190 #[.agg #[.int .i64 op, .string tx]] w fun e w' => e = .returned (.string (frmS (op, tx))) ∧ Below w.heap.size w w' := by
  obtain ⟨W0, hW0⟩ : ∃ W, w.alloc (.cells #[.int .i64 op, .string tx] 51) = W := ⟨_, rfl⟩
  have hb0 : Below w.heap.size w W0 := by rw [← hW0]; exact (Below.refl _ _).alloc (Nat.le_refl _) _
  have hx0 : W0.heap[w.heap.size]? = some (.cells #[.int .i64 op, .string tx] 51 (0, 0)) := by rw [← hW0]; exact (MapKept.heap_alloc w _).1
  have e0 := box_cell hx0 (j := 0) rfl
  have HB0 := Lib.hid hb0; have HX0 := Lib.hid hx0; have HW0 := Lib.hid hW0
  have HNO := Lib.hid (fun h => frmS_no (x := (op, tx)) (frm_no h)); have HYES := Lib.hid (fun h => frmS_yes (frm_yes (x := (op, tx)) h))
  have HOP0 := Lib.hid (fun h => opN_no (op := op) h); have HOP1 := Lib.hid (fun h => opN_yes (op := op) h)
  obtain ⟨F, hF⟩ : ∃ F, frmS (op, tx) = F := ⟨_, rfl⟩
  rw [hF] at HNO HYES ⊢
  clear hb0 hx0 hW0 hF
  go_enter Tryz.func190, Tryz.ntmps190
  go_upto_region 1 with (fail)
  rw [HW0.out]
  go_wp2_with fail
  refine (fop_any op _).mono ?_
  rintro e w1 ⟨rfl, hb1⟩
  have HX1 := Lib.hid (below_heap hb1 (heap_lt HX0.out) HX0.out)
  have HB1 := Lib.hid (HB0.out.trans (hb1.mono HB0.out.size))
  clear hb1 e0
  by_cases ho : 1 ≤ op ∧ op ≤ 5
  · have hm := HOP1.out ho
    have hF := HYES.out ho
    obtain ⟨m, hm2⟩ : ∃ m, opN op = m := ⟨_, rfl⟩
    rw [hm2] at hm ⊢
    have hm0 : m ≠ 0 := by omega
    rw [res_form hm0]
    replace hF : F = wd m ++ sp ++ tx := by rw [hF, hm]
    have hws := wd_size m
    obtain ⟨s1, h1⟩ : ∃ u, wd m = u := ⟨_, rfl⟩
    obtain ⟨q2, h2⟩ : ∃ u, fmTk m = u := ⟨_, rfl⟩
    obtain ⟨q3, h3⟩ : ∃ u, fmRn m = u := ⟨_, rfl⟩
    obtain ⟨x0, h0⟩ : ∃ u : Int, (m : Int) = u := ⟨_, rfl⟩
    rw [h1] at hF hws
    rw [h0, h1, h2, h3]
    have HF := Lib.hid hF
    have a0 : ∀ W, (Op.stringOp .add s1 ⟨#[32]⟩).run Tryz.prog W = .ok (.string (s1 ++ sp)) W := fun W => run_string_add_sum _ _ _ (by rw [sp_size]; omega)
    obtain ⟨X1, hX1⟩ : ∃ Y, s1 ++ sp = Y := ⟨_, rfl⟩
    have hz1 : X1.size ≤ 6 := by rw [← hX1, ByteArray.size_append, sp_size]; omega
    rw [hX1] at a0 HF
    have a1 : ∀ W, (Op.stringOp .add X1 tx).run Tryz.prog W = .ok (.string (X1 ++ tx)) W := fun W => run_string_add_sum _ _ _ (by omega)
    obtain ⟨X2, hX2⟩ : ∃ Y, X1 ++ tx = Y := ⟨_, rfl⟩
    rw [hX2] at a1 HF
    have hba : Below w1.heap.size w1 (w1.alloc (.cells #[.int .i64 x0, .string s1, .func (.func q2) #[] #[], .func (.func q3) #[] #[]] 164)) := (Below.refl _ _).alloc (Nat.le_refl _) _
    have hx2 := below_heap hba (heap_lt HX1.out) HX1.out
    have e1 := box_cell hx2 (j := 1) rfl
    have HB2 := Lib.hid (HB1.out.trans (hba.mono HB1.out.size))
    clear hX1 hX2 h0 h1 h2 h3 hm hm2 hm0 hF hba hx2 ho
    go_wp2_with fail
    go_ret
    exact ⟨by rw [HF.out]; rfl, HB2.out⟩
  · have hm := HOP0.out ho
    have HF := Lib.hid (HNO.out ho)
    rw [hm, res_zero]
    have HB2 := Lib.hid (HB1.out.alloc HB1.out.size (.cells fmZ0 164))
    clear hm ho
    go_wp2_with fail
    go_ret
    exact ⟨by rw [HF.out]; rfl, HB2.out⟩

theorem own_strs8 {lo hi g n c : Nat} {w : World} {xs : List ByteArray} (h : OwnK encS 1 9 lo hi w (.slice (some ⟨g, 0, none⟩) n c) xs) (hn : xs.length = n) : g < w.heap.size ∧ n ≤ c ∧ ∀ (j : Nat) x, xs[j]? = some x → w.cell? ⟨g, 0 + j, none⟩ = some (.string x) := by
  have hr := h.reads encS_len
  rcases h.1.2 with ⟨e, _⟩ | ⟨g', cap, cur, e, hg, hh, hc, hm, _⟩
  · cases e
  · cases e
    refine ⟨heap_lt hh, by omega, fun j x hj => ?_⟩
    have := hr.news encS_len j (.string x) (by
      have := flat_at encS_len hj (show 0 < 1 by decide)
      simpa [encS] using this)
    rwa [add_off] at this
theorem mineS_some {B : Nat} {w0 w : World} {v : Value} {xs : List ByteArray} (h : MineK encS 1 9 B w0 w v xs) (h1 : 1 ≤ xs.length) : ∃ g c, v = .slice (some ⟨g, 0, none⟩) xs.length c := by
  rcases h.row.2 with ⟨e, h0⟩ | ⟨g, cap, cur, e, _⟩
  · omega
  · exact ⟨g, cap, e⟩

end Go.Proofs.YtpkicliimhflgaaGreatDoor
namespace Go.Proofs.YtpkicliimhflgaaGreatDoor
open Go.ChangeShapes Go.WideShapes Go.ChangeAt Go.RowKit

set_option maxRecDepth 100000 in
set_option maxHeartbeats 2000000 in
theorem count_impl2 (nv ov : Value) (b : Bd) (s : ByteArray) (w : World) (hb : BdIn w.heap.size w nv ov b) :
    Calls Tryz.prog 192 #[.agg #[nv, ov], .string s] w fun e w' => e = .returned (.int .i64 (countName b.nodes s : Int)) ∧ Grw w w' := by
  obtain ⟨ns, hns, hrn, hro⟩ := hb
  obtain ⟨oa, oc, rfl, _⟩ := reads_form hro
  obtain ⟨on, hon⟩ : ∃ n, b.opn.length = n := ⟨_, rfl⟩
  rw [hon]; clear hro hon
  obtain ⟨a, cap, rfl, hc1, hc2⟩ := hrn.form
  obtain ⟨n, hn⟩ : ∃ n, ns.length = n := ⟨_, rfl⟩
  rw [hn] at hc1 hrn ⊢
  have hnl : b.nodes.length = n := by rw [← hns, List.length_map, hn]
  have hg0 := (Grw.refl w).alloc (.cells #[.slice a n cap, .slice oa on oc] 41)
  have HR := Lib.hid (hrn.below hg0.below (Nat.le_refl _)); have HN := Lib.hid hn; have HNS := Lib.hid hns; have HNL := Lib.hid hnl
  obtain ⟨cn, hcn⟩ : ∃ f : Nat → Nat, f = fun m => countName (b.nodes.take m) s := ⟨_, rfl⟩
  have HCN := Lib.hid hcn
  have HCL := Lib.hid (fun m => show cn m ≤ m by rw [hcn]; have h1 := count_le (b.nodes.take m) s; rw [List.length_take] at h1; show countName (b.nodes.take m) s ≤ m; omega)
  have q0 : (w.alloc (.cells #[.slice a n cap, .slice oa on oc] 41)).cell? ⟨w.heap.size, 0, none⟩ = some (.slice a n cap) := by simp
  have HQ := Lib.hid q0; have HG0 := Lib.hid hg0
  clear hrn hn hns hnl hcn q0 hg0
  go_enter Tryz.func192, Tryz.ntmps192
  go_wp2
  go_loopw [5, 10] (fun c i wr => ∃ (k : Nat), k ≤ n ∧ i = .int .i64 k ∧ c = .int .i64 (cn k : Int) ∧ wr = w.alloc (.cells #[.slice a n cap, .slice oa on oc] 41))
    (fun _ i _ => n - (intOf i).toNat)
  case atStart => exact ⟨0, Nat.zero_le _, rfl, by rw [HCN.out]; rfl, rfl⟩
  case round =>
    obtain ⟨k, hk, rfl, rfl, rfl⟩ := hrel
    have q0 := HQ.out
    by_cases hlt : (k : Int) < (n : Int)
    · obtain ⟨p, hp⟩ := nd_at (ns := ns) (k := k) (by have := HN.out; omega)
      obtain ⟨g, off, rfl, hg, c0, _⟩ := HR.out.at hp
      have hm := count_more (s := s) (map_fst_at HNS.out hp)
      have HM := Lib.hid (show cn (k + 1) = cn k + _ by rw [HCN.out]; exact hm)
      have hcl := HCL.out k
      clear hm hp
      obtain ⟨⟨nd, sl⟩, rfl⟩ : ∃ q : Nv, p = q := ⟨p, rfl⟩
      obtain ⟨x, hx⟩ : ∃ x, nd.name = x := ⟨_, rfl⟩
      replace c0 : _ = some (Value.string nd.name) := c0
      replace HM := Lib.hid (show cn (k + 1) = cn k + (if (nd.name.toList == s.toList) = true then 1 else 0) from HM.out)
      rw [hx] at c0 HM
      clear hx
      have HNA := Lib.hid (nodeAt_in w.heap.size g off n cap k _ q0 (by omega) (by omega))
      cases he : (x.toList == s.toList) with
      | true =>
        rw [he, if_pos rfl] at HM
        go_wp2_with (go_at_call 67; refine HNA.out.mono ?_; rintro e w' ⟨rfl, rfl⟩)
        go_roundw
        case rel => exact ⟨k + 1, by omega, by go_num, by rw [HM.out]; go_num, by first | trivial | rfl⟩
        case measure => simp [intOf]; omega
      | false =>
        rw [he, if_neg (by decide)] at HM
        go_wp2_with (go_at_call 67; refine HNA.out.mono ?_; rintro e w' ⟨rfl, rfl⟩)
        go_roundw
        case rel => exact ⟨k + 1, by omega, by go_num, by rw [HM.out]; rfl, by first | trivial | rfl⟩
        case measure => simp [intOf]; omega
    · have hkn : k = n := by omega
      subst hkn
      have HF := Lib.hid (show cn k = countName b.nodes s by rw [HCN.out]; show countName (b.nodes.take k) s = _; rw [List.take_of_length_le (by rw [HNL.out]; exact Nat.le_refl _)])
      go_wp2
      go_ret
      exact ⟨by rw [HF.out]; rfl, HG0.out⟩

end Go.Proofs.YtpkicliimhflgaaGreatDoor
namespace Go.Proofs.YtpkicliimhflgaaGreatDoor
open Go.ChangeShapes Go.WideShapes Go.ChangeAt Go.RowKit

/-- What a slice of this type holds. -/
def IsRuleS (x : Rw) : Prop := ∃ v n e cs, x = .sl v n 2 e cs ∧ ∀ j, j < n → ∃ (a0 : ByteArray) (a1 : Int), cs[j * 2]? = some (.leaf (.string a0)) ∧ cs[j * 2 + 1]? = some (.leaf (.int .i64 a1))
theorem is_sl_RuleS {x : Rw} (h : IsRuleS x) : ∃ v n k e cs, x = .sl v n k e cs := by
  obtain ⟨v, n, e, cs, rfl, _⟩ := h
  exact ⟨v, n, _, e, cs, rfl⟩

set_option maxRecDepth 100000 in
set_option maxHeartbeats 4000000 in
theorem mk_RuleS (x : Rw) (hx : IsRuleS x) (lo hi k0 : Nat) (q : Int) (hq : q = k0) (w : World) (ho : x.OwnR lo hi w) (hd : x.blocks.Nodup) (hk : k0 + x.count ≤ 4611686018427387904) :
    Calls Tryz.prog 86 #[x.cell, .int .i64 q] w fun e w' => e = .returned (.int .i64 ((k0 + x.count : Nat) : Int)) ∧ (x.mark k0).OwnR lo hi w' ∧ OnlyB x.blocks w w' := by
  subst hq
  obtain ⟨v, n, e0, cs, rfl, hrow⟩ := hx
  rw [Rw.cell_sl]; rw [Rw.count] at hk ⊢; rw [mark_cell_sl]
  have ho2 := ho; rw [Rw.OwnR] at ho2
  have hlen : cs.length = n * 2 := by have := ho2.1.1.1; rwa [List.length_map] at this
  have hrw := ho2.1.1.2; clear ho2
  have HROW := Lib.hid hrow; have HD := Lib.hid hd; have HO0 := Lib.hid ho; have HLEN := Lib.hid hlen; have HK := Lib.hid hk; clear hrow hd ho hlen hk
  rcases hrw with ⟨rfl, h0⟩ | ⟨g, cap, cur, rfl, hg, _, hcap, hm, _⟩
  · subst h0
    have hz : cs = [] := List.eq_nil_of_length_eq_zero (by have := HLEN.out; omega)
    subst hz
    go_enter Tryz.func86, Tryz.ntmps86
    go_wp2
    refine wp_loop_rounds 1 ?_
    rw [rounds_succ]
    go_wp2
    go_ret
    exact ⟨by simp [countL], by rw [markL]; exact HO0.out, OnlyB.refl _ _⟩
  · unfold maxLen at hm
    obtain ⟨st, hst⟩ : ∃ f : Nat → List Rw, f = markTo cs k0 := ⟨_, rfl⟩
    obtain ⟨cn, hcn⟩ : ∃ f : Nat → Nat, f = fun m => k0 + countL (cs.take m) := ⟨_, rfl⟩
    have HST := Lib.hid hst; have HCN := Lib.hid hcn; clear hst hcn
    have HTOP := Lib.hid (fun m => show cn m ≤ 4611686018427387904 by rw [HCN.out]; have := countL_take_le cs m; have := HK.out; show k0 + countL (cs.take m) ≤ _; omega)
    have HNOT := Lib.hid (show g ∉ blocksL cs by have := HD.out; rw [Rw.blocks] at this; exact (List.nodup_cons.1 (show (g :: blocksL cs).Nodup from this)).1)
    have HOB := Lib.hid (show ∀ m, blocksL (st m) = blocksL cs from fun m => by rw [HST.out]; exact markTo_blocks cs k0 m)
    go_enter Tryz.func86, Tryz.ntmps86
    go_wp2
    go_loopw [1, 5] (fun m i wr => ∃ (j : Nat), j ≤ n ∧ i = .int .i64 j ∧ m = .int .i64 (cn (j * 2) : Int) ∧ (Rw.sl (.slice (some ⟨g, 0, none⟩) n cap) n 2 e0 (st (j * 2))).OwnR lo hi wr ∧ OnlyB (Rw.sl (.slice (some ⟨g, 0, none⟩) n cap) n 2 e0 cs).blocks w wr)
      (fun _ i _ => n - (intOf i).toNat)
    case atStart => exact ⟨0, Nat.zero_le _, rfl, by rw [HCN.out]; simp [countL], by rw [HST.out, Nat.zero_mul, markTo_zero]; exact HO0.out, OnlyB.refl _ _⟩
    case round =>
      obtain ⟨j, hj, rfl, rfl, hown, hon⟩ := hrel
      have HO := Lib.hid hown; have HN := Lib.hid hon
      clear hown hon
      by_cases hlt : (j : Int) < (n : Int)
      · obtain ⟨a0, a1, f0, f1⟩ := HROW.out j (by omega)
        have hc0 : cn (j * 2 + 1) = cn (j * 2) + 1 := by rw [HCN.out]; have := countL_more f0; rw [Rw.count] at this; show k0 + countL (cs.take (j * 2 + 1)) = k0 + countL (cs.take (j * 2)) + _; omega
        have hs0 : (st (j * 2)).set (j * 2) (.leaf (.string (mt (cn (j * 2))))) = st (j * 2 + 1) := by rw [HST.out, HCN.out]; have := markTo_next f0 k0; rw [mark_leaf] at this; exact this
        have ha0 : (st (j * 2))[j * 2]? = some (.leaf (.string a0)) := by rw [HST.out]; exact markTo_at f0 k0
        have HC0 := Lib.hid hc0; have HS0 := Lib.hid hs0; have HA0 := Lib.hid ha0; clear hc0 hs0 ha0 f0
        have hc1 : cn (j * 2 + 2) = cn (j * 2 + 1) + 1 := by rw [HCN.out]; have := countL_more f1; rw [Rw.count] at this; show k0 + countL (cs.take (j * 2 + 1 + 1)) = k0 + countL (cs.take (j * 2 + 1)) + _; omega
        have hs1 : (st (j * 2 + 1)).set (j * 2 + 1) (.leaf (.int .i64 (cn (j * 2 + 1) : Int))) = st (j * 2 + 2) := by rw [HST.out, HCN.out]; have := markTo_next f1 k0; rw [mark_leaf] at this; exact this
        have ha1 : (st (j * 2 + 1))[j * 2 + 1]? = some (.leaf (.int .i64 a1)) := by rw [HST.out]; exact markTo_at f1 k0
        have HC1 := Lib.hid hc1; have HS1 := Lib.hid hs1; have HA1 := Lib.hid ha1; clear hc1 hs1 ha1 f1
        obtain ⟨q0, hq0⟩ : ∃ q, cn (j * 2) = q := ⟨_, rfl⟩
        obtain ⟨q1, hq1⟩ : ∃ q, cn (j * 2 + 1) = q := ⟨_, rfl⟩
        obtain ⟨q2, hq2⟩ : ∃ q, cn (j * 2 + 2) = q := ⟨_, rfl⟩
        rw [hq0, hq1] at HC0
        rw [hq0] at HS0
        rw [hq1, hq2] at HC1
        rw [hq1] at HS1
        have ht0 : q0 ≤ 4611686018427387904 := by rw [← hq0]; exact HTOP.out _
        have ht1 : q1 ≤ 4611686018427387904 := by rw [← hq1]; exact HTOP.out _
        have ht2 : q2 ≤ 4611686018427387904 := by rw [← hq2]; exact HTOP.out _
        rw [hq0]
        have HE := Lib.hid (show cn ((j + 1) * 2) = q2 by rw [Nat.add_mul, Nat.one_mul]; exact hq2)
        clear hq0 hq1 hq2
        go_wp2_with fail
        refine (mark_anyI q0 _ rfl (by omega) _).mono ?_
        rintro e w0 ⟨rfl, hg0⟩
        have HO0a := Lib.hid (HO.out.later hg0.below)
        have HN0a := Lib.hid (HN.out.trans (OnlyB.of_below hg0.below _))
        have r0 := HO0a.out; rw [Rw.OwnR] at r0
        have d0 : w0.cell? ⟨g, j * 2, none⟩ = some (.string a0) := by rw [r0.1.1.cellAt (j * 2) (by omega), List.getElem?_map, HA0.out]; rfl
        have z0 : w0.frozen? ⟨g, j * 2, none⟩ = false := r0.1.1.frozenAt _
        have hsto := HO0a.out.store (v := .string (mt q0)) (by rw [HOB.out]; exact HNOT.out) HA0.out rfl
        rw [HS0.out] at hsto
        have HO0' := Lib.hid hsto.1; have HN0' := Lib.hid (HN0a.out.trans (hsto.2.1.mono (by intro i hi; rw [Rw.blocks]; exact List.mem_append.2 (Or.inl hi)))); clear hsto r0 hg0
        have r1 := HO0'.out; rw [Rw.OwnR] at r1
        have d1 := r1.1.1.cellAt (j * 2 + 1) (by omega); rw [List.getElem?_map, HA1.out] at d1; replace d1 := d1.trans (show _ = some (Value.int .i64 a1) from rfl)
        have z1 := r1.1.1.frozenAt (j * 2 + 1)
        have hsx : (st (j * 2 + 1)).set (j * 2 + 1) (.leaf (.int .i64 ((q0 : Int) + 1))) = st (j * 2 + 2) := by rw [show ((q0 : Int) + 1) = (q1 : Int) from by have := HC0.out; omega]; exact HS1.out
        have hsto := HO0'.out.store (v := .int .i64 ((q0 : Int) + 1)) (by rw [HOB.out]; exact HNOT.out) HA1.out rfl
        rw [hsx] at hsto
        have HO1' := Lib.hid hsto.1; have HN1' := Lib.hid (HN0'.out.trans (hsto.2.1.mono (by intro i hi; rw [Rw.blocks]; exact List.mem_append.2 (Or.inl hi)))); clear hsto r1 hsx
        go_wp2_with fail
        go_roundw
        case rel => exact ⟨j + 1, by omega, by go_num, by first | (rw [HE.out]; done) | (rw [HE.out]; have := HC0.out; have := HC1.out; go_num), by rw [Nat.add_mul, Nat.one_mul]; exact HO1'.out, HN1'.out⟩
        case measure => simp [intOf]; omega
      · have hjn : j = n := by omega
        subst hjn
        have HF := Lib.hid (show cn (j * 2) = k0 + countL cs by rw [HCN.out]; show k0 + countL (cs.take (j * 2)) = _; rw [List.take_of_length_le (by have := HLEN.out; omega)])
        have HG := Lib.hid (show st (j * 2) = markL cs k0 by rw [HST.out]; exact markTo_full cs k0 (by have := HLEN.out; omega))
        go_wp2_with fail
        go_ret
        exact ⟨by rw [HF.out]; rfl, by rw [← HG.out]; exact HO.out, HN.out⟩

set_option maxHeartbeats 2000000 in
theorem eq_Rule (a0 : ByteArray) (a1 : Int) (w : World)  :
    Calls Tryz.prog 156 #[.agg #[.string a0, .int .i64 a1], .agg #[.string a0, .int .i64 a1]] w fun e w' => e = .returned (.bool true) ∧ Grw w w' := by
  have e0 : (a0.toList == a0.toList) = true := beqL_yes rfl
  go_enter Tryz.func156, Tryz.ntmps156
  go_wp2_with fail
  go_ret
  exact ⟨rfl, ((Grw.refl w).alloc _).alloc _⟩

set_option maxHeartbeats 2000000 in
theorem to_Rule (a0 : ByteArray) (a1 : Int) (w : World) :
    Calls Tryz.prog 154 #[.agg #[.string a0, .int .i64 a1]] w fun e w' => e = .returned (.agg #[.string a0, .int .i64 a1]) ∧ Grw w w' := by
  go_enter Tryz.func154, Tryz.ntmps154
  go_wp2_with fail
  refine bodyPost_ret (v := .agg #[.string a0, .int .i64 a1]) (by simp [results, Tryz.results154, go_sem]) rfl ⟨rfl, ?_⟩
  exact (((Grw.refl _).alloc _).alloc _).alloc _

set_option maxRecDepth 100000 in
set_option maxHeartbeats 4000000 in
theorem eq_RuleS (x y : Rw) (hx : IsRuleS x) (hy : IsRuleS y) (hd : x.data = y.data) (w : World) (rx : x.ReadR w.heap.size w) (ry : y.ReadR w.heap.size w) :
    Calls Tryz.prog 127 #[x.cell, y.cell] w fun e w' => e = .returned (.bool true) ∧ Grw w w' := by
  have mixed : Tryz.prog.follows .mixedOrders = true := by kernel_rfl
  obtain ⟨v, n, e0, cs, rfl, hrow⟩ := hx
  obtain ⟨v', n', e0', cs', rfl, hrow'⟩ := hy
  rw [Rw.data, Rw.data] at hd
  have hdd := (Dt.sl.inj hd).2; clear hd
  rw [Rw.ReadR] at rx ry
  rw [Rw.cell_sl, Rw.cell_sl]
  obtain ⟨⟨a, cap, rfl, hlen, hc1, hc2, _, hcells⟩, hin⟩ := rx
  obtain ⟨⟨a', cap', rfl, hlen', hc1', hc2', _, hcells'⟩, hin'⟩ := ry
  have hnn : n = n' := by have := congrArg List.length hdd; rw [dataL_len, dataL_len] at this; omega
  subst hnn
  have HROW := Lib.hid hrow; have HROW' := Lib.hid hrow'; have HD := Lib.hid hdd; have HC := Lib.hid hcells; have HC' := Lib.hid hcells'; have HIN := Lib.hid hin; have HIN' := Lib.hid hin'
  clear hrow hrow' hdd hcells hcells' hin hin' hlen hlen'
  go_enter Tryz.func127, Tryz.ntmps127
  go_wp2
  go_loopw [5] (fun i wr => ∃ (j : Nat), j ≤ n ∧ i = .int .i64 j ∧ Grw w wr)
    (fun i _ => n - (intOf i).toNat)
  case atStart => exact ⟨0, Nat.zero_le _, rfl, Grw.refl _⟩
  case round =>
    obtain ⟨j, hj, rfl, hs⟩ := hrel
    have HS := Lib.hid hs
    clear hs
    by_cases hlt : (j : Int) < (n : Int)
    · rcases HC.out with h0 | ⟨g, off, rfl, hg, hcells⟩
      · omega
      · rcases HC'.out with h0 | ⟨g', off', rfl, hg', hcells'⟩
        · omega
        · have HCL := Lib.hid hcells; have HCL' := Lib.hid hcells'; clear hcells hcells'
          obtain ⟨a0, a1, f0, f1⟩ := HROW.out j (by omega)
          obtain ⟨b0, b1, f0', f1'⟩ := HROW'.out j (by omega)
          have hd0 := data_same HD.out f0 f0'
          have hv0 := leaf_same hd0; obtain rfl : a0 = b0 := by cases hv0; rfl
          clear hd0 hv0
          have c0 : ∀ m os, (Sort.grow (wr.drewN m) os).cell? ⟨g, off + j * 2, none⟩ = some (.string a0) := cell_grown (show g < wr.heap.size by have := HS.out.below.size; omega) (by rw [HS.out.below.cell (show g < _ by omega)]; exact HCL.out (j * 2) _ (by rw [List.getElem?_map, f0]; rfl))
          have c0' : ∀ m os, (Sort.grow (wr.drewN m) os).cell? ⟨g', off' + j * 2, none⟩ = some (.string a0) := cell_grown (show g' < wr.heap.size by have := HS.out.below.size; omega) (by rw [HS.out.below.cell (show g' < _ by omega)]; exact HCL'.out (j * 2) _ (by rw [List.getElem?_map, f0']; rfl))
          have hd1 := data_same HD.out f1 f1'
          have hv1 := leaf_same hd1; obtain rfl : a1 = b1 := by cases hv1; rfl
          clear hd1 hv1
          have c1 : ∀ m os, (Sort.grow (wr.drewN m) os).cell? ⟨g, off + j * 2 + 1, none⟩ = some (.int .i64 a1) := cell_grown (show g < wr.heap.size by have := HS.out.below.size; omega) (by rw [HS.out.below.cell (show g < _ by omega)]; rw [Nat.add_assoc]; exact HCL.out (j * 2 + 1) _ (by rw [List.getElem?_map, f1]; rfl))
          have c1' : ∀ m os, (Sort.grow (wr.drewN m) os).cell? ⟨g', off' + j * 2 + 1, none⟩ = some (.int .i64 a1) := cell_grown (show g' < wr.heap.size by have := HS.out.below.size; omega) (by rw [HS.out.below.cell (show g' < _ by omega)]; rw [Nat.add_assoc]; exact HCL'.out (j * 2 + 1) _ (by rw [List.getElem?_map, f1']; rfl))
          have HE := Lib.hid (fun (n : Nat) (os : Array Obj) => eq_Rule a0 a1 (Sort.grow (wr.drewN n) os))
          clear f0 f0' f1 f1'
          go_wp2_with fail
          refine wp_region_quiet_grown mixed (by kernel_rfl) ?_
          repeat (go_big_quiet_step (first | (go_at_call 156; refine Calls.grown_of (HE.out _ _))))
          refine wpQuiet_nil ?_; intro _ hw'; obtain ⟨⟨nq, osq⟩, hw''⟩ := hw'; subst hw''
          have HG1 := Lib.hid (HS.out.trans ⟨nq, osq, rfl⟩)
          obtain ⟨w1, hw1⟩ : ∃ x, Sort.grow (wr.drewN nq) osq = x := ⟨_, rfl⟩
          rw [hw1] at HG1 ⊢; clear hw1 c0 c0' c1 c1'
          go_wp2_with fail
          go_roundw
          case rel => exact ⟨j + 1, by omega, by go_num, HG1.out⟩
          case measure => simp [intOf]; omega
    · have hkn : decide ((j : Int) < (n : Int)) = false := decide_eq_false hlt
      go_wp2_with fail
      go_ret
      exact ⟨rfl, HS.out⟩

def SzRule (a0 : ByteArray) (left : Int) (w : World) (e : Ending) (w' : World) : Prop :=
  ∃ r : Int, e = .returned (.int .i64 r) ∧ -1 ≤ r ∧ (0 ≤ r → r + (a0.size : Nat) = left) ∧ Grw w w'
set_option maxHeartbeats 2000000 in
theorem sz_Rule (a0 : ByteArray) (a1 : Int) (left : Int) (l1 : -1 ≤ left) (l2 : left ≤ 1099511627776) (w : World) (z0 : a0.size ≤ 9223372036854775807) :
    Calls Tryz.prog 152 #[.agg #[.string a0, .int .i64 a1], .int .i64 left] w (SzRule a0 left w) := by
  have HB := Lib.hid ((Grw.refl w).alloc (.cells #[.string a0, .int .i64 a1] 213))
  by_cases c0 : left - a0.size < 0
  · go_enter Tryz.func152, Tryz.ntmps152
    go_wp2_with fail
    go_ret
    exact ⟨-1, rfl, by omega, by omega, HB.out⟩
  go_enter Tryz.func152, Tryz.ntmps152
  go_wp2_with fail
  go_ret
  exact ⟨left - a0.size, rfl, by omega, by omega, HB.out⟩

set_option maxRecDepth 100000 in
set_option maxHeartbeats 4000000 in
theorem sz_RuleS (x : Rw) (hx : IsRuleS x) (left : Int) (l1 : 0 ≤ left) (l2 : left ≤ 1099511627776) (w : World) (rx : x.ReadR w.heap.size w) (hz : x.Small) :
    Calls Tryz.prog 123 #[x.cell, .int .i64 left] w fun e w' => ∃ r : Int, e = .returned (.int .i64 r) ∧ -1 ≤ r ∧ (0 ≤ r → r + (x.weight : Nat) = left) ∧ Grw w w' := by
  obtain ⟨v, n, e0, cs, rfl, hrow⟩ := hx
  rw [Rw.ReadR] at rx; rw [Rw.Small] at hz; rw [Rw.cell_sl, Rw.weight]
  obtain ⟨⟨a, cap, rfl, hlen, hc1, hc2, _, hcells⟩, hin⟩ := rx
  have HROW := Lib.hid hrow; have HC := Lib.hid hcells; have HIN := Lib.hid hin; have HZ := Lib.hid (smallL_iff.1 hz); have HLEN := Lib.hid hlen
  clear hrow hcells hin hz hlen
  obtain ⟨wt, hwt⟩ : ∃ f : Nat → Nat, f = fun m => weightL (cs.take m) := ⟨_, rfl⟩
  have HWT := Lib.hid hwt; clear hwt
  by_cases h0 : left - n < 0
  · go_enter Tryz.func123, Tryz.ntmps123
    go_wp2
    go_ret
    exact ⟨-1, rfl, by omega, by omega, Grw.refl _⟩
  · go_enter Tryz.func123, Tryz.ntmps123
    go_wp2
    go_loopw [1, 5] (fun q i wr => ∃ (j : Nat) (r : Int), j ≤ n ∧ i = .int .i64 j ∧ q = .int .i64 r ∧ 0 ≤ r ∧ r + n + (wt (j * 2) : Nat) = left ∧ Grw w wr)
      (fun _ i _ => n - (intOf i).toNat)
    case atStart => exact ⟨0, left - n, Nat.zero_le _, rfl, rfl, by omega, by rw [HWT.out]; (simp [weightL]; try omega), Grw.refl _⟩
    case round =>
      obtain ⟨j, r, hj, rfl, rfl, hr0, hr1, hs⟩ := hrel
      have HS := Lib.hid hs; have HR1 := Lib.hid hr1
      have hr2 : r ≤ 1099511627776 := by omega
      clear hs hr1
      by_cases hlt : (j : Int) < (n : Int)
      · rcases HC.out with hz0 | ⟨g, off, rfl, hg, hcells⟩
        · omega
        · have HCL := Lib.hid hcells; clear hcells
          obtain ⟨a0, a1, f0, f1⟩ := HROW.out j (by omega)
          have c0 : wr.cell? ⟨g, off + j * 2, none⟩ = some (.string a0) := by rw [HS.out.below.cell (show g < _ by omega)]; exact HCL.out (j * 2) _ (by rw [List.getElem?_map, f0]; rfl)
          have z0 : a0.size ≤ 9223372036854775807 := by have := HZ.out _ (List.mem_of_getElem? f0); rw [Rw.Small] at this; exact this
          have hw0 : weightL (cs.take (j * 2 + 1)) = weightL (cs.take (j * 2)) + _ := weightL_more f0; rw [Rw.weight] at hw0; simp only [weightV] at hw0
          have c1 : wr.cell? ⟨g, off + j * 2 + 1, none⟩ = some (.int .i64 a1) := by rw [HS.out.below.cell (show g < _ by omega)]; rw [Nat.add_assoc]; exact HCL.out (j * 2 + 1) _ (by rw [List.getElem?_map, f1]; rfl)
          have hw1 : weightL (cs.take (j * 2 + 2)) = weightL (cs.take (j * 2 + 1)) + _ := weightL_more f1; rw [Rw.weight] at hw1; simp only [weightV] at hw1
          have HW := Lib.hid (show wt ((j + 1) * 2) = wt (j * 2) + (a0.size) by rw [HWT.out, Nat.add_mul, Nat.one_mul]; show weightL (cs.take (j * 2 + 2)) = weightL (cs.take (j * 2)) + _; omega)
          clear hw0 hw1
          go_wp2_with fail
          refine (sz_Rule a0 a1 r (by omega) hr2 _ z0).mono ?_
          rintro e w2 ⟨r2, rfl, hr3, hr4, hg2⟩
          have HG2 := Lib.hid (HS.out.trans hg2); clear hg2
          by_cases hneg : r2 < 0
          · go_wp2_with fail
            go_ret
            exact ⟨-1, rfl, by omega, by omega, HG2.out⟩
          · have hr5 := hr4 (by omega)
            clear hr4
            have HR5 := Lib.hid hr5; clear hr5
            go_wp2_with fail
            go_roundw
            case rel => exact ⟨j + 1, r2, by omega, by go_num, rfl, by omega, by rw [HW.out]; have := HR5.out; have := HR1.out; omega, HG2.out⟩
            case measure => simp [intOf]; omega
      · have hjn : j = n := by omega
        subst hjn
        have HF := Lib.hid (show wt (j * 2) = weightL cs by rw [HWT.out]; show weightL (cs.take (j * 2)) = _; rw [List.take_of_length_le (by have := HLEN.out; omega)])
        go_wp2_with fail
        go_ret
        exact ⟨r, rfl, by omega, fun _ => by have := HF.out; have := HR1.out; omega, HS.out⟩

theorem info_RuleS : (Tryz.prog.info? 180).map (fun i => (i.zero, i.size, i.bytes)) = some (some (.agg #[.string ⟨#[]⟩, .int .i64 0]), 2, 24) := by kernel_rfl
set_option maxRecDepth 100000 in
set_option maxHeartbeats 4000000 in
theorem to_RuleS (x : Rw) (hx : IsRuleS x) (w : World) (rx : x.ReadR w.heap.size w) (hl : x.weight ≤ 4398046511104) :
    Calls Tryz.prog 125 #[x.cell] w fun e w' => ∃ y : Rw, e = .returned y.cell ∧ IsRuleS y ∧ y.data = x.data ∧ y.blocks.Nodup ∧ y.OwnR w.heap.size w'.heap.size w' ∧ Below w.heap.size w w' := by
  obtain ⟨i0, hi0, hz0, hz1, hz2⟩ := info_parts info_RuleS
  obtain ⟨v, n, e0, cs, rfl, hrow⟩ := hx
  rw [Rw.ReadR] at rx; rw [Rw.weight] at hl; rw [Rw.cell_sl, Rw.data]
  obtain ⟨⟨a, cap, rfl, hlen, hc1, hc2, _, hcells⟩, hin⟩ := rx
  have hnl : n ≤ 4398046511104 := by omega
  have hall : ∀ c ∈ cs, c.blocks = [] ∧ c.cell.oneCell' = true ∧ c = .leaf c.cell := rows_all (K := 2) (by decide) hlen _ fun j hj t ht => by
    obtain ⟨a0, a1, f0, f1⟩ := hrow j hj
    rcases (show t = 0 ∨ t = 1 by omega) with rfl | rfl
    · exact ⟨_, f0, by rw [Rw.blocks], rfl, rfl⟩
    · exact ⟨_, f1, by rw [Rw.blocks], rfl, rfl⟩
  have HROW := Lib.hid hrow; have HC := Lib.hid hcells; have HLEN := Lib.hid hlen; have HI := Lib.hid hz2; have HALL := Lib.hid hall
  clear hrow hcells hin hlen hz2 hall hl
  go_enter Tryz.func125, Tryz.ntmps125
  go_wp2_with (at_make; refine wpList_make_full _ rfl _ _ 129 rfl w.heap.size 180 i0 (.agg #[.string ⟨#[]⟩, .int .i64 0]) 2 Tryz.underlying129 hi0 hz0 hz1 .i64 .i64 _ _ n rfl rfl rfl rfl ?c1 ?c2 (Nat.le_refl _) ?_)
  case c1 => rw [HI.out]; omega
  case c2 => unfold maxLen; omega
  intro w1 hown1 hgr1
  have hb1 : Below w.heap.size w w1 := (Below.refl _ _).grown hgr1 (Nat.le_refl _) (fun k h => by cases h)
  have HO1 := Lib.hid hown1; have HB1 := Lib.hid hb1; clear hown1 hgr1 hb1
  go_wp2
  go_loopw [4] (fun i wr => ∃ (j : Nat) (us : List Value), j ≤ n ∧ i = .int .i64 j ∧ wr.ownsRow w.heap.size 180 2 (.slice (some ⟨w.heap.size, 0, none⟩) n n) n us ∧ (∀ i, i < j * 2 → us[i]? = (cs.map Rw.cell)[i]?) ∧ Below w.heap.size w wr)
    (fun i _ => n - (intOf i).toNat)
  case atStart => exact ⟨0, _, Nat.zero_le _, rfl, HO1.out, fun i hi => by omega, HB1.out⟩
  case round =>
    obtain ⟨j, us, hj, rfl, hown, hup, hbw⟩ := hrel
    have HO := Lib.hid hown; have HU := Lib.hid hup; have HB := Lib.hid hbw
    clear hown hup hbw HO1 HB1
    by_cases hlt : (j : Int) < (n : Int)
    · rcases HC.out with h0 | ⟨g, off, rfl, hg, hcells⟩
      · omega
      · have HCL := Lib.hid hcells; clear hcells
        obtain ⟨a0, a1, f0, f1⟩ := HROW.out j (by omega)
        have c0 : wr.cell? ⟨g, off + j * 2, none⟩ = some (.string a0) := by rw [HB.out.cell (show g < _ by omega)]; exact HCL.out (j * 2) _ (by rw [List.getElem?_map, f0]; rfl)
        have HM0 := Lib.hid (show (cs.map Rw.cell)[j * 2]? = some (.string a0) by rw [List.getElem?_map, f0]; rfl)
        have c1 : wr.cell? ⟨g, off + j * 2 + 1, none⟩ = some (.int .i64 a1) := by rw [HB.out.cell (show g < _ by omega)]; rw [Nat.add_assoc]; exact HCL.out (j * 2 + 1) _ (by rw [List.getElem?_map, f1]; rfl)
        have HM1 := Lib.hid (show (cs.map Rw.cell)[j * 2 + 1]? = some (.int .i64 a1) by rw [List.getElem?_map, f1]; rfl)
        clear f0 f1
        go_wp2_with fail
        refine (to_Rule a0 a1 _).mono ?_
        rintro e w2 ⟨rfl, hg2⟩
        have hb2 := hg2.below
        have hown2 := ownsRow_only HO.out (OnlyB.of_below hb2 []) (fun _ _ hm => by cases hm)
        have hxl : us.length = n * 2 := HO.out.1
        obtain ⟨u0, hu0⟩ : ∃ u, us[j * 2]? = some u := ⟨_, List.getElem?_eq_getElem (by omega)⟩
        have d0 : w2.cell? ⟨w.heap.size, j * 2, none⟩ = some u0 := by rw [hown2.cellAt (j * 2) (by omega)]; exact hu0
        have z0 : w2.frozen? ⟨w.heap.size, j * 2, none⟩ = false := hown2.frozenAt _
        obtain ⟨u1, hu1⟩ : ∃ u, us[j * 2 + 1]? = some u := ⟨_, List.getElem?_eq_getElem (by omega)⟩
        have d1 : w2.cell? ⟨w.heap.size, j * 2 + 1, none⟩ = some u1 := by rw [hown2.cellAt (j * 2 + 1) (by omega)]; exact hu1
        have z1 : w2.frozen? ⟨w.heap.size, j * 2 + 1, none⟩ = false := hown2.frozenAt _
        have HO2 := Lib.hid hown2; have HX := Lib.hid hxl
        have HB2 := Lib.hid (HB.out.trans (hb2.mono HB.out.size))
        clear hu0 hu1 hown2 hb2 hg2 hxl
        go_wp2
        go_roundw
        case rel =>
          refine ⟨j + 1, _, by omega, by go_num, ((HO2.out.stored _ _).1.stored _ _).1, fun i hi => ?_, ((HB2.out.setCell (Nat.le_refl _) _).setCell (Nat.le_refl _) _)⟩
          have hxl := HX.out
          by_cases i1 : i = j * 2 + 1
          · rw [i1, List.getElem?_set_self (by first | omega | (simp only [List.length_set]; omega))]; exact HM1.out.symm
          by_cases i0 : i = j * 2
          · rw [i0, List.getElem?_set_ne (by omega), List.getElem?_set_self (by first | omega | (simp only [List.length_set]; omega))]; exact HM0.out.symm
          rw [List.getElem?_set_ne (by omega), List.getElem?_set_ne (by omega)]; exact HU.out i (by omega)
        case measure => simp [intOf]; omega
    · have hjn : j = n := by omega
      subst hjn
      have hus : us = cs.map Rw.cell := by
        apply List.ext_getElem?
        intro i
        by_cases hi : i < j * 2
        · exact HU.out i hi
        · rw [List.getElem?_eq_none (by have := HO.out.1; omega), List.getElem?_eq_none (by rw [List.length_map]; have := HLEN.out; omega)]
      have HF := Lib.hid hus; clear hus
      have hbn := blocksL_nil fun c hc => (HALL.out c hc).1
      have HBN := Lib.hid hbn; clear hbn
      go_wp2
      go_ret
      refine ⟨.sl (.slice (some ⟨w.heap.size, 0, none⟩) j j) j 2 180 cs, rfl, ⟨_, _, _, _, rfl, HROW.out⟩, by rw [Rw.data], ?_, ?_, HB.out⟩
      · rw [Rw.blocks, HBN.out]; simp [Value.ownBlock]
      · rw [Rw.OwnR]
        refine ⟨⟨by rw [← HF.out]; exact HO.out, fun g hg => (HO.out.lt g hg).2⟩, ownRL_iff.2 fun c hc => ?_⟩
        obtain ⟨_, h2, h3⟩ := HALL.out c hc
        rw [h3, Rw.OwnR]; exact h2

end Go.Proofs.YtpkicliimhflgaaGreatDoor
