/- Helper contracts: ColorAt of the model and of the program answer alike. Asked: the sheets and the builder lie in memory as named. The helper contracts of chapter 7 over copies that a law makes of its sheets. Helper facts, no claim of its own. ColorAt of model and program over copies that a law makes of its arguments. Helper facts, no claim of its own. How many marks rules take. Helper facts, no claim of its own. RunLine of model and program over copies that a law makes of its arguments. Helper facts, no claim of its own. -/
import Derived.Test.YtpkicliimhflgaaGreatDoorMf14
import Derived.Test.YtpkicliimhflgaaGreatDoorMf18
import Derived.Test.YtpkicliimhflgaaGreatDoorMf6
import Derived.Test.YtpkicliimhflgaaGreatDoorMf7
import Derived.Test.YtpkicliimhflgaaGreatDoorMf16
import Derived.Test.YtpkicliimhflgaaGreatDoorMf17
import Derived.Test.YtpkicliimhflgaaGreatDoorMf10
namespace Go.Proofs.YtpkicliimhflgaaGreatDoor

open Go.ChangeShapes Go.WideShapes Go.ChangeAt Go.RowKit Go.Maps

/-- The color of node n, or of the next node above it that has one: k nodes are looked at. -/
def colAt (rs : List Ru) (ns : List Nd) : Nat → Int → Int
  | 0, _ => 0
  | k + 1, n => if 0 ≤ n ∧ n < (ns.length : Int) then
      match ns[n.toNat]? with
      | some x => if colOf rs x.name ≠ 0 then colOf rs x.name else colAt rs ns k x.parent
      | none => 0
    else 0
theorem colAt_out {rs : List Ru} {ns : List Nd} {k : Nat} {n : Int} (h : n < 0 ∨ (ns.length : Int) ≤ n) : colAt rs ns k n = 0 := by
  cases k with
  | zero => rfl
  | succ k => rw [colAt, if_neg (by omega)]
theorem colAt_in {rs : List Ru} {ns : List Nd} {k j : Nat} {x : Nd} (h : ns[j]? = some x) : colAt rs ns (k + 1) (j : Int) = if colOf rs x.name ≠ 0 then colOf rs x.name else colAt rs ns k x.parent := by
  have hj := (List.getElem?_eq_some_iff.1 h).1
  rw [colAt, if_pos (by omega), Int.toNat_natCast, h]

end Go.Proofs.YtpkicliimhflgaaGreatDoor
namespace Go.Proofs.YtpkicliimhflgaaGreatDoor
open Go.ChangeShapes Go.WideShapes Go.ChangeAt Go.RowKit

theorem toH_one (v : Value) (ss : List Shv) (w : World) (r : (rwH v ss).ReadR w.heap.size w) (h : (rwH v ss).weight ≤ 1048576) :
    Calls Tryz.prog 28 #[v] w fun e w' => ∃ y : Rw, e = .returned y.cell ∧ IsSheetS y ∧ y.data = (rwH v ss).data ∧ OwnRL w.heap.size w'.heap.size w' [y] ∧ (blocksL [y]).Nodup ∧ Below w.heap.size w w' := by
  refine (to_SheetS (rwH v ss) (rwH_is v ss) w r (Nat.le_trans h (by decide))).mono ?_
  rintro e w' ⟨y, rfl, h1, h2, h3, h4, h5⟩
  exact ⟨y, rfl, h1, h2, ownL_one.2 h4, by rw [blocksL, blocksL, List.append_nil]; exact h3, h5⟩
theorem colS_data {x : Rw} {u : Value} {ss : List Shv} {lo hi : Nat} {w : World} (h : x.data = (rwH u ss).data) (ho : x.OwnR lo hi w) (ok : ShsOk ss) (nm : ByteArray) :
    Calls Tryz.prog 74 #[x.cell, .string nm] w fun e w' => e = .returned (.int .i64 (colOf (flatR ss) nm)) ∧ Grw w w' := by
  obtain ⟨us, e, hr⟩ := sheets_of_data h (rd_of ho)
  have ok2 := ok.of e
  refine (colorOf_spec _ us nm w hr (Nat.le_trans ok2.len (by decide)) ok2.each).mono ?_
  rintro e w' ⟨rfl, rfl⟩
  exact ⟨by rw [flatR_of e], Grw.refl _⟩
theorem colI_data {x : Rw} {u : Value} {ss : List Shv} {lo hi : Nat} {w : World} (h : x.data = (rwH u ss).data) (ho : x.OwnR lo hi w) (ok : ShsOk ss) (nm : ByteArray) (hnm : nm.size ≤ 9223372036854775807) :
    Calls Tryz.prog 193 #[x.cell, .string nm] w fun e w' => e = .returned (.int .i64 (colOf (flatR ss) nm)) ∧ Below w.heap.size w w' := by
  obtain ⟨us, e, hr⟩ := sheets_of_data h (rd_of ho)
  have ok2 := ok.of e
  refine (colorOf_impl _ us nm hnm w hr (Nat.le_trans ok2.len (by decide)) ok2.each ok2.ok (Nat.le_trans ok2.tot (by decide))).mono ?_
  rintro e w' ⟨rfl, hb⟩
  exact ⟨by rw [flatR_of e], hb⟩

end Go.Proofs.YtpkicliimhflgaaGreatDoor
namespace Go.Proofs.YtpkicliimhflgaaGreatDoor
open Go.ChangeShapes Go.WideShapes Go.ChangeAt Go.RowKit

theorem th_any {w X : World} {v : Value} {ss : List Shv} (hr : ReadH w.heap.size w v ss) (hl : (rwH v ss).weight ≤ 1048576) (hb : Below w.heap.size w X) :
    Calls Tryz.prog 28 #[v] X fun e w' => ∃ a n c us, e = .returned (.slice a n c) ∧ us.map Prod.fst = ss.map Prod.fst ∧ ReadH w'.heap.size w' (.slice a n c) us ∧ Below X.heap.size X w' := by
  refine (toH_one v ss X (rwH_reads (hr.up hb)) hl).mono ?_
  rintro e w' ⟨y, rfl, i0, d0, ho, _, hb'⟩
  obtain ⟨us, e1, h1⟩ := sheets_of_data d0 (rd_of (ownL_one.1 ho))
  obtain ⟨a, n, c, e0⟩ := sl_form (is_sl_SheetS i0) (Rw.OwnR.reads _ (ownL_one.1 ho))
  rw [e0] at h1
  exact ⟨a, n, c, us, by rw [e0], e1, h1, hb'⟩

end Go.Proofs.YtpkicliimhflgaaGreatDoor
namespace Go.Proofs.YtpkicliimhflgaaGreatDoor
open Go.ChangeShapes Go.WideShapes Go.ChangeAt Go.RowKit

theorem ruCells_count : ∀ rs : List Ru, countL (ruCells rs) = 2 * rs.length
  | [] => rfl
  | r :: rs => by rw [ruCells, countL, countL, Rw.count, Rw.count, ruCells_count rs, List.length_cons]; omega
theorem rwU_count (v : Value) (rs : List Ru) : (rwU v rs).count = 2 * rs.length := by rw [rwU, Rw.count, ruCells_count]
theorem optL_nodup2 (v : Value) (rs : List Ru) : (blocksL [rwU v rs]).Nodup := by rw [blocksL, blocksL, List.append_nil, rwU_blocks]; exact optL_nodup _

end Go.Proofs.YtpkicliimhflgaaGreatDoor
namespace Go.Proofs.YtpkicliimhflgaaGreatDoor
open Go.ChangeShapes Go.WideShapes Go.ChangeAt Go.RowKit

/-- What RunLine answers, with the places of all that it made. -/
def RlForm (b : Bd) (rs : List Ru) (op : Int) (tx : ByteArray) (X : World) (e : Ending) (w' : World) : Prop :=
  ∃ na nn nc oa on oc ns, e = .returned (.tuple #[.agg #[.slice na nn nc, .slice oa on oc], .string (wrtS op tx), .string (lgdS b.nodes rs op tx)]) ∧ ns.map Prod.fst = rlN b.nodes op tx ∧ BdM X.heap.size X w' (.slice na nn nc) (.slice oa on oc) ns b.opn
theorem rlForm {b : Bd} {rs : List Ru} {op : Int} {tx : ByteArray} {X w' : World} {e : Ending} (h : RlOut b rs op tx X e w') : RlForm b rs op tx X e w' := by
  obtain ⟨nv, ov, ns, he, hns, hbd⟩ := h
  obtain ⟨na, nc, rfl⟩ := mineN_form hbd.n
  obtain ⟨oa, oc, rfl⟩ := mine_form hbd.o
  exact ⟨na, _, nc, oa, _, oc, ns, he, hns, hbd⟩
theorem shFit_of {ss us : List Shv} (h : ShsOk ss) (e : us.map Prod.fst = ss.map Prod.fst) : ShFit us := by
  have k := h.of e
  exact ⟨Nat.le_trans k.len (by decide), k.each, k.ok, Nat.le_trans k.tot (by decide)⟩
theorem rlS_any {X : World} {nv ov v : Value} {b : Bd} {ss us : List Shv} (op : Int) (tx : ByteArray) (hx : tx.size ≤ 1048576) (hb : BdIn X.heap.size X nv ov b) (hf : Fits b) (e : us.map Prod.fst = ss.map Prod.fst) (hs : ReadH X.heap.size X v us) (ok : ShsOk ss) :
    Calls Tryz.prog 23 #[.agg #[nv, ov], v, .agg #[.int .i64 op, .string tx]] X (RlForm b (flatR ss) op tx X) := by
  rw [← flatR_of e]
  exact (runLine_spec op tx v us nv ov b hx X hb hf hs (shFit_of ok e)).mono fun _ _ h => rlForm h
theorem rlI_any {X : World} {nv ov v : Value} {b : Bd} {ss us : List Shv} (op : Int) (tx : ByteArray) (hx : tx.size ≤ 1048576) (hb : BdIn X.heap.size X nv ov b) (hf : Fits b) (e : us.map Prod.fst = ss.map Prod.fst) (hs : ReadH X.heap.size X v us) (ok : ShsOk ss) (hm : Max0 X) (htab : Lib.TabIs Tryz.prog X "internal/strconv.uint64pow10" .u64 Lib.pow10Tab) :
    Calls Tryz.prog 18 #[.agg #[nv, ov], v, .agg #[.int .i64 op, .string tx]] X (RlForm b (flatR ss) op tx X) := by
  rw [← flatR_of e]
  exact (runLine_impl op tx v us nv ov b hx X hb hf hs (shFit_of ok e) hm htab).mono fun _ _ h => rlForm h
theorem shCells_countR : ∀ ss : List Shv, countL (shCells ss) = 2 * (flatR ss).length
  | [] => rfl
  | p :: ss => by
    rw [shCells, countL, rwU_count, shCells_countR ss, flatR, flatR, List.flatMap_cons, List.length_append]; omega
theorem rwH_countR (v : Value) (ss : List Shv) : (rwH v ss).count = 2 * (flatR ss).length := by rw [rwH, Rw.count, shCells_countR]
theorem mkH_oneR (y : Rw) (hy : IsSheetS y) (lo hi k0 : Nat) (q : Int) (hq : q = k0) (w : World) (ho : OwnRL lo hi w [y]) (hd : (blocksL [y]).Nodup) (hk : k0 + countL [y] ≤ 4611686018427387904) :
    Calls Tryz.prog 33 #[y.cell, .int .i64 q] w fun e w' => e = .returned (.int .i64 ((k0 + countL [y] : Nat) : Int)) ∧ OwnRL lo hi w' (markL [y] k0) ∧ OnlyB (blocksL [y]) w w' := by
  have e1 : countL [y] = y.count := by rw [countL, countL]; omega
  have e2 : blocksL [y] = y.blocks := by rw [blocksL, blocksL, List.append_nil]
  rw [e1] at hk ⊢; rw [e2] at hd ⊢
  refine (mk_SheetS y hy lo hi k0 q hq w (ownL_one.1 ho) hd hk).mono ?_
  rintro e w' ⟨h1, h2, h3⟩
  exact ⟨h1, by rw [markL, markL]; exact ownL_one.2 h2, h3⟩
theorem rlN_W (l : List Nd) (op : Int) (tx : ByteArray) : ndW (rlN l op tx) ≤ ndW l + 3 := by
  unfold rlN
  split
  · rw [ndW_append, ndW, ndW]; simp
  · omega

end Go.Proofs.YtpkicliimhflgaaGreatDoor
