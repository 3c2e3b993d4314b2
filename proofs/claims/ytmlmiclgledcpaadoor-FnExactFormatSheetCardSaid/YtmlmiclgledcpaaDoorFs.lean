/- FormatSheet of the model and of the program: the rules' forms, joined by semicolons. Asked: the sheet lies in memory as named, its texts are not too long, its colors are numbers of 64 bits; for the program: the library's table of powers of ten lies in memory as its initialiser lays it. -/
import Derived.Test.YtmlmiclgledcpaaDoorFmtLawD
import Derived.Test.YtmlmiclgledcpaaDoorShelfJ
import Derived.Test.YtmlmiclgledcpaaDoorAppU
import Derived.Test.YtmlmiclgledcpaaDoorBl
import Derived.Test.YtmlmiclgledcpaaDoorStr
import Derived.Lib.Join
import Derived.Deep.RegionHeld3
import Derived.Laws.Concat
namespace Go.Proofs.YtmlmiclgledcpaaDoor
open Go.ChangeShapes Go.WideShapes Go.ChangeAt Go.RowKit

/-- A rule's form. -/
def ruF (r : Ru) : ByteArray := r.1 ++ ⟨#[58]⟩ ++ fmtS r.2
/-- A sheet's form. -/
def fmtSh (rs : List Ru) : ByteArray := ofL (Lib.join (rs.map fun r => (ruF r).data.toList) [59])
theorem fmtSh_list (rs : List Ru) : (fmtSh rs).data.toList = Lib.join (rs.map fun r => (ruF r).data.toList) [59] := ofL_list _
theorem joinTail_snoc (sep : List UInt8) (xs : List (List UInt8)) (y : List UInt8) : Lib.joinTail sep (xs ++ [y]) = Lib.joinTail sep xs ++ (sep ++ y) := by
  unfold Lib.joinTail; simp
theorem fmtSh_zero : fmtSh [] = ⟨#[]⟩ := rfl
theorem fmtSh_one (r : Ru) : (fmtSh [r]).data.toList = (ruF r).data.toList := by rw [fmtSh_list, List.map_cons, List.map_nil, Lib.join_one]
theorem fmtSh_snoc {rs : List Ru} (r : Ru) (h : rs ≠ []) : (fmtSh (rs ++ [r])).data.toList = (fmtSh rs).data.toList ++ ([59] ++ (ruF r).data.toList) := by
  cases rs with
  | nil => exact absurd rfl h
  | cons x xs =>
    rw [fmtSh_list, fmtSh_list, List.map_append, List.map_cons, List.cons_append, Lib.join_cons, Lib.join_cons, List.map_cons, List.map_nil, joinTail_snoc, List.append_assoc]
theorem itoa_len (n : Int) (h1 : -9223372036854775808 ≤ n) (h2 : n ≤ 9223372036854775807) : (fmtS n).size ≤ 21 := by
  have hs : (fmtS n).size = (Lib.itoa n).length := by unfold fmtS; exact List.size_toArray
  rw [hs, Lib.itoa]
  split
  · have := dec_lenF n.natAbs (by omega)
    rw [List.length_cons]; omega
  · have := dec_lenF n.toNat (by omega)
    omega
theorem ruF_size {r : Ru} (h : RuOk r) : (ruF r).size ≤ r.1.size + 22 := by
  have := itoa_len r.2 h.2.1 h.2.2
  have h1 : (⟨#[58]⟩ : ByteArray).size = 1 := rfl
  unfold ruF
  rw [ByteArray.size_append, ByteArray.size_append, h1]; omega
def sumN (rs : List Ru) : Nat := (rs.map fun r => r.1.size).sum
theorem joinT_size : ∀ {rs : List Ru}, (∀ r ∈ rs, RuOk r) → (Lib.joinTail [59] (rs.map fun r => (ruF r).data.toList)).length ≤ sumN rs + 23 * rs.length
  | [], _ => Nat.zero_le _
  | r :: rs, h => by
    have ih := joinT_size fun x hx => h x (List.mem_cons_of_mem _ hx)
    have h1 := ruF_size (h r List.mem_cons_self)
    have h2 : (Lib.joinTail [59] ((r :: rs).map fun r => (ruF r).data.toList)) = (59 :: (ruF r).data.toList) ++ Lib.joinTail [59] (rs.map fun r => (ruF r).data.toList) := by
      unfold Lib.joinTail; simp
    rw [h2, List.length_append, List.length_cons, size_list, sumN, List.map_cons, List.sum_cons, List.length_cons]
    unfold sumN at ih
    omega
theorem fmtSh_size {rs : List Ru} (h : ∀ r ∈ rs, RuOk r) : (fmtSh rs).size ≤ sumN rs + 23 * rs.length := by
  have h0 : (fmtSh rs).size = (Lib.join (rs.map fun r => (ruF r).data.toList) [59]).length := ofL_size _
  rw [h0]
  cases rs with
  | nil => exact Nat.zero_le _
  | cons r rs =>
    have h1 := ruF_size (h r List.mem_cons_self)
    have h2 := joinT_size fun x hx => h x (List.mem_cons_of_mem _ hx)
    rw [List.map_cons, Lib.join_cons, List.length_append, size_list, sumN, List.map_cons, List.sum_cons, List.length_cons]
    unfold sumN at h2
    omega
theorem sumN_take (rs : List Ru) (k : Nat) : sumN (rs.take k) ≤ sumN rs := by
  have : sumN rs = sumN (rs.take k) + sumN (rs.drop k) := by
    conv => lhs; rw [← List.take_append_drop k rs]
    unfold sumN; rw [List.map_append, List.sum_append]
  omega
theorem sumN_at {rs : List Ru} {k : Nat} {r : Ru} (h : rs[k]? = some r) : r.1.size ≤ sumN rs := by
  have h1 := sumN_take rs (k + 1)
  rw [take_snoc h] at h1
  unfold sumN at h1
  rw [List.map_append, List.sum_append] at h1
  simp at h1
  unfold sumN
  omega

set_option maxRecDepth 100000 in
set_option maxHeartbeats 4000000 in
theorem fsheet_spec (v : Value) (rs : List Ru) (w : World) (h : ReadsK encU 2 w.heap.size w v rs) (hok : ∀ r ∈ rs, RuOk r) (hl : rs.length ≤ 1048576) (hz : sumN rs ≤ 1048576) :
    Calls Tryd.prog 11 #[.agg #[v]] w fun e w' => e = .returned (.string (fmtSh rs)) ∧ Below w.heap.size w w' := by
  obtain ⟨a, cap, rfl, hc1, hc2, _⟩ := id h
  obtain ⟨n, hn⟩ : ∃ n, rs.length = n := ⟨_, rfl⟩
  rw [hn] at h hc1 hl ⊢
  obtain ⟨W0, hW0⟩ : ∃ W, w.alloc (.cells #[.slice a n cap] 24) = W := ⟨_, rfl⟩
  have hb0 : Below w.heap.size w W0 := by rw [← hW0]; exact (Below.refl _ _).alloc (Nat.le_refl _) _
  have hx0 : W0.heap[w.heap.size]? = some (.cells #[.slice a n cap] 24 (0, 0)) := by rw [← hW0]; exact (MapKept.heap_alloc w _).1
  obtain ⟨tx, htx⟩ : ∃ f : Nat → ByteArray, f = fun m => fmtSh (rs.take m) := ⟨_, rfl⟩
  have HTX := Lib.hid htx
  have HTS := Lib.hid (fun m => show (tx m).size ≤ 25165824 by
    rw [htx]
    have h1 := fmtSh_size (rs := rs.take m) fun r hr => hok r (List.mem_of_mem_take hr)
    have h2 := sumN_take rs m
    have h3 := List.length_take_le' m rs
    show (fmtSh (rs.take m)).size ≤ _
    omega)
  have H := Lib.hid h; have HN := Lib.hid hn; have HOK := Lib.hid hok; have HZ := Lib.hid hz; have HX := Lib.hid hx0; have HB0 := Lib.hid hb0; have HW0 := Lib.hid hW0
  clear h hn hok hz hx0 hb0 hW0 htx
  go_enter Tryd.func11, Tryd.ntmps11
  go_wp2_with fail
  rw [HW0.out]
  go_loopw [3, 4] (fun c i wr => ∃ (k : Nat), k ≤ n ∧ i = .int .i64 k ∧ c = .string (tx k) ∧ Below W0.heap.size W0 wr)
    (fun _ i _ => n - (intOf i).toNat)
  case atStart => exact ⟨0, Nat.zero_le _, rfl, by rw [HTX.out]; rfl, Below.refl _ _⟩
  case round =>
    obtain ⟨k, hk, rfl, rfl, hb⟩ := hrel
    have HB := Lib.hid hb; clear hb
    have hx := below_heap HB.out (heap_lt HX.out) HX.out
    have q0 := box_cell hx (j := 0) rfl
    have hbx := heap_lt hx
    by_cases hlt : (k : Int) < (n : Int)
    · obtain ⟨nm, c, hr⟩ := ru_at (xs := rs) (j := k) (by rw [HN.out]; omega)
      obtain ⟨g, off, rfl, hg, d0, d1⟩ := H.out.rule hr
      have hgw : g < W0.heap.size := by have := HB0.out.size; omega
      have hgr : g < wr.heap.size := by have := HB.out.size; omega
      replace d0 : wr.cell? ⟨g, off + k * 2, none⟩ = some (.string nm) := by rw [HB.out.cell hgw, HB0.out.cell (show g < _ from hg)]; exact d0
      replace d1 : wr.cell? ⟨g, off + k * 2 + 1, none⟩ = some (.int .i64 c) := by rw [HB.out.cell hgw, HB0.out.cell (show g < _ from hg)]; exact d1
      obtain ⟨ok0, ok1, ok2⟩ := HOK.out _ (List.mem_of_getElem? hr)
      have hnm := sumN_at hr
      have hy1 : (tx k).size ≤ 25165824 := HTS.out k
      have hy2 : nm.size ≤ 1048576 := by have := HZ.out; simp only at hnm; omega
      have hfc := itoa_len c ok1 ok2
      have HFI := Lib.hid (fun W => fmt_spec c ok1 ok2 W)
      obtain ⟨F, hF⟩ : ∃ F, fmtS c = F := ⟨_, rfl⟩
      rw [hF] at hfc HFI
      have KEEP := Lib.hid (fun (w' : World) (h : Below wr.heap.size wr w') => show Below wr.heap.size wr w' ∧ w'.cell? ⟨w.heap.size, 0, none⟩ = some (.slice (some ⟨g, off, none⟩) n cap) ∧ w'.cell? ⟨g, off + k * 2, none⟩ = some (.string nm) ∧ w'.cell? ⟨g, off + k * 2 + 1, none⟩ = some (.int .i64 c) from ⟨h, (h.cell hbx).trans q0, (h.cell hgr).trans d0, (h.cell hgr).trans d1⟩)
      have HBW := Lib.hid (fun (w' : World) (h : Below wr.heap.size wr w') => show Below W0.heap.size W0 w' from HB.out.trans (h.mono HB.out.size))
      have hk0 : (0 : Int) ≤ (k : Int) := by omega
      have h58 : (⟨#[58]⟩ : ByteArray).size = 1 := rfl
      have hkn' : (k : Int) < (n : Int) := hlt
      by_cases hkz : (0 : Int) < (k : Int)
      · obtain ⟨X, hX⟩ : ∃ Y, tx k ++ ⟨#[59]⟩ = Y := ⟨_, rfl⟩
        have h59 : (⟨#[59]⟩ : ByteArray).size = 1 := rfl
        have hz0 : X.size ≤ 25165825 := by rw [← hX, ByteArray.size_append, h59]; omega
        have a0 : ∀ W, (Op.stringOp .add (tx k) ⟨#[59]⟩).run Tryd.prog W = .ok (.string X) W := fun W => by rw [← hX]; exact run_string_add_sum _ _ _ (by omega)
        have HXX := Lib.hid (show (tx (k + 1)).data.toList = X.data.toList ++ (nm.data.toList ++ ([58] ++ F.data.toList)) by
          rw [← hX, append_list, HTX.out]
          show (fmtSh (rs.take (k + 1))).data.toList = (fmtSh (rs.take k)).data.toList ++ _ ++ _
          rw [take_snoc hr, fmtSh_snoc _ (by intro e; have := congrArg List.length e; rw [List.length_take] at this; simp only [List.length_nil] at this; have h2 := HN.out; omega), ← hF]
          unfold ruF
          rw [append_list, append_list, List.append_assoc, List.append_assoc])
        clear hX
        obtain ⟨X1, hX1⟩ : ∃ Y, X ++ nm = Y := ⟨_, rfl⟩
        obtain ⟨X2, hX2⟩ : ∃ Y, X1 ++ ⟨#[58]⟩ = Y := ⟨_, rfl⟩
        obtain ⟨X3, hX3⟩ : ∃ Y, X2 ++ F = Y := ⟨_, rfl⟩
        have hz1 : X1.size ≤ 26214401 := by rw [← hX1, ByteArray.size_append]; omega
        have hz2 : X2.size ≤ 26214402 := by rw [← hX2, ByteArray.size_append, h58]; omega
        have a1 : ∀ W, (Op.stringOp .add X nm).run Tryd.prog W = .ok (.string X1) W := fun W => by rw [← hX1]; exact run_string_add_sum _ _ _ (by omega)
        have a2 : ∀ W, (Op.stringOp .add X1 ⟨#[58]⟩).run Tryd.prog W = .ok (.string X2) W := fun W => by rw [← hX2]; exact run_string_add_sum _ _ _ (by omega)
        have a3 : ∀ W, (Op.stringOp .add X2 F).run Tryd.prog W = .ok (.string X3) W := fun W => by rw [← hX3]; exact run_string_add_sum _ _ _ (by omega)
        have HX3 := Lib.hid (show X3 = tx (k + 1) by
          refine bytesEq ?_
          rw [← hX3, ← hX2, ← hX1, append_list, append_list, append_list, HXX.out]
          simp)
        clear hX1 hX2 hX3 hr hF hnm hx HXX
        go_wp2_with fail
        go_region_held3 (fun w' => Below wr.heap.size wr w' ∧ w'.cell? ⟨w.heap.size, 0, none⟩ = some (.slice (some ⟨g, off, none⟩) n cap) ∧ w'.cell? ⟨g, off + k * 2, none⟩ = some (.string nm) ∧ w'.cell? ⟨g, off + k * 2 + 1, none⟩ = some (.int .i64 c)) (exact KEEP.out _ (by repeat' (first | (with_reducible exact Below.refl _ _) | (with_reducible exact hPA) | (with_reducible refine bl_dw ?_) | (with_reducible refine bl_aw ?_ _)))) (first | (go_at_call 24; refine (HFI.out _).mono ?_; rintro e wA ⟨rfl, hbA⟩; have hPA := bl_tr (show Below wr.heap.size wr _ from (by repeat' (first | (with_reducible exact Below.refl _ _) | (with_reducible refine bl_dw ?_) | (with_reducible refine bl_aw ?_ _)))) hbA))
        all_goals
          go_wp2_with fail
          go_roundw
          case rel => exact ⟨k + 1, by omega, by go_num, by first | (rw [← HX3.out]; done) | (rw [← HX3.out]; rfl), HBW.out _ (by repeat' (first | (with_reducible exact Below.refl _ _) | (with_reducible exact hPA) | (with_reducible refine bl_dw ?_) | (with_reducible refine bl_aw ?_ _)))⟩
          case measure => simp [intOf] <;> omega
      · have hk0' : k = 0 := by omega
        obtain ⟨X, hX⟩ : ∃ Y, tx k = Y := ⟨_, rfl⟩
        have hz0 : X.size ≤ 25165825 := by rw [← hX]; omega
        have HXX := Lib.hid (show (tx (k + 1)).data.toList = X.data.toList ++ (nm.data.toList ++ ([58] ++ F.data.toList)) by
          rw [← hX, HTX.out, hk0']
          rw [hk0'] at hr
          show (fmtSh (rs.take 1)).data.toList = (fmtSh (rs.take 0)).data.toList ++ _
          rw [show rs.take 1 = [(nm, c)] by have := take_snoc hr; simpa using this, fmtSh_one, ← hF]
          unfold ruF
          rw [append_list, append_list, List.append_assoc]; rfl)
        rw [hX]
        clear hX hk0'
        obtain ⟨X1, hX1⟩ : ∃ Y, X ++ nm = Y := ⟨_, rfl⟩
        obtain ⟨X2, hX2⟩ : ∃ Y, X1 ++ ⟨#[58]⟩ = Y := ⟨_, rfl⟩
        obtain ⟨X3, hX3⟩ : ∃ Y, X2 ++ F = Y := ⟨_, rfl⟩
        have hz1 : X1.size ≤ 26214401 := by rw [← hX1, ByteArray.size_append]; omega
        have hz2 : X2.size ≤ 26214402 := by rw [← hX2, ByteArray.size_append, h58]; omega
        have a1 : ∀ W, (Op.stringOp .add X nm).run Tryd.prog W = .ok (.string X1) W := fun W => by rw [← hX1]; exact run_string_add_sum _ _ _ (by omega)
        have a2 : ∀ W, (Op.stringOp .add X1 ⟨#[58]⟩).run Tryd.prog W = .ok (.string X2) W := fun W => by rw [← hX2]; exact run_string_add_sum _ _ _ (by omega)
        have a3 : ∀ W, (Op.stringOp .add X2 F).run Tryd.prog W = .ok (.string X3) W := fun W => by rw [← hX3]; exact run_string_add_sum _ _ _ (by omega)
        have HX3 := Lib.hid (show X3 = tx (k + 1) by
          refine bytesEq ?_
          rw [← hX3, ← hX2, ← hX1, append_list, append_list, append_list, HXX.out]
          simp)
        clear hX1 hX2 hX3 hr hF hnm hx HXX
        go_wp2_with fail
        go_region_held3 (fun w' => Below wr.heap.size wr w' ∧ w'.cell? ⟨w.heap.size, 0, none⟩ = some (.slice (some ⟨g, off, none⟩) n cap) ∧ w'.cell? ⟨g, off + k * 2, none⟩ = some (.string nm) ∧ w'.cell? ⟨g, off + k * 2 + 1, none⟩ = some (.int .i64 c)) (exact KEEP.out _ (by repeat' (first | (with_reducible exact Below.refl _ _) | (with_reducible exact hPA) | (with_reducible refine bl_dw ?_) | (with_reducible refine bl_aw ?_ _)))) (first | (go_at_call 24; refine (HFI.out _).mono ?_; rintro e wA ⟨rfl, hbA⟩; have hPA := bl_tr (show Below wr.heap.size wr _ from (by repeat' (first | (with_reducible exact Below.refl _ _) | (with_reducible refine bl_dw ?_) | (with_reducible refine bl_aw ?_ _)))) hbA))
        all_goals
          go_wp2_with fail
          go_roundw
          case rel => exact ⟨k + 1, by omega, by go_num, by first | (rw [← HX3.out]; done) | (rw [← HX3.out]; rfl), HBW.out _ (by repeat' (first | (with_reducible exact Below.refl _ _) | (with_reducible exact hPA) | (with_reducible refine bl_dw ?_) | (with_reducible refine bl_aw ?_ _)))⟩
          case measure => simp [intOf] <;> omega
    · have hkn : k = n := by omega
      subst hkn
      have HF := Lib.hid (show tx k = fmtSh rs by rw [HTX.out]; show fmtSh (rs.take k) = _; rw [List.take_of_length_le (by rw [HN.out]; exact Nat.le_refl _)])
      clear hx
      go_wp2_with fail
      go_ret
      exact ⟨by rw [← HF.out]; rfl, HB0.out.trans (HB.out.mono HB0.out.size)⟩
end Go.Proofs.YtmlmiclgledcpaaDoor
