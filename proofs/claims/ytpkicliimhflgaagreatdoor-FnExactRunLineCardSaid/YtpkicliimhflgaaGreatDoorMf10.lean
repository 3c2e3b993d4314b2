/- Helper contracts over the functions with which the laws copy, compare, measure and mark slices, by program (deep.py). Asked: what lies in memory is as named. Lines of a script in memory: what it means that a slice value reads as a list of them; append to lines of the call's own. Helper facts, no claim of its own. Pure facts of chapter 8: the words of a script's lines, what a line's form says, a script's form. No program. Helper contracts: the program's calls into Go's strings at one byte (IndexByte, CutPrefix at "/", Cut, Split), by the plain words of this development. Asked: the string is shorter than 2^32 bytes where it is divided. -/
import Derived.Test.YtpkicliimhflgaaGreatDoorMf2
import Derived.Shelf.SlSortCmp.QuietGrown
import Derived.Test.YtpkicliimhflgaaGreatDoorMf5
import Derived.Test.YtpkicliimhflgaaGreatDoorMf6
import Derived.Test.YtpkicliimhflgaaGreatDoorMf7
import Derived.Deep.AppendLies
import Derived.Test.YtpkicliimhflgaaGreatDoorMf4
import Derived.Lib.Join
import Derived.Test.YtpkicliimhflgaaGreatDoorShelf
namespace Go.Proofs.YtpkicliimhflgaaGreatDoor

open Go.ChangeShapes Go.WideShapes Go.ChangeAt Go.RowKit

/-- What a slice of this type holds. -/
def IsLineS (x : Rw) : Prop := ∃ v n e cs, x = .sl v n 2 e cs ∧ ∀ j, j < n → ∃ (a0 : Int) (a1 : ByteArray), cs[j * 2]? = some (.leaf (.int .i64 a0)) ∧ cs[j * 2 + 1]? = some (.leaf (.string a1))
theorem is_sl_LineS {x : Rw} (h : IsLineS x) : ∃ v n k e cs, x = .sl v n k e cs := by
  obtain ⟨v, n, e, cs, rfl, _⟩ := h
  exact ⟨v, n, _, e, cs, rfl⟩

set_option maxRecDepth 100000 in
set_option maxHeartbeats 4000000 in
theorem mk_LineS (x : Rw) (hx : IsLineS x) (lo hi k0 : Nat) (q : Int) (hq : q = k0) (w : World) (ho : x.OwnR lo hi w) (hd : x.blocks.Nodup) (hk : k0 + x.count ≤ 4611686018427387904) :
    Calls Tryz.prog 40 #[x.cell, .int .i64 q] w fun e w' => e = .returned (.int .i64 ((k0 + x.count : Nat) : Int)) ∧ (x.mark k0).OwnR lo hi w' ∧ OnlyB x.blocks w w' := by
  subst hq
  obtain ⟨v, n, e0, cs, rfl, hrow⟩ := hx
  rw [Rw.cell_sl]; rw [Rw.count] at hk ⊢; rw [mark_cell_sl]
  have ho2 := ho; rw [Rw.OwnR] at ho2
  have hlen : cs.length = n * 2 := by have := ho2.1.1.1; rwa [List.length_map] at this
  have hrw := ho2.1.1.2; clear ho2
  have HROW := Lib.hid hrow; have HD := Lib.hid hd; have HO0 := Lib.hid ho; have HLEN := Lib.hid hlen; have HK := Lib.hid hk; clear hrow hd ho hlen hk
  rcases hrw with ⟨rfl, h0⟩ | ⟨g, cap, cur, rfl, hg, _, hcap, hm, _⟩
  · subst h0
    have hz : cs = [] := List.eq_nil_of_length_eq_zero (by have := HLEN.out; omega)
    subst hz
    go_enter Tryz.func40, Tryz.ntmps40
    go_wp2
    refine wp_loop_rounds 1 ?_
    rw [rounds_succ]
    go_wp2
    go_ret
    exact ⟨by simp [countL], by rw [markL]; exact HO0.out, OnlyB.refl _ _⟩
  · unfold maxLen at hm
    obtain ⟨st, hst⟩ : ∃ f : Nat → List Rw, f = markTo cs k0 := ⟨_, rfl⟩
    obtain ⟨cn, hcn⟩ : ∃ f : Nat → Nat, f = fun m => k0 + countL (cs.take m) := ⟨_, rfl⟩
    have HST := Lib.hid hst; have HCN := Lib.hid hcn; clear hst hcn
    have HTOP := Lib.hid (fun m => show cn m ≤ 4611686018427387904 by rw [HCN.out]; have := countL_take_le cs m; have := HK.out; show k0 + countL (cs.take m) ≤ _; omega)
    have HNOT := Lib.hid (show g ∉ blocksL cs by have := HD.out; rw [Rw.blocks] at this; exact (List.nodup_cons.1 (show (g :: blocksL cs).Nodup from this)).1)
    have HOB := Lib.hid (show ∀ m, blocksL (st m) = blocksL cs from fun m => by rw [HST.out]; exact markTo_blocks cs k0 m)
    go_enter Tryz.func40, Tryz.ntmps40
    go_wp2
    go_loopw [1, 5] (fun m i wr => ∃ (j : Nat), j ≤ n ∧ i = .int .i64 j ∧ m = .int .i64 (cn (j * 2) : Int) ∧ (Rw.sl (.slice (some ⟨g, 0, none⟩) n cap) n 2 e0 (st (j * 2))).OwnR lo hi wr ∧ OnlyB (Rw.sl (.slice (some ⟨g, 0, none⟩) n cap) n 2 e0 cs).blocks w wr)
      (fun _ i _ => n - (intOf i).toNat)
    case atStart => exact ⟨0, Nat.zero_le _, rfl, by rw [HCN.out]; simp [countL], by rw [HST.out, Nat.zero_mul, markTo_zero]; exact HO0.out, OnlyB.refl _ _⟩
    case round =>
      obtain ⟨j, hj, rfl, rfl, hown, hon⟩ := hrel
      have HO := Lib.hid hown; have HN := Lib.hid hon
      clear hown hon
      by_cases hlt : (j : Int) < (n : Int)
      · obtain ⟨a0, a1, f0, f1⟩ := HROW.out j (by omega)
        have hc0 : cn (j * 2 + 1) = cn (j * 2) + 1 := by rw [HCN.out]; have := countL_more f0; rw [Rw.count] at this; show k0 + countL (cs.take (j * 2 + 1)) = k0 + countL (cs.take (j * 2)) + _; omega
        have hs0 : (st (j * 2)).set (j * 2) (.leaf (.int .i64 (cn (j * 2) : Int))) = st (j * 2 + 1) := by rw [HST.out, HCN.out]; have := markTo_next f0 k0; rw [mark_leaf] at this; exact this
        have ha0 : (st (j * 2))[j * 2]? = some (.leaf (.int .i64 a0)) := by rw [HST.out]; exact markTo_at f0 k0
        have HC0 := Lib.hid hc0; have HS0 := Lib.hid hs0; have HA0 := Lib.hid ha0; clear hc0 hs0 ha0 f0
        have hc1 : cn (j * 2 + 2) = cn (j * 2 + 1) + 1 := by rw [HCN.out]; have := countL_more f1; rw [Rw.count] at this; show k0 + countL (cs.take (j * 2 + 1 + 1)) = k0 + countL (cs.take (j * 2 + 1)) + _; omega
        have hs1 : (st (j * 2 + 1)).set (j * 2 + 1) (.leaf (.string (mt (cn (j * 2 + 1))))) = st (j * 2 + 2) := by rw [HST.out, HCN.out]; have := markTo_next f1 k0; rw [mark_leaf] at this; exact this
        have ha1 : (st (j * 2 + 1))[j * 2 + 1]? = some (.leaf (.string a1)) := by rw [HST.out]; exact markTo_at f1 k0
        have HC1 := Lib.hid hc1; have HS1 := Lib.hid hs1; have HA1 := Lib.hid ha1; clear hc1 hs1 ha1 f1
        obtain ⟨q0, hq0⟩ : ∃ q, cn (j * 2) = q := ⟨_, rfl⟩
        obtain ⟨q1, hq1⟩ : ∃ q, cn (j * 2 + 1) = q := ⟨_, rfl⟩
        obtain ⟨q2, hq2⟩ : ∃ q, cn (j * 2 + 2) = q := ⟨_, rfl⟩
        rw [hq0, hq1] at HC0
        rw [hq0] at HS0
        rw [hq1, hq2] at HC1
        rw [hq1] at HS1
        have ht0 : q0 ≤ 4611686018427387904 := by rw [← hq0]; exact HTOP.out _
        have ht1 : q1 ≤ 4611686018427387904 := by rw [← hq1]; exact HTOP.out _
        have ht2 : q2 ≤ 4611686018427387904 := by rw [← hq2]; exact HTOP.out _
        rw [hq0]
        have HE := Lib.hid (show cn ((j + 1) * 2) = q2 by rw [Nat.add_mul, Nat.one_mul]; exact hq2)
        clear hq0 hq1 hq2
        have r0 := HO.out; rw [Rw.OwnR] at r0
        have d0 := r0.1.1.cellAt (j * 2) (by omega); rw [List.getElem?_map, HA0.out] at d0; replace d0 := d0.trans (show _ = some (Value.int .i64 a0) from rfl)
        have z0 := r0.1.1.frozenAt (j * 2)
        have hsx : (st (j * 2)).set (j * 2) (.leaf (.int .i64 ((q0 : Int)))) = st (j * 2 + 1) := by rw [show ((q0 : Int)) = (q0 : Int) from by omega]; exact HS0.out
        have hsto := HO.out.store (v := .int .i64 ((q0 : Int))) (by rw [HOB.out]; exact HNOT.out) HA0.out rfl
        rw [hsx] at hsto
        have HO0' := Lib.hid hsto.1; have HN0' := Lib.hid (HN.out.trans (hsto.2.1.mono (by intro i hi; rw [Rw.blocks]; exact List.mem_append.2 (Or.inl hi)))); clear hsto r0 hsx
        go_wp2_with fail
        refine (mark_anyI q1 _ (by have := HC0.out; omega) (by omega) _).mono ?_
        rintro e w1 ⟨rfl, hg1⟩
        have HO1a := Lib.hid (HO0'.out.later hg1.below)
        have HN1a := Lib.hid (HN0'.out.trans (OnlyB.of_below hg1.below _))
        have r1 := HO1a.out; rw [Rw.OwnR] at r1
        have d1 : w1.cell? ⟨g, j * 2 + 1, none⟩ = some (.string a1) := by rw [r1.1.1.cellAt (j * 2 + 1) (by omega), List.getElem?_map, HA1.out]; rfl
        have z1 : w1.frozen? ⟨g, j * 2 + 1, none⟩ = false := r1.1.1.frozenAt _
        have hsto := HO1a.out.store (v := .string (mt q1)) (by rw [HOB.out]; exact HNOT.out) HA1.out rfl
        rw [HS1.out] at hsto
        have HO1' := Lib.hid hsto.1; have HN1' := Lib.hid (HN1a.out.trans (hsto.2.1.mono (by intro i hi; rw [Rw.blocks]; exact List.mem_append.2 (Or.inl hi)))); clear hsto r1 hg1
        go_wp2_with fail
        go_roundw
        case rel => exact ⟨j + 1, by omega, by go_num, by first | (rw [HE.out]; done) | (rw [HE.out]; have := HC0.out; have := HC1.out; go_num), by rw [Nat.add_mul, Nat.one_mul]; exact HO1'.out, HN1'.out⟩
        case measure => simp [intOf]; omega
      · have hjn : j = n := by omega
        subst hjn
        have HF := Lib.hid (show cn (j * 2) = k0 + countL cs by rw [HCN.out]; show k0 + countL (cs.take (j * 2)) = _; rw [List.take_of_length_le (by have := HLEN.out; omega)])
        have HG := Lib.hid (show st (j * 2) = markL cs k0 by rw [HST.out]; exact markTo_full cs k0 (by have := HLEN.out; omega))
        go_wp2_with fail
        go_ret
        exact ⟨by rw [HF.out]; rfl, by rw [← HG.out]; exact HO.out, HN.out⟩

set_option maxHeartbeats 2000000 in
theorem eq_Line (a0 : Int) (a1 : ByteArray) (w : World)  :
    Calls Tryz.prog 89 #[.agg #[.int .i64 a0, .string a1], .agg #[.int .i64 a0, .string a1]] w fun e w' => e = .returned (.bool true) ∧ Grw w w' := by
  have e1 : (a1.toList == a1.toList) = true := beqL_yes rfl
  go_enter Tryz.func89, Tryz.ntmps89
  go_wp2_with fail
  go_ret
  exact ⟨rfl, ((Grw.refl w).alloc _).alloc _⟩

set_option maxHeartbeats 2000000 in
theorem to_Line (a0 : Int) (a1 : ByteArray) (w : World) :
    Calls Tryz.prog 29 #[.agg #[.int .i64 a0, .string a1]] w fun e w' => e = .returned (.agg #[.int .i64 a0, .string a1]) ∧ Grw w w' := by
  go_enter Tryz.func29, Tryz.ntmps29
  go_wp2_with fail
  refine bodyPost_ret (v := .agg #[.int .i64 a0, .string a1]) (by simp [results, Tryz.results29, go_sem]) rfl ⟨rfl, ?_⟩
  exact (((Grw.refl _).alloc _).alloc _).alloc _

set_option maxRecDepth 100000 in
set_option maxHeartbeats 4000000 in
theorem eq_LineS (x y : Rw) (hx : IsLineS x) (hy : IsLineS y) (hd : x.data = y.data) (w : World) (rx : x.ReadR w.heap.size w) (ry : y.ReadR w.heap.size w) :
    Calls Tryz.prog 39 #[x.cell, y.cell] w fun e w' => e = .returned (.bool true) ∧ Grw w w' := by
  have mixed : Tryz.prog.follows .mixedOrders = true := by kernel_rfl
  obtain ⟨v, n, e0, cs, rfl, hrow⟩ := hx
  obtain ⟨v', n', e0', cs', rfl, hrow'⟩ := hy
  rw [Rw.data, Rw.data] at hd
  have hdd := (Dt.sl.inj hd).2; clear hd
  rw [Rw.ReadR] at rx ry
  rw [Rw.cell_sl, Rw.cell_sl]
  obtain ⟨⟨a, cap, rfl, hlen, hc1, hc2, _, hcells⟩, hin⟩ := rx
  obtain ⟨⟨a', cap', rfl, hlen', hc1', hc2', _, hcells'⟩, hin'⟩ := ry
  have hnn : n = n' := by have := congrArg List.length hdd; rw [dataL_len, dataL_len] at this; omega
  subst hnn
  have HROW := Lib.hid hrow; have HROW' := Lib.hid hrow'; have HD := Lib.hid hdd; have HC := Lib.hid hcells; have HC' := Lib.hid hcells'; have HIN := Lib.hid hin; have HIN' := Lib.hid hin'
  clear hrow hrow' hdd hcells hcells' hin hin' hlen hlen'
  go_enter Tryz.func39, Tryz.ntmps39
  go_wp2
  go_loopw [5] (fun i wr => ∃ (j : Nat), j ≤ n ∧ i = .int .i64 j ∧ Grw w wr)
    (fun i _ => n - (intOf i).toNat)
  case atStart => exact ⟨0, Nat.zero_le _, rfl, Grw.refl _⟩
  case round =>
    obtain ⟨j, hj, rfl, hs⟩ := hrel
    have HS := Lib.hid hs
    clear hs
    by_cases hlt : (j : Int) < (n : Int)
    · rcases HC.out with h0 | ⟨g, off, rfl, hg, hcells⟩
      · omega
      · rcases HC'.out with h0 | ⟨g', off', rfl, hg', hcells'⟩
        · omega
        · have HCL := Lib.hid hcells; have HCL' := Lib.hid hcells'; clear hcells hcells'
          obtain ⟨a0, a1, f0, f1⟩ := HROW.out j (by omega)
          obtain ⟨b0, b1, f0', f1'⟩ := HROW'.out j (by omega)
          have hd0 := data_same HD.out f0 f0'
          have hv0 := leaf_same hd0; obtain rfl : a0 = b0 := by cases hv0; rfl
          clear hd0 hv0
          have c0 : ∀ m os, (Sort.grow (wr.drewN m) os).cell? ⟨g, off + j * 2, none⟩ = some (.int .i64 a0) := cell_grown (show g < wr.heap.size by have := HS.out.below.size; omega) (by rw [HS.out.below.cell (show g < _ by omega)]; exact HCL.out (j * 2) _ (by rw [List.getElem?_map, f0]; rfl))
          have c0' : ∀ m os, (Sort.grow (wr.drewN m) os).cell? ⟨g', off' + j * 2, none⟩ = some (.int .i64 a0) := cell_grown (show g' < wr.heap.size by have := HS.out.below.size; omega) (by rw [HS.out.below.cell (show g' < _ by omega)]; exact HCL'.out (j * 2) _ (by rw [List.getElem?_map, f0']; rfl))
          have hd1 := data_same HD.out f1 f1'
          have hv1 := leaf_same hd1; obtain rfl : a1 = b1 := by cases hv1; rfl
          clear hd1 hv1
          have c1 : ∀ m os, (Sort.grow (wr.drewN m) os).cell? ⟨g, off + j * 2 + 1, none⟩ = some (.string a1) := cell_grown (show g < wr.heap.size by have := HS.out.below.size; omega) (by rw [HS.out.below.cell (show g < _ by omega)]; rw [Nat.add_assoc]; exact HCL.out (j * 2 + 1) _ (by rw [List.getElem?_map, f1]; rfl))
          have c1' : ∀ m os, (Sort.grow (wr.drewN m) os).cell? ⟨g', off' + j * 2 + 1, none⟩ = some (.string a1) := cell_grown (show g' < wr.heap.size by have := HS.out.below.size; omega) (by rw [HS.out.below.cell (show g' < _ by omega)]; rw [Nat.add_assoc]; exact HCL'.out (j * 2 + 1) _ (by rw [List.getElem?_map, f1']; rfl))
          have HE := Lib.hid (fun (n : Nat) (os : Array Obj) => eq_Line a0 a1 (Sort.grow (wr.drewN n) os))
          clear f0 f0' f1 f1'
          go_wp2_with fail
          refine wp_region_quiet_grown mixed (by kernel_rfl) ?_
          repeat (go_big_quiet_step (first | (go_at_call 89; refine Calls.grown_of (HE.out _ _))))
          refine wpQuiet_nil ?_; intro _ hw'; obtain ⟨⟨nq, osq⟩, hw''⟩ := hw'; subst hw''
          have HG1 := Lib.hid (HS.out.trans ⟨nq, osq, rfl⟩)
          obtain ⟨w1, hw1⟩ : ∃ x, Sort.grow (wr.drewN nq) osq = x := ⟨_, rfl⟩
          rw [hw1] at HG1 ⊢; clear hw1 c0 c0' c1 c1'
          go_wp2_with fail
          go_roundw
          case rel => exact ⟨j + 1, by omega, by go_num, HG1.out⟩
          case measure => simp [intOf]; omega
    · have hkn : decide ((j : Int) < (n : Int)) = false := decide_eq_false hlt
      go_wp2_with fail
      go_ret
      exact ⟨rfl, HS.out⟩

def SzLine (a1 : ByteArray) (left : Int) (w : World) (e : Ending) (w' : World) : Prop :=
  ∃ r : Int, e = .returned (.int .i64 r) ∧ -1 ≤ r ∧ (0 ≤ r → r + (a1.size : Nat) = left) ∧ Grw w w'
set_option maxHeartbeats 2000000 in
theorem sz_Line (a0 : Int) (a1 : ByteArray) (left : Int) (l1 : -1 ≤ left) (l2 : left ≤ 1099511627776) (w : World) (z1 : a1.size ≤ 9223372036854775807) :
    Calls Tryz.prog 26 #[.agg #[.int .i64 a0, .string a1], .int .i64 left] w (SzLine a1 left w) := by
  have HB := Lib.hid ((Grw.refl w).alloc (.cells #[.int .i64 a0, .string a1] 61))
  by_cases c1 : left - a1.size < 0
  · go_enter Tryz.func26, Tryz.ntmps26
    go_wp2_with fail
    go_ret
    exact ⟨-1, rfl, by omega, by omega, HB.out⟩
  go_enter Tryz.func26, Tryz.ntmps26
  go_wp2_with fail
  go_ret
  exact ⟨left - a1.size, rfl, by omega, by omega, HB.out⟩

set_option maxRecDepth 100000 in
set_option maxHeartbeats 4000000 in
theorem sz_LineS (x : Rw) (hx : IsLineS x) (left : Int) (l1 : 0 ≤ left) (l2 : left ≤ 1099511627776) (w : World) (rx : x.ReadR w.heap.size w) (hz : x.Small) :
    Calls Tryz.prog 35 #[x.cell, .int .i64 left] w fun e w' => ∃ r : Int, e = .returned (.int .i64 r) ∧ -1 ≤ r ∧ (0 ≤ r → r + (x.weight : Nat) = left) ∧ Grw w w' := by
  obtain ⟨v, n, e0, cs, rfl, hrow⟩ := hx
  rw [Rw.ReadR] at rx; rw [Rw.Small] at hz; rw [Rw.cell_sl, Rw.weight]
  obtain ⟨⟨a, cap, rfl, hlen, hc1, hc2, _, hcells⟩, hin⟩ := rx
  have HROW := Lib.hid hrow; have HC := Lib.hid hcells; have HIN := Lib.hid hin; have HZ := Lib.hid (smallL_iff.1 hz); have HLEN := Lib.hid hlen
  clear hrow hcells hin hz hlen
  obtain ⟨wt, hwt⟩ : ∃ f : Nat → Nat, f = fun m => weightL (cs.take m) := ⟨_, rfl⟩
  have HWT := Lib.hid hwt; clear hwt
  by_cases h0 : left - n < 0
  · go_enter Tryz.func35, Tryz.ntmps35
    go_wp2
    go_ret
    exact ⟨-1, rfl, by omega, by omega, Grw.refl _⟩
  · go_enter Tryz.func35, Tryz.ntmps35
    go_wp2
    go_loopw [1, 5] (fun q i wr => ∃ (j : Nat) (r : Int), j ≤ n ∧ i = .int .i64 j ∧ q = .int .i64 r ∧ 0 ≤ r ∧ r + n + (wt (j * 2) : Nat) = left ∧ Grw w wr)
      (fun _ i _ => n - (intOf i).toNat)
    case atStart => exact ⟨0, left - n, Nat.zero_le _, rfl, rfl, by omega, by rw [HWT.out]; (simp [weightL]; try omega), Grw.refl _⟩
    case round =>
      obtain ⟨j, r, hj, rfl, rfl, hr0, hr1, hs⟩ := hrel
      have HS := Lib.hid hs; have HR1 := Lib.hid hr1
      have hr2 : r ≤ 1099511627776 := by omega
      clear hs hr1
      by_cases hlt : (j : Int) < (n : Int)
      · rcases HC.out with hz0 | ⟨g, off, rfl, hg, hcells⟩
        · omega
        · have HCL := Lib.hid hcells; clear hcells
          obtain ⟨a0, a1, f0, f1⟩ := HROW.out j (by omega)
          have c0 : wr.cell? ⟨g, off + j * 2, none⟩ = some (.int .i64 a0) := by rw [HS.out.below.cell (show g < _ by omega)]; exact HCL.out (j * 2) _ (by rw [List.getElem?_map, f0]; rfl)
          have hw0 : weightL (cs.take (j * 2 + 1)) = weightL (cs.take (j * 2)) + _ := weightL_more f0; rw [Rw.weight] at hw0; simp only [weightV] at hw0
          have c1 : wr.cell? ⟨g, off + j * 2 + 1, none⟩ = some (.string a1) := by rw [HS.out.below.cell (show g < _ by omega)]; rw [Nat.add_assoc]; exact HCL.out (j * 2 + 1) _ (by rw [List.getElem?_map, f1]; rfl)
          have z1 : a1.size ≤ 9223372036854775807 := by have := HZ.out _ (List.mem_of_getElem? f1); rw [Rw.Small] at this; exact this
          have hw1 : weightL (cs.take (j * 2 + 2)) = weightL (cs.take (j * 2 + 1)) + _ := weightL_more f1; rw [Rw.weight] at hw1; simp only [weightV] at hw1
          have HW := Lib.hid (show wt ((j + 1) * 2) = wt (j * 2) + (a1.size) by rw [HWT.out, Nat.add_mul, Nat.one_mul]; show weightL (cs.take (j * 2 + 2)) = weightL (cs.take (j * 2)) + _; omega)
          clear hw0 hw1
          go_wp2_with fail
          refine (sz_Line a0 a1 r (by omega) hr2 _ z1).mono ?_
          rintro e w2 ⟨r2, rfl, hr3, hr4, hg2⟩
          have HG2 := Lib.hid (HS.out.trans hg2); clear hg2
          by_cases hneg : r2 < 0
          · go_wp2_with fail
            go_ret
            exact ⟨-1, rfl, by omega, by omega, HG2.out⟩
          · have hr5 := hr4 (by omega)
            clear hr4
            have HR5 := Lib.hid hr5; clear hr5
            go_wp2_with fail
            go_roundw
            case rel => exact ⟨j + 1, r2, by omega, by go_num, rfl, by omega, by rw [HW.out]; have := HR5.out; have := HR1.out; omega, HG2.out⟩
            case measure => simp [intOf]; omega
      · have hjn : j = n := by omega
        subst hjn
        have HF := Lib.hid (show wt (j * 2) = weightL cs by rw [HWT.out]; show weightL (cs.take (j * 2)) = _; rw [List.take_of_length_le (by have := HLEN.out; omega)])
        go_wp2_with fail
        go_ret
        exact ⟨r, rfl, by omega, fun _ => by have := HF.out; have := HR1.out; omega, HS.out⟩

theorem info_LineS : (Tryz.prog.info? 51).map (fun i => (i.zero, i.size, i.bytes)) = some (some (.agg #[.int .i64 0, .string ⟨#[]⟩]), 2, 24) := by kernel_rfl
set_option maxRecDepth 100000 in
set_option maxHeartbeats 4000000 in
theorem to_LineS (x : Rw) (hx : IsLineS x) (w : World) (rx : x.ReadR w.heap.size w) (hl : x.weight ≤ 4398046511104) :
    Calls Tryz.prog 37 #[x.cell] w fun e w' => ∃ y : Rw, e = .returned y.cell ∧ IsLineS y ∧ y.data = x.data ∧ y.blocks.Nodup ∧ y.OwnR w.heap.size w'.heap.size w' ∧ Below w.heap.size w w' := by
  obtain ⟨i0, hi0, hz0, hz1, hz2⟩ := info_parts info_LineS
  obtain ⟨v, n, e0, cs, rfl, hrow⟩ := hx
  rw [Rw.ReadR] at rx; rw [Rw.weight] at hl; rw [Rw.cell_sl, Rw.data]
  obtain ⟨⟨a, cap, rfl, hlen, hc1, hc2, _, hcells⟩, hin⟩ := rx
  have hnl : n ≤ 4398046511104 := by omega
  have hall : ∀ c ∈ cs, c.blocks = [] ∧ c.cell.oneCell' = true ∧ c = .leaf c.cell := rows_all (K := 2) (by decide) hlen _ fun j hj t ht => by
    obtain ⟨a0, a1, f0, f1⟩ := hrow j hj
    rcases (show t = 0 ∨ t = 1 by omega) with rfl | rfl
    · exact ⟨_, f0, by rw [Rw.blocks], rfl, rfl⟩
    · exact ⟨_, f1, by rw [Rw.blocks], rfl, rfl⟩
  have HROW := Lib.hid hrow; have HC := Lib.hid hcells; have HLEN := Lib.hid hlen; have HI := Lib.hid hz2; have HALL := Lib.hid hall
  clear hrow hcells hin hlen hz2 hall hl
  go_enter Tryz.func37, Tryz.ntmps37
  go_wp2_with (at_make; refine wpList_make_full _ rfl _ _ 43 rfl w.heap.size 51 i0 (.agg #[.int .i64 0, .string ⟨#[]⟩]) 2 Tryz.underlying43 hi0 hz0 hz1 .i64 .i64 _ _ n rfl rfl rfl rfl ?c1 ?c2 (Nat.le_refl _) ?_)
  case c1 => rw [HI.out]; omega
  case c2 => unfold maxLen; omega
  intro w1 hown1 hgr1
  have hb1 : Below w.heap.size w w1 := (Below.refl _ _).grown hgr1 (Nat.le_refl _) (fun k h => by cases h)
  have HO1 := Lib.hid hown1; have HB1 := Lib.hid hb1; clear hown1 hgr1 hb1
  go_wp2
  go_loopw [4] (fun i wr => ∃ (j : Nat) (us : List Value), j ≤ n ∧ i = .int .i64 j ∧ wr.ownsRow w.heap.size 51 2 (.slice (some ⟨w.heap.size, 0, none⟩) n n) n us ∧ (∀ i, i < j * 2 → us[i]? = (cs.map Rw.cell)[i]?) ∧ Below w.heap.size w wr)
    (fun i _ => n - (intOf i).toNat)
  case atStart => exact ⟨0, _, Nat.zero_le _, rfl, HO1.out, fun i hi => by omega, HB1.out⟩
  case round =>
    obtain ⟨j, us, hj, rfl, hown, hup, hbw⟩ := hrel
    have HO := Lib.hid hown; have HU := Lib.hid hup; have HB := Lib.hid hbw
    clear hown hup hbw HO1 HB1
    by_cases hlt : (j : Int) < (n : Int)
    · rcases HC.out with h0 | ⟨g, off, rfl, hg, hcells⟩
      · omega
      · have HCL := Lib.hid hcells; clear hcells
        obtain ⟨a0, a1, f0, f1⟩ := HROW.out j (by omega)
        have c0 : wr.cell? ⟨g, off + j * 2, none⟩ = some (.int .i64 a0) := by rw [HB.out.cell (show g < _ by omega)]; exact HCL.out (j * 2) _ (by rw [List.getElem?_map, f0]; rfl)
        have HM0 := Lib.hid (show (cs.map Rw.cell)[j * 2]? = some (.int .i64 a0) by rw [List.getElem?_map, f0]; rfl)
        have c1 : wr.cell? ⟨g, off + j * 2 + 1, none⟩ = some (.string a1) := by rw [HB.out.cell (show g < _ by omega)]; rw [Nat.add_assoc]; exact HCL.out (j * 2 + 1) _ (by rw [List.getElem?_map, f1]; rfl)
        have HM1 := Lib.hid (show (cs.map Rw.cell)[j * 2 + 1]? = some (.string a1) by rw [List.getElem?_map, f1]; rfl)
        clear f0 f1
        go_wp2_with fail
        refine (to_Line a0 a1 _).mono ?_
        rintro e w2 ⟨rfl, hg2⟩
        have hb2 := hg2.below
        have hown2 := ownsRow_only HO.out (OnlyB.of_below hb2 []) (fun _ _ hm => by cases hm)
        have hxl : us.length = n * 2 := HO.out.1
        obtain ⟨u0, hu0⟩ : ∃ u, us[j * 2]? = some u := ⟨_, List.getElem?_eq_getElem (by omega)⟩
        have d0 : w2.cell? ⟨w.heap.size, j * 2, none⟩ = some u0 := by rw [hown2.cellAt (j * 2) (by omega)]; exact hu0
        have z0 : w2.frozen? ⟨w.heap.size, j * 2, none⟩ = false := hown2.frozenAt _
        obtain ⟨u1, hu1⟩ : ∃ u, us[j * 2 + 1]? = some u := ⟨_, List.getElem?_eq_getElem (by omega)⟩
        have d1 : w2.cell? ⟨w.heap.size, j * 2 + 1, none⟩ = some u1 := by rw [hown2.cellAt (j * 2 + 1) (by omega)]; exact hu1
        have z1 : w2.frozen? ⟨w.heap.size, j * 2 + 1, none⟩ = false := hown2.frozenAt _
        have HO2 := Lib.hid hown2; have HX := Lib.hid hxl
        have HB2 := Lib.hid (HB.out.trans (hb2.mono HB.out.size))
        clear hu0 hu1 hown2 hb2 hg2 hxl
        go_wp2
        go_roundw
        case rel =>
          refine ⟨j + 1, _, by omega, by go_num, ((HO2.out.stored _ _).1.stored _ _).1, fun i hi => ?_, ((HB2.out.setCell (Nat.le_refl _) _).setCell (Nat.le_refl _) _)⟩
          have hxl := HX.out
          by_cases i1 : i = j * 2 + 1
          · rw [i1, List.getElem?_set_self (by first | omega | (simp only [List.length_set]; omega))]; exact HM1.out.symm
          by_cases i0 : i = j * 2
          · rw [i0, List.getElem?_set_ne (by omega), List.getElem?_set_self (by first | omega | (simp only [List.length_set]; omega))]; exact HM0.out.symm
          rw [List.getElem?_set_ne (by omega), List.getElem?_set_ne (by omega)]; exact HU.out i (by omega)
        case measure => simp [intOf]; omega
    · have hjn : j = n := by omega
      subst hjn
      have hus : us = cs.map Rw.cell := by
        apply List.ext_getElem?
        intro i
        by_cases hi : i < j * 2
        · exact HU.out i hi
        · rw [List.getElem?_eq_none (by have := HO.out.1; omega), List.getElem?_eq_none (by rw [List.length_map]; have := HLEN.out; omega)]
      have HF := Lib.hid hus; clear hus
      have hbn := blocksL_nil fun c hc => (HALL.out c hc).1
      have HBN := Lib.hid hbn; clear hbn
      go_wp2
      go_ret
      refine ⟨.sl (.slice (some ⟨w.heap.size, 0, none⟩) j j) j 2 51 cs, rfl, ⟨_, _, _, _, rfl, HROW.out⟩, by rw [Rw.data], ?_, ?_, HB.out⟩
      · rw [Rw.blocks, HBN.out]; simp [Value.ownBlock]
      · rw [Rw.OwnR]
        refine ⟨⟨by rw [← HF.out]; exact HO.out, fun g hg => (HO.out.lt g hg).2⟩, ownRL_iff.2 fun c hc => ?_⟩
        obtain ⟨_, h2, h3⟩ := HALL.out c hc
        rw [h3, Rw.OwnR]; exact h2

end Go.Proofs.YtpkicliimhflgaaGreatDoor
namespace Go.Proofs.YtpkicliimhflgaaGreatDoor
open Go.ChangeShapes Go.WideShapes Go.ChangeAt Go.RowKit

/-- A line: its Op and its Text. -/
abbrev Lnv := Int × ByteArray
def encL (r : Lnv) : List Value := [.int .i64 r.1, .string r.2]
theorem encL_len (r : Lnv) : (encL r).length = 2 := rfl
theorem encL_one (r : Lnv) : ∀ u ∈ encL r, u.oneCell' = true := by
  intro u hu
  simp only [encL, List.mem_cons, List.mem_nil_iff, or_false] at hu
  rcases hu with rfl | rfl <;> rfl
theorem infoLn : (Tryz.prog.info? 51).map (fun i => (i.zero, i.size, i.bytes)) = some (some (.agg #[.int .i64 0, .string ⟨#[]⟩]), 2, 24) := by kernel_rfl
theorem ln_at {xs : List Lnv} {j : Nat} (h : j < xs.length) : ∃ a b, xs[j]? = some (a, b) := ⟨xs[j].1, xs[j].2, List.getElem?_eq_getElem h⟩

def lnCells : List Lnv → List Rw
  | [] => []
  | a :: rs => .leaf (.int .i64 a.1) :: .leaf (.string a.2) :: lnCells rs
/-- A slice of lines. -/
def rwLn (v : Value) (rs : List Lnv) : Rw := .sl v rs.length 2 51 (lnCells rs)
theorem rwLn_cell (v : Value) (rs : List Lnv) : (rwLn v rs).cell = v := rfl
theorem lnCells_map : ∀ rs : List Lnv, (lnCells rs).map Rw.cell = rs.flatMap encL
  | [] => rfl
  | a :: rs => by rw [lnCells, List.map_cons, List.map_cons, lnCells_map rs, List.flatMap_cons]; rfl
theorem lnCells_len : ∀ rs : List Lnv, (lnCells rs).length = rs.length * 2
  | [] => rfl
  | a :: rs => by rw [lnCells, List.length_cons, List.length_cons, lnCells_len rs, List.length_cons]; omega
theorem lnCells_at : ∀ {rs : List Lnv} {j : Nat} {a : Lnv}, rs[j]? = some a → (lnCells rs)[j * 2]? = some (.leaf (.int .i64 a.1)) ∧ (lnCells rs)[j * 2 + 1]? = some (.leaf (.string a.2))
  | [], j, a, h => by simp at h
  | b :: rs, 0, a, h => by
    have : b = a := by simpa using h
    subst this; exact ⟨rfl, rfl⟩
  | b :: rs, j + 1, a, h => by
    have ih := lnCells_at (rs := rs) (j := j) (by simpa using h)
    rw [show (j + 1) * 2 = j * 2 + 1 + 1 by omega, lnCells]
    simpa using ih
theorem lnCells_leaf : ∀ {rs : List Lnv}, ∀ c ∈ lnCells rs, ∃ v, c = .leaf v ∧ v.oneCell' = true
  | [], c, h => by cases h
  | a :: rs, c, h => by
    rw [lnCells] at h
    rcases List.mem_cons.1 h with h | h
    · exact ⟨_, h, rfl⟩
    · rcases List.mem_cons.1 h with h | h
      · exact ⟨_, h, rfl⟩
      · exact lnCells_leaf c h
theorem lnCells_blocks (rs : List Lnv) : blocksL (lnCells rs) = [] := blocksL_nil fun c hc => by
  obtain ⟨s, rfl, _⟩ := lnCells_leaf c hc
  rw [Rw.blocks]
theorem rwLn_blocks (v : Value) (rs : List Lnv) : (rwLn v rs).blocks = v.ownBlock.toList := by rw [rwLn, Rw.blocks, lnCells_blocks, List.append_nil]
theorem rwLn_is (v : Value) (rs : List Lnv) : IsLineS (rwLn v rs) :=
  ⟨v, rs.length, _, lnCells rs, rfl, fun j hj => by
    obtain ⟨a, b, h⟩ := ln_at hj
    obtain ⟨h1, h2⟩ := lnCells_at h
    exact ⟨a, b, h1, h2⟩⟩
theorem rwLn_own {lo hi : Nat} {w : World} {v : Value} {rs : List Lnv} (h : OwnK encL 2 51 lo hi w v rs) : (rwLn v rs).OwnR lo hi w := by
  rw [rwLn, Rw.OwnR]
  exact ⟨by rw [lnCells_map]; exact h, ownRL_iff.2 fun c hc => by obtain ⟨s, rfl, hs⟩ := lnCells_leaf c hc; rw [Rw.OwnR]; exact hs⟩
theorem rwLn_reads {hi : Nat} {w : World} {v : Value} {rs : List Lnv} (h : ReadsK encL 2 hi w v rs) : (rwLn v rs).ReadR hi w := by
  rw [rwLn, Rw.ReadR]
  have h0 := h
  obtain ⟨a, cap, rfl, h1, h2, h3, h4⟩ := h
  refine ⟨⟨a, cap, rfl, lnCells_len rs, h1, h2, h3, ?_⟩, readRL_iff.2 fun c hc => by obtain ⟨s, rfl, hs⟩ := lnCells_leaf c hc; rw [Rw.ReadR]; exact hs⟩
  rcases h4 with h4 | ⟨g, off, rfl, hg, hc⟩
  · exact Or.inl h4
  · refine Or.inr ⟨g, off, rfl, hg, fun j c hj => ?_⟩
    rw [lnCells_map] at hj
    have := h0.news encL_len j c hj
    rwa [add_off] at this
theorem rwLn_data (v u : Value) (rs : List Lnv) : (rwLn v rs).data = (rwLn u rs).data := by rw [rwLn, rwLn, Rw.data, Rw.data]
theorem lines_of_data {x : Rw} {u : Value} {rs : List Lnv} {hi : Nat} {w : World} (h : x.data = (rwLn u rs).data) (hr : x.ReadR hi w) : ReadsK encL 2 hi w x.cell rs := by
  cases x with
  | leaf v => rw [rwLn, Rw.data, Rw.data] at h; cases h
  | sl v n k e cs =>
    rw [rwLn, Rw.data, Rw.data] at h
    obtain ⟨rfl, hd⟩ := Dt.sl.inj h
    have hl : cs.length = rs.length * 2 := by have := congrArg List.length hd; rwa [dataL_len, dataL_len, lnCells_len] at this
    rw [Rw.ReadR] at hr
    obtain ⟨⟨a, cap, rfl, h1, h2, h3, h4, h5⟩, _⟩ := hr
    have hn : n = rs.length := by omega
    subst hn
    refine ⟨a, cap, rfl, h2, h3, h4, ?_⟩
    rcases h5 with h5 | ⟨g, off, rfl, hg, hc⟩
    · exact Or.inl h5
    · refine Or.inr ⟨g, off, rfl, hg, fun j y hj i hi' => ?_⟩
      obtain ⟨k1, k2⟩ := lnCells_at hj
      have hjl := (List.getElem?_eq_some_iff.1 hj).1
      have one : ∀ (m : Nat) (s : Value), m < cs.length → (lnCells rs)[m]? = some (.leaf s) → w.cell? ⟨g, off + m, none⟩ = some s := by
        intro m s hm hs
        obtain ⟨c, hcm⟩ : ∃ c, cs[m]? = some c := ⟨_, List.getElem?_eq_getElem hm⟩
        have e1 := leaf_of_data (data_same hd hcm hs)
        refine hc m _ ?_
        rw [List.getElem?_map, hcm, e1]; rfl
      rcases (show i = 0 ∨ i = 1 by omega) with rfl | rfl
      · exact one (j * 2) _ (by omega) k1
      · rw [Nat.add_assoc]; exact one (j * 2 + 1) _ (by omega) k2
/-- A line in a slice of lines. -/
theorem ReadsK.line {hi n cap k : Nat} {w : World} {a : Option Addr} {rs : List Lnv} {r : Lnv} (h : ReadsK encL 2 hi w (.slice a n cap) rs) (hk : rs[k]? = some r) : ∃ g off, a = some ⟨g, off, none⟩ ∧ g < hi ∧ w.cell? ⟨g, off + k * 2, none⟩ = some (.int .i64 r.1) ∧ w.cell? ⟨g, off + k * 2 + 1, none⟩ = some (.string r.2) := by
  obtain ⟨a', c', e, _, _, _, hc⟩ := h
  injection e with e1 e2 e3; subst e1
  rcases hc with h0 | ⟨g, off, rfl, hg, hc⟩
  · have := (List.getElem?_eq_some_iff.1 hk).1; omega
  · exact ⟨g, off, rfl, hg, hc k r hk 0 (by omega), hc k r hk 1 (by omega)⟩
/-- What a line may be. -/
def LnOk (r : Lnv) : Prop := r.2.size ≤ 9223372036854775807 ∧ -9223372036854775808 ≤ r.1 ∧ r.1 ≤ 9223372036854775807
theorem lnCells_small : ∀ {rs : List Lnv}, (∀ r ∈ rs, LnOk r) → SmallL (lnCells rs)
  | [], _ => trivial
  | r :: rs, h => by
    have h1 := h r List.mem_cons_self
    rw [lnCells]
    refine smallL_iff.2 fun c hc => ?_
    rcases List.mem_cons.1 hc with e | hc
    · rw [e, Rw.Small]; exact Nat.zero_le _
    rcases List.mem_cons.1 hc with e | hc
    · rw [e, Rw.Small]; exact h1.1
    · exact smallL_iff.1 (lnCells_small fun q hq => h q (List.mem_cons_of_mem _ hq)) c hc
theorem rwLn_small {v : Value} {rs : List Lnv} (h : ∀ r ∈ rs, LnOk r) : (rwLn v rs).Small := by rw [rwLn, Rw.Small]; exact lnCells_small h
def sumL (rs : List Lnv) : Nat := (rs.map fun r => r.2.size).sum
theorem lnCells_weight : ∀ rs : List Lnv, weightL (lnCells rs) = sumL rs
  | [] => rfl
  | r :: rs => by
    have h1 : (Rw.leaf (.int .i64 r.1)).weight = 0 := rfl
    rw [lnCells, weightL, weightL, lnCells_weight rs, h1, Nat.zero_add, sumL, sumL, List.map_cons, List.sum_cons]; rfl
theorem rwLn_weight (v : Value) (rs : List Lnv) : (rwLn v rs).weight = rs.length + sumL rs := by rw [rwLn, Rw.weight, lnCells_weight]
theorem lnCells_count : ∀ rs : List Lnv, countL (lnCells rs) = 2 * rs.length
  | [] => rfl
  | r :: rs => by rw [lnCells, countL, countL, Rw.count, Rw.count, lnCells_count rs, List.length_cons]; omega
theorem rwLn_count (v : Value) (rs : List Lnv) : (rwLn v rs).count = 2 * rs.length := by rw [rwLn, Rw.count, lnCells_count]
theorem takeL {α : Type} {xs : List α} {k : Nat} {x : α} (h : xs[k]? = some x) : xs.take (k + 1) = xs.take k ++ [x] := by
  rw [List.take_add_one, h]; rfl
theorem sumL_take (rs : List Lnv) (k : Nat) : sumL (rs.take k) ≤ sumL rs := by
  have : sumL rs = sumL (rs.take k) + sumL (rs.drop k) := by
    conv => lhs; rw [← List.take_append_drop k rs]
    unfold sumL; rw [List.map_append, List.sum_append]
  omega
theorem sumL_at {rs : List Lnv} {k : Nat} {r : Lnv} (h : rs[k]? = some r) : sumL (rs.take k) + r.2.size ≤ sumL rs := by
  have h1 := sumL_take rs (k + 1)
  rw [takeL h] at h1
  unfold sumL at h1 ⊢
  rw [List.map_append, List.sum_append] at h1
  simpa using h1

/-- append to lines of the call's own; what else is written is told. -/
theorem wpList_appLG {w : World} {ops : Array Oper} {rest : List Oper} {o : Oper} {a : Act} {Q : Exit → Act → World → Prop} (hgd : o.guard = none) (s x : Operand)
    (ho : o.op = .call { callee := .builtin .append, args := #[s, x], argTypes := #[43, 43] })
    (B : Nat) (w0 : World) (v : Value) (rs : List Lnv) (hs : a.eval s = v) (hM : MineK encL 2 51 B w0 w v rs) (vx : Value) (top : Nat) (us : List Lnv) (hx : a.eval x = vx) (hr : ReadsK encL 2 top w vx us)
    (hlen : rs.length + us.length ≤ 137438953472)
    (h : ∀ v' w', MineK encL 2 51 B w0 w' v' (rs ++ us) → w.grownBy w' v.ownBlock → wpList Tryz.prog ops Q rest (a.put o.dst v') w') : wpList Tryz.prog ops Q (o :: rest) a w := by
  obtain ⟨i, hi, hz, hsize, hby⟩ := info_parts infoLn
  obtain ⟨ad, cap, rfl, h1, h2, h3, h4⟩ := id hr
  cases ad with
  | none =>
    obtain ⟨rfl, _, rfl⟩ := hr.nil
    refine wpList_append_own_none hgd s x _ ho B _ i 2 Tryz.underlying43 hi v rs.length _ hs hM.row hx ?_
    exact h v w (by simpa using hM) ⟨rfl, rfl, rfl, Nat.le_refl _, fun _ _ _ => rfl⟩
  | some ad =>
    refine wpList_append_own _ hgd s x _ ho B _ i _ 2 24 Tryz.underlying43 hi hz hsize hby (by rfl) (by decide) v rs.length _ hs hM.row ad us.length cap (us.flatMap encL) hx (flat_len encL_len us) (hr.news encL_len) ?_ ?_ ?_ hM.size ?_
    · intro u hu
      obtain ⟨y, _, hy⟩ := List.mem_flatMap.1 hu
      exact encL_one y u hy
    · unfold maxLen; omega
    · omega
    · intro v' w' hown hgr _
      exact h v' w' (hM.grow hown hgr) hgr
theorem readsL_at (w : World) (H : Nat) (hH : w.heap.size = H) (op : Int) (tx : ByteArray) : ReadsK encL 2 (H + 1) (w.alloc (.cells #[.int .i64 op, .string tx] 51)) (.slice (some ⟨H, 0, none⟩) 1 1) [(op, tx)] := by
  subst hH; exact readsK_one2 encL 51 w (x := (op, tx)) rfl
theorem mineL_form {B : Nat} {w0 w : World} {v : Value} {rs : List Lnv} (h : MineK encL 2 51 B w0 w v rs) : ∃ a c, v = .slice a rs.length c ∧ rs.length ≤ c ∧ c ≤ 9223372036854775807 := by
  obtain ⟨a, c, e, h1, h2, _⟩ := h.own.reads encL_len
  exact ⟨a, c, e, h1, h2⟩
theorem ln_ne : 51 ≠ 9 := by decide

end Go.Proofs.YtpkicliimhflgaaGreatDoor
namespace Go.Proofs.YtpkicliimhflgaaGreatDoor
open Go.ChangeShapes Go.WideShapes Go.ChangeAt Go.RowKit

/-- The word of an Op. -/
def wd : Nat → ByteArray
  | 1 => ⟨#[119, 114, 105, 116, 101]⟩
  | 2 => ⟨#[97, 100, 100]⟩
  | 3 => ⟨#[99, 111, 117, 110, 116]⟩
  | 4 => ⟨#[108, 111, 111, 107]⟩
  | 5 => ⟨#[115, 97, 121]⟩
  | _ => ⟨#[]⟩
abbrev sp : ByteArray := ⟨#[32]⟩
theorem wd_sp : ∀ m, ∀ b ∈ (wd m).data.toList, b ≠ 32
  | 0 => by decide
  | 1 => by decide
  | 2 => by decide
  | 3 => by decide
  | 4 => by decide
  | 5 => by decide
  | _ + 6 => fun b hb => absurd (show b ∈ ([] : List UInt8) from hb) (by simp)
/-- The Op of a word; 0 if it is none. -/
def wdN (w : ByteArray) : Nat := if w = wd 1 then 1 else if w = wd 2 then 2 else if w = wd 3 then 3 else if w = wd 4 then 4 else if w = wd 5 then 5 else 0
theorem wdN_of : ∀ m, 1 ≤ m → m ≤ 5 → wdN (wd m) = m
  | 1, _, _ => by decide
  | 2, _, _ => by decide
  | 3, _, _ => by decide
  | 4, _, _ => by decide
  | 5, _, _ => by decide
  | 0, h, _ => absurd h (by decide)
  | _ + 6, _, h => absurd h (by omega)
theorem wdN_le (w : ByteArray) : wdN w ≤ 5 := by unfold wdN; repeat' split <;> try omega
theorem wdN_zero {w : ByteArray} (h : ∀ m, 1 ≤ m → m ≤ 5 → w ≠ wd m) : wdN w = 0 := by
  unfold wdN
  rw [if_neg (h 1 (by decide) (by decide)), if_neg (h 2 (by decide) (by decide)), if_neg (h 3 (by decide) (by decide)), if_neg (h 4 (by decide) (by decide)), if_neg (h 5 (by decide) (by decide))]
theorem wdN_is {w : ByteArray} {m : Nat} (h : wdN w = m) (h1 : 1 ≤ m) : w = wd m := by
  unfold wdN at h
  split at h
  · subst h; assumption
  split at h
  · subst h; assumption
  split at h
  · subst h; assumption
  split at h
  · subst h; assumption
  split at h
  · subst h; assumption
  · omega
/-- Whether a line with this Op takes this text. -/
def takesB (m : Nat) (t : ByteArray) : Bool := if m = 1 ∨ m = 5 then decide (t.size ≤ 60) else isNm t
def lnW (a b : ByteArray) : Option Lnv := if 0 < wdN a ∧ takesB (wdN a) b = true then some ((wdN a : Int), b) else none
/-- A line out of its form. -/
def lnOf (s : ByteArray) : Option Lnv :=
  if idxB 32 s.data.toList < s.size then lnW (s.extract 0 (idxB 32 s.data.toList)) (s.extract (idxB 32 s.data.toList + 1) s.size) else none
/-- The form begins with the word of this Op and a space. -/
def preS (m : Nat) (s : ByteArray) : Prop := (wd m).size + 1 ≤ s.size ∧ s.extract 0 ((wd m).size + 1) = wd m ++ sp
theorem pre_of {W s : ByteArray} (h : ∀ b ∈ W.data.toList, b ≠ 32) (h2 : s.extract 0 (W.size + 1) = W ++ sp) :
    idxB 32 s.data.toList = W.size := by
  have h3 : s.data.toList.take (W.size + 1) = W.data.toList ++ [32] := by
    rw [extract_pre] at h2
    have := congrArg (fun x : ByteArray => x.data.toList) h2
    rw [show (ofL (s.data.toList.take (W.size + 1))).data.toList = s.data.toList.take (W.size + 1) from rfl, append_list] at this
    exact this
  have h4 : s.data.toList = W.data.toList ++ 32 :: s.data.toList.drop (W.size + 1) := by
    conv => lhs; rw [← List.take_append_drop (W.size + 1) s.data.toList, h3]
    rw [List.append_assoc]; rfl
  rw [h4, idxB_free_append _ h, size_list]
theorem pre_cut {W s : ByteArray} (h1 : idxB 32 s.data.toList < s.size) (h2 : s.extract 0 (idxB 32 s.data.toList) = W) :
    W.size + 1 ≤ s.size ∧ s.extract 0 (W.size + 1) = W ++ sp := by
  have h0 := h2
  rw [extract_pre] at h2
  have h3 : W.size = idxB 32 s.data.toList := by
    rw [← h2, ofL_size, List.length_take, size_list]; omega
  rw [h3]
  refine ⟨h1, bytesEq ?_⟩
  rw [extract_pre, append_list, ← h2]
  show s.data.toList.take (idxB 32 s.data.toList + 1) = s.data.toList.take (idxB 32 s.data.toList) ++ [32]
  rw [List.take_add_one, idxB_at (by rw [size_list]; exact h1)]; rfl
theorem lnOf_hit {m : Nat} {s : ByteArray} (h1 : 1 ≤ m) (h5 : m ≤ 5) (h : preS m s) :
    lnOf s = if takesB m (s.extract ((wd m).size + 1) s.size) = true then some ((m : Int), s.extract ((wd m).size + 1) s.size) else none := by
  obtain ⟨ha, hb⟩ := h
  have hi := pre_of (wd_sp m) hb
  have hw : s.extract 0 (idxB 32 s.data.toList) = wd m := by
    rw [hi, extract_pre]
    rw [extract_pre] at hb
    refine bytesEq ?_
    have := congrArg (fun x : ByteArray => x.data.toList) hb
    rw [show (ofL (s.data.toList.take ((wd m).size + 1))).data.toList = s.data.toList.take ((wd m).size + 1) from rfl, append_list] at this
    have h2 := congrArg (List.take (wd m).size) this
    rw [List.take_take, Nat.min_eq_left (Nat.le_succ _), List.take_append_of_le_length (by rw [size_list]; exact Nat.le_refl _), List.take_of_length_le (l := (wd m).data.toList) (by rw [size_list]; exact Nat.le_refl _)] at h2
    exact h2
  rw [lnOf, if_pos (by omega), hw, lnW, wdN_of m h1 h5, hi]
  by_cases ht : takesB m (s.extract ((wd m).size + 1) s.size) = true
  · rw [if_pos ht, if_pos ⟨by omega, ht⟩]
  · rw [if_neg ht, if_neg (fun h => ht h.2)]
theorem lnOf_none {s : ByteArray} (h : ∀ m, 1 ≤ m → m ≤ 5 → ¬ preS m s) : lnOf s = none := by
  unfold lnOf
  split
  · rename_i hi
    rw [lnW, wdN_zero fun m h1 h5 e => h m h1 h5 (pre_cut hi e)]
    rfl
  · rfl
theorem lnOf_text {s : ByteArray} {x : Lnv} (h : lnOf s = some x) : x.2.size ≤ s.size ∧ 1 ≤ x.1 ∧ x.1 ≤ 5 := by
  unfold lnOf at h
  split at h
  · unfold lnW at h
    split at h
    · rename_i h1
      obtain rfl := (Option.some.inj h).symm
      have := wdN_le (s.extract 0 (idxB 32 s.data.toList))
      refine ⟨?_, ?_, ?_⟩
      · show (s.extract _ _).size ≤ _; rw [ByteArray.size_extract]; omega
      · show (1 : Int) ≤ ((wdN _ : Nat) : Int); omega
      · show ((wdN _ : Nat) : Int) ≤ 5; omega
    · cases h
  · cases h

/-- Lines out of their forms. -/
def prsLs : List ByteArray → Option (List Lnv)
  | [] => some []
  | p :: ps => match lnOf p, prsLs ps with
    | some x, some xs => some (x :: xs)
    | _, _ => none
theorem prsLs_snoc : ∀ {ps : List ByteArray} {p : ByteArray} {xs : List Lnv} {x : Lnv}, prsLs ps = some xs → lnOf p = some x → prsLs (ps ++ [p]) = some (xs ++ [x])
  | [], p, xs, x, h, h2 => by
    obtain rfl : [] = xs := Option.some.inj h
    rw [List.nil_append, prsLs, h2]; rfl
  | q :: ps, p, xs, x, h, h2 => by
    rw [prsLs] at h
    cases hq : lnOf q with
    | none => rw [hq] at h; cases h
    | some y =>
      cases hp : prsLs ps with
      | none => rw [hq, hp] at h; cases h
      | some ys =>
        rw [hq, hp] at h
        obtain rfl : y :: ys = xs := Option.some.inj h
        rw [List.cons_append, prsLs, hq, prsLs_snoc hp h2]; rfl
theorem prsLs_bad : ∀ {ps : List ByteArray} {p : ByteArray}, p ∈ ps → lnOf p = none → prsLs ps = none
  | [], _, h, _ => by cases h
  | q :: ps, p, h, h2 => by
    rw [prsLs]
    rcases List.mem_cons.1 h with e | h
    · rw [← e, h2]
    · rw [prsLs_bad h h2]; cases lnOf q <;> rfl
theorem prsLs_mem : ∀ {ps : List ByteArray} {xs : List Lnv}, prsLs ps = some xs → xs.length = ps.length ∧ ∀ x ∈ xs, ∃ p ∈ ps, lnOf p = some x
  | [], xs, h => by
    obtain rfl : [] = xs := Option.some.inj h
    exact ⟨rfl, fun x hx => by cases hx⟩
  | q :: ps, xs, h => by
    rw [prsLs] at h
    cases hq : lnOf q with
    | none => rw [hq] at h; cases h
    | some y =>
      cases hp : prsLs ps with
      | none => rw [hq, hp] at h; cases h
      | some ys =>
        rw [hq, hp] at h
        obtain rfl : y :: ys = xs := Option.some.inj h
        obtain ⟨h1, h2⟩ := prsLs_mem hp
        refine ⟨by rw [List.length_cons, List.length_cons, h1], fun x hx => ?_⟩
        rcases List.mem_cons.1 hx with e | hx
        · exact ⟨q, List.mem_cons_self, by rw [hq, e]⟩
        · obtain ⟨p, hp1, hp2⟩ := h2 x hx
          exact ⟨p, List.mem_cons_of_mem _ hp1, hp2⟩
/-- A script out of its form. -/
def prsSc (s : ByteArray) : Option (List Lnv) :=
  if s.size = 0 then some [] else if 6 < (splS 59 s.data.toList).length then none else prsLs (splS 59 s.data.toList)
theorem prsSc_zero {s : ByteArray} (h : s.size = 0) : prsSc s = some [] := by unfold prsSc; rw [if_pos h]
theorem prsSc_long {s : ByteArray} (h : s.size ≠ 0) (h6 : 6 < (splS 59 s.data.toList).length) : prsSc s = none := by unfold prsSc; rw [if_neg h, if_pos h6]
theorem prsSc_else {s : ByteArray} (h : s.size ≠ 0) (h6 : ¬ 6 < (splS 59 s.data.toList).length) : prsSc s = prsLs (splS 59 s.data.toList) := by unfold prsSc; rw [if_neg h, if_neg h6]
theorem prsSc_len {s : ByteArray} {xs : List Lnv} (h : prsSc s = some xs) : xs.length ≤ 6 := by
  unfold prsSc at h
  split at h
  · obtain rfl := (Option.some.inj h).symm; exact Nat.zero_le _
  split at h
  · cases h
  · rw [(prsLs_mem h).1]; omega
def scL (o : Option (List Lnv)) : List Lnv := match o with | some xs => xs | none => []
def scB (o : Option (List Lnv)) : Bool := match o with | some _ => true | none => false
theorem scL_len (s : ByteArray) : (scL (prsSc s)).length ≤ 6 := by
  cases h : prsSc s with
  | none => exact Nat.zero_le _
  | some xs => exact prsSc_len h

/-- A line's form, if its Op is one. -/
def frm (x : Lnv) : Option ByteArray := if 1 ≤ x.1 ∧ x.1 ≤ 5 then some (wd x.1.toNat ++ sp ++ x.2) else none
theorem frm_no {x : Lnv} (h : ¬ (1 ≤ x.1 ∧ x.1 ≤ 5)) : frm x = none := by unfold frm; rw [if_neg h]
theorem frm_yes {x : Lnv} (h : 1 ≤ x.1 ∧ x.1 ≤ 5) : frm x = some (wd x.1.toNat ++ sp ++ x.2) := by unfold frm; rw [if_pos h]
theorem wd_size (m : Nat) : (wd m).size ≤ 5 := by
  unfold wd; split <;> decide
theorem sp_size : sp.size = 1 := rfl
theorem frm_size {x : Lnv} {f : ByteArray} (h : frm x = some f) : 1 ≤ f.size ∧ f.size ≤ x.2.size + 6 := by
  unfold frm at h
  split at h
  · obtain rfl := (Option.some.inj h).symm
    have := wd_size x.1.toNat
    rw [ByteArray.size_append, ByteArray.size_append, sp_size]; omega
  · cases h
def frms (l : List Lnv) : List ByteArray := l.filterMap frm
theorem frms_snoc {l : List Lnv} {x : Lnv} : frms (l ++ [x]) = frms l ++ (frm x).toList := by
  unfold frms
  rw [List.filterMap_append]
  cases h : frm x <;> simp [h]
/-- A script's form. -/
def fmtSc (l : List Lnv) : ByteArray := ofL (Lib.join ((frms l).map fun f => f.data.toList) [59])
theorem fmtSc_list (l : List Lnv) : (fmtSc l).data.toList = Lib.join ((frms l).map fun f => f.data.toList) [59] := ofL_list _
theorem fmtSc_none {l : List Lnv} {x : Lnv} (h : frm x = none) : fmtSc (l ++ [x]) = fmtSc l := by
  unfold fmtSc; rw [frms_snoc, h, Option.toList_none, List.append_nil]
theorem joinT_snoc (sep : List UInt8) (xs : List (List UInt8)) (y : List UInt8) : Lib.joinTail sep (xs ++ [y]) = Lib.joinTail sep xs ++ (sep ++ y) := by
  unfold Lib.joinTail; simp
theorem fmtSc_first {l : List Lnv} {x : Lnv} {f : ByteArray} (h : frm x = some f) (h0 : frms l = []) : fmtSc (l ++ [x]) = f := by
  refine bytesEq ?_
  rw [fmtSc_list, frms_snoc, h, h0, Option.toList_some, List.nil_append, List.map_cons, List.map_nil, Lib.join_one]
theorem fmtSc_more {l : List Lnv} {x : Lnv} {f : ByteArray} (h : frm x = some f) (h0 : frms l ≠ []) : fmtSc (l ++ [x]) = fmtSc l ++ ⟨#[59]⟩ ++ f := by
  refine bytesEq ?_
  rw [fmtSc_list, append_list, append_list, fmtSc_list, frms_snoc, h, Option.toList_some]
  cases hf : frms l with
  | nil => exact absurd hf h0
  | cons y ys =>
    rw [List.cons_append, List.map_cons, List.map_cons, Lib.join_cons, Lib.join_cons, List.map_append, List.map_cons, List.map_nil, joinT_snoc, List.append_assoc, List.append_assoc]
theorem frms_pos {l : List Lnv} {f : ByteArray} (h : f ∈ frms l) : 1 ≤ f.size := by
  unfold frms at h
  obtain ⟨x, _, hx⟩ := List.mem_filterMap.1 h
  exact (frm_size hx).1
theorem fmtSc_empty {l : List Lnv} : (fmtSc l).size = 0 ↔ frms l = [] := by
  have hz : (fmtSc l).size = (Lib.join ((frms l).map fun f => f.data.toList) [59]).length := ofL_size _
  constructor
  · intro h
    cases hf : frms l with
    | nil => rfl
    | cons y ys =>
      rw [hf, List.map_cons, Lib.join_cons, List.length_append, size_list] at hz
      have := frms_pos (l := l) (f := y) (by rw [hf]; exact List.mem_cons_self)
      omega
  · intro h
    rw [hz, h]; rfl
theorem frms_len (l : List Lnv) : (frms l).length ≤ l.length := List.length_filterMap_le _ _
theorem joinT_len : ∀ {fs : List ByteArray}, (Lib.joinTail [59] (fs.map fun f => f.data.toList)).length = (fs.map fun f => f.size + 1).sum
  | [] => rfl
  | f :: fs => by
    have ih := joinT_len (fs := fs)
    have h2 : (Lib.joinTail [59] ((f :: fs).map fun r => r.data.toList)) = (59 :: f.data.toList) ++ Lib.joinTail [59] (fs.map fun r => r.data.toList) := by
      unfold Lib.joinTail; simp
    rw [h2, List.length_append, List.length_cons, size_list, ih, List.map_cons, List.sum_cons]
theorem frms_sum : ∀ l : List Lnv, ((frms l).map fun f => f.size + 1).sum ≤ sumL l + 7 * l.length
  | [] => Nat.zero_le _
  | x :: l => by
    have ih := frms_sum l
    have hl : sumL (x :: l) = x.2.size + sumL l := by unfold sumL; rw [List.map_cons, List.sum_cons]
    unfold frms at ih ⊢
    rw [hl, List.length_cons]
    cases h : frm x with
    | none => rw [List.filterMap_cons_none h]; omega
    | some f =>
      have := frm_size h
      rw [List.filterMap_cons_some h, List.map_cons, List.sum_cons]; omega
theorem fmtSc_size (l : List Lnv) : (fmtSc l).size ≤ sumL l + 7 * l.length := by
  have hz : (fmtSc l).size = (Lib.join ((frms l).map fun f => f.data.toList) [59]).length := ofL_size _
  have hs := frms_sum l
  rw [hz]
  cases hf : frms l with
  | nil => exact Nat.zero_le _
  | cons y ys =>
    rw [hf, List.map_cons, List.sum_cons] at hs
    rw [List.map_cons, Lib.join_cons, List.length_append, size_list, joinT_len]
    omega

end Go.Proofs.YtpkicliimhflgaaGreatDoor
namespace Go.Proofs.YtpkicliimhflgaaGreatDoor
open Go.ChangeShapes Go.WideShapes Go.ChangeAt Go.RowKit

theorem indexByte_idx (c : UInt8) : ∀ l : List UInt8, Lib.indexByte l c = if idxB c l < l.length then (idxB c l : Int) else -1
  | [] => rfl
  | b :: l => by
    have ih := indexByte_idx c l
    have hle := idxB_le c l
    unfold Lib.indexByte idxB
    by_cases h : b = c
    · rw [if_pos (by simpa using h), if_pos h, if_pos (by simp)]; rfl
    · rw [if_neg (by simpa using h), if_neg h, ih]
      by_cases h2 : idxB c l < l.length
      · rw [if_pos h2, if_neg (by simp <;> omega), if_pos (by simp <;> omega)]; omega
      · rw [if_neg h2, if_pos (by rfl), if_neg (by simp <;> omega)]
theorem index_idx (c : UInt8) : ∀ l : List UInt8, Lib.index l [c] = if idxB c l < l.length then (idxB c l : Int) else -1
  | [] => rfl
  | b :: l => by
    have ih := index_idx c l
    have hle := idxB_le c l
    unfold idxB
    by_cases h : b = c
    · subst h
      rw [if_pos rfl, if_pos (by simp), Lib.index]; simp [List.isPrefixOf]
    · have hp : ([c] : List UInt8).isPrefixOf (b :: l) = false := by simp [List.isPrefixOf, Ne.symm h]
      have hix : Lib.index (b :: l) [c] = if Lib.index l [c] == -1 then -1 else Lib.index l [c] + 1 := by rw [Lib.index, hp]; simp
      rw [if_neg h, hix, ih]
      by_cases h2 : idxB c l < l.length
      · rw [if_pos h2, if_neg (by simp <;> omega), if_pos (by simp <;> omega)]; omega
      · rw [if_neg h2, if_pos (by rfl), if_neg (by simp <;> omega)]
theorem indexByte_index (c : UInt8) (l : List UInt8) : Lib.indexByte l c = Lib.index l [c] := by rw [indexByte_idx, index_idx]
theorem idx_split {c : UInt8} {l : List UInt8} (h : idxB c l < l.length) : splitB c l = l.take (idxB c l) :: splitB c (l.drop (idxB c l + 1)) := by
  have := split_round (c := c) (l := l) (a := 0) (Nat.zero_le _) (idxB_at h) fun j _ hj => idxB_before hj
  rwa [List.drop_zero, Nat.sub_zero] at this
theorem idx_split_none {c : UInt8} {l : List UInt8} (h : ¬ idxB c l < l.length) : splitB c l = [l] := by
  have := split_last (c := c) (l := l) (a := 0) fun j _ hj => by
    have hjl := (List.getElem?_eq_some_iff.1 hj).1
    exact idxB_before (by omega) hj
  rwa [List.drop_zero] at this
theorem splitK_mine (c : UInt8) (l : List UInt8) : Lib.splitK [c] 0 (Lib.count l [c]) l = splitB c l := by
  generalize hn : l.length = n
  induction n using Nat.strongRecOn generalizing l with
  | _ n ih =>
    by_cases h : idxB c l < l.length
    · have hix : Lib.index l [c] = ((idxB c l : Nat) : Int) := by rw [index_idx, if_pos h]
      rw [Lib.count_hit (by simp) hix, Nat.add_comm, Lib.splitK, if_neg (by rw [hix]; simp <;> omega), hix, idx_split h]
      rw [show ((idxB c l : Nat) : Int).toNat = idxB c l from rfl, Nat.add_zero, show ([c] : List UInt8).length = 1 from rfl]
      rw [ih (l.drop (idxB c l + 1)).length (by rw [List.length_drop]; omega) _ rfl]
    · have hix : Lib.index l [c] = -1 := by rw [index_idx, if_neg h]
      rw [Lib.count_miss hix, Lib.splitK, idx_split_none h]
theorem splitB_mine (c : UInt8) (s : ByteArray) : Lib.splitB ⟨#[c]⟩ 0 (Lib.countB s ⟨#[c]⟩) s = splS c s.data.toList := by
  have h := Lib.splitB_data ⟨#[c]⟩ 0 (Lib.countB s ⟨#[c]⟩) s
  have e : Lib.countB s ⟨#[c]⟩ = Lib.count s.data.toList [c] := rfl
  rw [e] at h ⊢
  rw [show (⟨#[c]⟩ : ByteArray).data.toList = [c] from rfl, splitK_mine] at h
  unfold splS
  rw [← h, List.map_map]
  conv => lhs; rw [← List.map_id (Lib.splitB _ _ _ _)]
  exact List.map_congr_left fun x _ => (ofL_of x).symm

/-- What Cut returns at one byte. -/
def cutC (c : UInt8) (s : ByteArray) : Value :=
  if idxB c s.data.toList < s.size then .tuple #[.string (s.extract 0 (idxB c s.data.toList)), .string (s.extract (idxB c s.data.toList + 1) s.size), .bool true]
  else .tuple #[.string s, .string ⟨#[]⟩, .bool false]

set_option maxHeartbeats 1000000 in
theorem lcutC_any (c : UInt8) (s : ByteArray) (hs : s.size ≤ 4611686018427387904) (w : World) :
    Calls Tryz.prog 194 #[.string s, .string ⟨#[c]⟩] w fun e w' => e = .returned (cutC c s) ∧ ∃ n, w' = w.drewN n := by
  have hix := indexByte_idx c s.data.toList
  rw [size_list] at hix
  by_cases h1 : idxB c s.data.toList < s.size
  · have HV := Lib.hid (show cutC c s = _ from by unfold cutC; rw [if_pos h1])
    rw [if_pos h1] at hix
    obtain ⟨i, hi⟩ : ∃ i, idxB c s.data.toList = i := ⟨_, rfl⟩
    rw [hi] at hix h1 HV
    have HI := Lib.hid hix
    clear hix hi
    have c1 : (0 : Int) ≤ ↑i := by omega
    have c2 : (↑i : Int) ≤ ↑s.size := by omega
    have c3 : (0 : Int) ≤ ↑i + 1 := by omega
    have c4 : (↑i + 1 : Int) ≤ ↑s.size := by omega
    go_enter Tryz.func194, Tryz.ntmps194
    go_wp2_with fail
    refine (Tryz.stringslite_Index_one s c _).mono ?_
    rintro e w' ⟨rfl, rfl⟩
    rw [HI.out]
    go_wp2_with fail
    go_quiet (fail)
    go_wp2
    go_ret3
    exact ⟨by rw [HV.out]; rfl, _, rfl⟩
  · have HV := Lib.hid (show cutC c s = _ from by unfold cutC; rw [if_neg h1])
    rw [if_neg h1] at hix
    have HI := Lib.hid hix
    clear hix h1
    go_enter Tryz.func194, Tryz.ntmps194
    go_wp2_with fail
    refine (Tryz.stringslite_Index_one s c _).mono ?_
    rintro e w' ⟨rfl, rfl⟩
    rw [HI.out]
    go_wp2_with fail
    go_ret3
    exact ⟨by rw [HV.out]; rfl, 0, rfl⟩

set_option maxHeartbeats 1000000 in
theorem cutC_any (c : UInt8) (s : ByteArray) (hs : s.size ≤ 4611686018427387904) (w : World) :
    Calls Tryz.prog 183 #[.string s, .string ⟨#[c]⟩] w fun e w' => e = .returned (cutC c s) ∧ ∃ n, w' = w.drewN n := by
  have hcon := lcutC_any c s hs
  have : ∃ a b d, cutC c s = .tuple #[.string a, .string b, .bool d] := by
    unfold cutC; split <;> exact ⟨_, _, _, rfl⟩
  obtain ⟨a, b, d, hv⟩ := this
  rw [hv] at hcon ⊢
  clear hv
  have HC := Lib.hid hcon; clear hcon
  go_enter Tryz.func183, Tryz.ntmps183
  go_wp2_with fail
  refine (HC.out _).mono ?_
  rintro e w' ⟨rfl, n, rfl⟩
  go_wp2_with fail
  go_ret3
  exact ⟨rfl, n, rfl⟩

theorem splS_flat (l : List ByteArray) : l.flatMap encS = l.map Value.string := by
  induction l with
  | nil => rfl
  | cons x l ih => rw [List.flatMap_cons, ih]; rfl

set_option maxHeartbeats 1000000 in
theorem gsplit_any (s : ByteArray) (c : UInt8) (hs : s.size < 4294967281) (w : World) :
    Calls Tryz.prog 195 #[.string s, .string ⟨#[c]⟩, .int .i64 0, .int .i64 (-1)] w (NewK encS 1 9 (splS c s.data.toList) w) := by
  have hC : Calls Tryz.prog 204 #[.string s, .string ⟨#[c]⟩] w fun e w' => e = .returned (.int .i64 (Lib.countB s ⟨#[c]⟩)) ∧ w' = w := by
    refine (Tryz.strings_Count_one s c w).mono ?_
    rintro e w' ⟨rfl, rfl⟩
    refine ⟨?_, rfl⟩
    show Ending.returned (.int .i64 (Lib.countByte s.data.toList c)) = Ending.returned (Value.int .i64 ((Lib.count s.data.toList [c] : Nat) : Int))
    rw [Lib.count_one]; rfl
  have h1 : 1 ≤ (⟨#[c]⟩ : ByteArray).size := Nat.le_refl 1
  have hle := Lib.countB_le ⟨#[c]⟩ h1 s.size s (Nat.le_refl _)
  have hlen := Lib.splitB_all ⟨#[c]⟩ h1 0 _ s rfl
  have core := Any.strings_genSplit_core Tryz.lays221 (by kernel_rfl) s ⟨#[c]⟩ 0 (-1) (Lib.countB s ⟨#[c]⟩ + 1) w hs h1 (Nat.zero_le _)
    (fun x cc hx => by
      refine (Tryz.strings_Index_one x c _).mono ?_
      rintro e w' ⟨rfl, rfl⟩
      refine ⟨?_, rfl⟩
      rw [indexByte_index]) hC (by decide) (by decide) (by rw [if_pos (by decide)]; omega)
  refine core.mono ?_
  rintro e w' ⟨rfl, rfl⟩
  rw [Nat.add_sub_cancel, splitB_mine]
  rw [splitB_mine] at hlen
  refine ⟨_, rfl, ?_, (Below.refl _ _).alloc (Nat.le_refl _) _⟩
  rw [← hlen]
  refine ⟨?_, fun g hg => ?_⟩
  · have := World.ownsRow_lit (base := w.heap.size) (e := 9) (size := 1) w ((splS c s.data.toList).map Value.string).toArray (splS c s.data.toList).length (Nat.le_refl _) (by unfold maxLen; omega) (by simp)
    rw [splS_flat, Lib.cellsOf_full]
    rw [List.toList_toArray] at this
    exact this
  · have : g = w.heap.size := (Option.some.inj hg).symm
    subst this; simp

set_option maxHeartbeats 1000000 in
theorem split_any (s : ByteArray) (c : UInt8) (hs : s.size < 4294967281) (w : World) :
    Calls Tryz.prog 184 #[.string s, .string ⟨#[c]⟩] w (NewK encS 1 9 (splS c s.data.toList) w) := by
  go_enter Tryz.func184, Tryz.ntmps184
  go_wp2_with fail
  refine (gsplit_any s c hs _).mono ?_
  rintro e w' ⟨v, rfl, ho, hb⟩
  have HO := Lib.hid ho; have HB := Lib.hid hb; clear ho hb
  go_wp2_with fail
  go_ret
  exact ⟨_, rfl, HO.out, HB.out⟩

end Go.Proofs.YtpkicliimhflgaaGreatDoor
