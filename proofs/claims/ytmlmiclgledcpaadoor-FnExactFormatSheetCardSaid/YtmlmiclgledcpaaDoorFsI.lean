/- FormatSheet of the program. Asked: as for the model's; the library's table of powers of ten lies in memory as its initialiser lays it. -/
import Derived.Test.YtmlmiclgledcpaaDoorFs
import Derived.Test.YtmlmiclgledcpaaDoorSpl
import Derived.Deep.AppendLies
namespace Go.Proofs.YtmlmiclgledcpaaDoor
open Go.ChangeShapes Go.WideShapes Go.ChangeAt Go.RowKit

/-- append of one string to a slice of the call's own, at a step of a region that draws its order. -/
theorem step_appSt {w : World} {ops : Array Oper} {o : Oper} {a : Act} {K : Act → World → Prop} {Q : Exit → Act → World → Prop} {E : Prop} (hgd : o.guard = none) (s x : Operand)
    (ho : o.op = .call { callee := .builtin .append, args := #[s, x], argTypes := #[36, 36] })
    (B : Nat) (w0 : World) (v : Value) (xs : List ByteArray) (hs : a.eval s = v) (hM : MineK encS 1 9 B w0 w v xs) (ad : Addr) (top : Nat) (y : ByteArray) (hx : a.eval x = .slice (some ad) 1 1) (hr : ReadsK encS 1 top w (.slice (some ad) 1 1) [y])
    (hlen : xs.length + 1 ≤ 137438953472) (n : Nat) (hn : xs.length = n)
    (h : ∀ g cap w', MineK encS 1 9 B w0 w' (.slice (some ⟨g, 0, none⟩) (n + 1) cap) (xs ++ [y]) → (∀ (b : Nat) (cs : Array Value) (T : TypeId), 9 ≠ T → w.heap[b]? = some (.cells cs T (0, 0)) → w'.heap[b]? = some (.cells cs T (0, 0))) → K (a.put o.dst (.slice (some ⟨g, 0, none⟩) (n + 1) cap)) w') :
    if Region.wanted o (yielded ops a.tmps) = true then Oper.wp Tryd.prog o a w K Q else E := by
  obtain ⟨i, hi, hz, hsize, hby⟩ := info_parts infoStr
  subst hn
  refine step_append_lies w hgd s x _ ho B _ i _ 1 16 Tryd.underlying36 hi hz hsize hby (by rfl) (by decide) v xs.length _ hs hM.row ad 1 1 ([y].flatMap encS) hx (flat_len encS_len [y]) (hr.news encS_len) ?_ (by omega) ?_ ?_ hM.size w.heap.size rfl ?_
  · intro u hu
    obtain ⟨z, _, hz⟩ := List.mem_flatMap.1 hu
    exact encS_one z u hz
  · unfold maxLen; omega
  · omega
  · intro g cap w' hown hgr _ _
    exact h g cap w' (hM.grow (ys := [y]) hown hgr) fun b cs T hT hb => (hgr.block b (heap_lt hb) (row_ne_box hM.row hb hT)).trans hb
theorem readsS_blk {w : World} {g : Nat} (y : ByteArray) (hg : w.heap[g]? = some (.cells #[.string y] 9 (0, 0))) : ReadsK encS 1 (g + 1) w (.slice (some ⟨g, 0, none⟩) 1 1) [y] := by
  refine ⟨_, 1, rfl, by simp, by omega, (fun h => by cases h), Or.inr ⟨_, 0, rfl, by omega, fun j z hz i hi' => ?_⟩⟩
  have hj : j = 0 := by have := (List.getElem?_eq_some_iff.1 hz).1; simp at this; omega
  subst hj
  simp only [List.getElem?_cons_zero, Option.some.injEq] at hz
  subst hz
  obtain rfl : i = 0 := by omega
  exact box_cell hg (j := 0) rfl
theorem ru_ne_str : 9 ≠ 42 := by decide
theorem own_strs {lo hi g n c : Nat} {w : World} {xs : List ByteArray} (h : OwnK encS 1 9 lo hi w (.slice (some ⟨g, 0, none⟩) n c) xs) (hn : xs.length = n) : g < w.heap.size ∧ n ≤ c ∧ ∀ (j : Nat) x, xs[j]? = some x → w.cell? ⟨g, 0 + j, none⟩ = some (.string x) := by
  have hr := h.reads encS_len
  rcases h.1.2 with ⟨e, _⟩ | ⟨g', cap, cur, e, hg, hh, hc, hm, _⟩
  · cases e
  · cases e
    refine ⟨heap_lt hh, by omega, fun j x hj => ?_⟩
    have := hr.news encS_len j (.string x) (by
      have := flat_at encS_len hj (show 0 < 1 by decide)
      simpa [encS] using this)
    rwa [add_off] at this

set_option maxRecDepth 100000 in
set_option maxHeartbeats 4000000 in
theorem fsheet_impl (v : Value) (rs : List Ru) (w : World) (h : ReadsK encU 2 w.heap.size w v rs) (hok : ∀ r ∈ rs, RuOk r) (hl : rs.length ≤ 1048576) (hz : sumN rs ≤ 1048576) (htab : Lib.TabIs Tryd.prog w "internal/strconv.uint64pow10" .u64 Lib.pow10Tab) :
    Calls Tryd.prog 13 #[.agg #[v]] w fun e w' => e = .returned (.string (fmtSh rs)) ∧ Below w.heap.size w w' := by
  obtain ⟨a, cap, rfl, hc1, hc2, _⟩ := id h
  obtain ⟨n, hn⟩ : ∃ n, rs.length = n := ⟨_, rfl⟩
  have hT := Lib.tabBelow_of_tabIs htab
  have hJL := fmtSh_size hok
  rw [hn] at h hc1 hl hJL ⊢
  obtain ⟨W0, hW0⟩ : ∃ W, (w.alloc (.cells #[.slice a n cap] 24)).alloc (.cells #[] 9) = W := ⟨_, rfl⟩
  have hb1 : Below w.heap.size w (w.alloc (.cells #[.slice a n cap] 24)) := (Below.refl _ _).alloc (Nat.le_refl _) _
  have hx0 : W0.heap[w.heap.size]? = some (.cells #[.slice a n cap] 24 (0, 0)) := by
    rw [← hW0]; exact below_heap ((Below.refl _ _).alloc (Nat.le_refl _) _) (by rw [size_alloc]; omega) (MapKept.heap_alloc w _).1
  have hm0 : MineK encS 1 9 w.heap.size w W0 (.slice (some ⟨w.heap.size + 1, 0, none⟩) 0 0) ((rs.take 0).map ruF) := by
    rw [← hW0, ← size_alloc w (.cells #[.slice a n cap] 24)]
    exact MineK.empty encS 1 _ w _ _ hb1 (by rw [size_alloc]; omega)
  have q0 := box_cell hx0 (j := 0) rfl
  have H := Lib.hid h; have HN := Lib.hid hn; have HOK := Lib.hid hok; have HZ := Lib.hid hz; have HM0 := Lib.hid hm0; have HW0 := Lib.hid hW0; have HT := Lib.hid hT; have HJL := Lib.hid hJL
  clear h hn hok hz hx0 hm0 hW0 hT hb1 htab hJL
  go_enter Tryd.func13, Tryd.ntmps13
  go_upto_region 2 with (fail)
  rw [HW0.out]
  go_wp2_with fail
  go_loopw [10, 3] (fun i q wr => ∃ (k g c : Nat), k ≤ n ∧ i = .int .i64 k ∧ q = .slice (some ⟨g, 0, none⟩) k c ∧ MineK encS 1 9 w.heap.size w wr (.slice (some ⟨g, 0, none⟩) k c) ((rs.take k).map ruF))
    (fun i _ _ => n - (intOf i).toNat)
  case atStart => exact ⟨0, _, _, Nat.zero_le _, rfl, rfl, HM0.out⟩
  case round =>
    obtain ⟨k, g, c, hk, rfl, rfl, hM⟩ := hrel
    clear HM0 q0
    have HM := Lib.hid hM; clear hM
    by_cases hlt : (k : Int) < (n : Int)
    · obtain ⟨nm, cl, hr⟩ := ru_at (xs := rs) (j := k) (by rw [HN.out]; omega)
      obtain ⟨gr, off, rfl, hg, d0, d1⟩ := H.out.rule hr
      replace d0 : wr.cell? ⟨gr, off + k * 2, none⟩ = some (.string nm) := by rw [HM.out.below.cell (show gr < _ from hg)]; exact d0
      replace d1 : wr.cell? ⟨gr, off + k * 2 + 1, none⟩ = some (.int .i64 cl) := by rw [HM.out.below.cell (show gr < _ from hg)]; exact d1
      obtain ⟨ok0, ok1, ok2⟩ := HOK.out _ (List.mem_of_getElem? hr)
      have hnm := sumN_at hr
      have hy2 : nm.size ≤ 1048576 := by have := HZ.out; simp only at hnm; omega
      have hfc := itoa_len cl ok1 ok2
      have h58 : (⟨#[58]⟩ : ByteArray).size = 1 := rfl
      obtain ⟨F, hF⟩ : ∃ F, fmtS cl = F := ⟨_, rfl⟩
      obtain ⟨X1, hX1⟩ : ∃ Y, nm ++ ⟨#[58]⟩ = Y := ⟨_, rfl⟩
      obtain ⟨X2, hX2⟩ : ∃ Y, X1 ++ F = Y := ⟨_, rfl⟩
      have hz1 : X1.size ≤ 1048577 := by rw [← hX1, ByteArray.size_append, h58]; omega
      rw [hF] at hfc
      have a1 : ∀ W, (Op.stringOp .add nm ⟨#[58]⟩).run Tryd.prog W = .ok (.string X1) W := fun W => by rw [← hX1]; exact run_string_add_sum _ _ _ (by omega)
      have a2 : ∀ W, (Op.stringOp .add X1 F).run Tryd.prog W = .ok (.string X2) W := fun W => by rw [← hX2]; exact run_string_add_sum _ _ _ (by omega)
      have HFM := Lib.hid (show (rs.take (k + 1)).map ruF = (rs.take k).map ruF ++ [X2] by
        rw [take_snoc hr, List.map_append, ← hX2, ← hX1, ← hF]; rfl)
      obtain ⟨W1, hW1⟩ : ∃ W, wr.alloc (.cells #[.string nm, .int .i64 cl] 42) = W := ⟨_, rfl⟩
      have hb1 : Below wr.heap.size wr W1 := by rw [← hW1]; exact (Below.refl _ _).alloc (Nat.le_refl _) _
      have hbx : W1.heap[wr.heap.size]? = some (.cells #[.string nm, .int .i64 cl] 42 (0, 0)) := by rw [← hW1]; exact (MapKept.heap_alloc wr _).1
      have e0 := box_cell hbx (j := 0) rfl
      have e1 := box_cell hbx (j := 1) rfl
      have hbl := heap_lt hbx
      have HM1 := Lib.hid (HM.out.later hb1)
      have HFI := Lib.hid (fun (W : World) (hb : Below W1.heap.size W1 W) => show Calls Tryd.prog 26 #[.int .i64 cl] W fun e w' => e = .returned (.string F) ∧ Below W.heap.size W w' from by rw [← hF]; exact fmt_impl cl ok1 ok2 W (HT.out W (HM1.out.below.trans (hb.mono HM1.out.size))))
      have KEEP := Lib.hid (fun (w' : World) (h : Below W1.heap.size W1 w') => show w'.cell? ⟨wr.heap.size, 0, none⟩ = some (.string nm) ∧ w'.cell? ⟨wr.heap.size, 1, none⟩ = some (.int .i64 cl) from ⟨(h.cell hbl).trans e0, (h.cell hbl).trans e1⟩)
      have HLK := Lib.hid (show ((rs.take k).map ruF).length = k by rw [List.length_map, List.length_take, HN.out]; omega)
      have HLA := Lib.hid (show ((rs.take k).map ruF).length + 1 ≤ 137438953472 by rw [HLK.out]; omega)
      have HW1 := Lib.hid hW1; have HBX := Lib.hid hbx
      clear hr hF hX1 hX2 hnm hW1 hb1 hbx
      go_upto_region 5 with (fail)
      rw [HW1.out]
      go_region_held3 (fun w' => w'.cell? ⟨wr.heap.size, 0, none⟩ = some (.string nm) ∧ w'.cell? ⟨wr.heap.size, 1, none⟩ = some (.int .i64 cl)) (first | exact ⟨kB0, kB1⟩ | exact KEEP.out _ (by repeat' (first | (with_reducible exact Below.refl _ _) | (with_reducible exact hPA) | (with_reducible refine bl_dw ?_) | (with_reducible refine bl_aw ?_ _)))) (first
        | (go_at_call 26; refine (HFI.out _ (by repeat' (first | (with_reducible exact Below.refl _ _) | (with_reducible refine bl_dw ?_) | (with_reducible refine bl_aw ?_ _)))).mono ?_; rintro e wA ⟨rfl, hbA⟩; have hPA := bl_tr (show Below W1.heap.size W1 _ from (by repeat' (first | (with_reducible exact Below.refl _ _) | (with_reducible refine bl_dw ?_) | (with_reducible refine bl_aw ?_ _)))) hbA)
        | (refine step_appSt (by rfl) _ _ (by rfl) w.heap.size w _ ((rs.take k).map ruF) (by rfl) (HM1.out.later (show Below W1.heap.size W1 _ from (by repeat' (first | (with_reducible exact Below.refl _ _) | (with_reducible exact hPA) | (with_reducible refine bl_dw ?_) | (with_reducible refine bl_aw ?_ _))))) _ _ X2 (by rfl) (readsS_blk _ (by repeat' (first | (with_reducible refine hq_dr ?_) | ((with_reducible refine hq_nw ?_); (first | (with_reducible rfl) | (simp only [size_alloc]; done)))))) HLA.out k HLK.out ?_; intro gB cB wB hmB hkB; have hkX := hkB _ _ _ ru_ne_str (below_heap (show Below W1.heap.size W1 _ from (by repeat' (first | (with_reducible exact Below.refl _ _) | (with_reducible exact hPA) | (with_reducible refine bl_dw ?_) | (with_reducible refine bl_aw ?_ _)))) (heap_lt HBX.out) HBX.out); have kB0 := box_cell hkX (j := 0) rfl; have kB1 := box_cell hkX (j := 1) rfl))
      all_goals
        have HMB := Lib.hid (show MineK encS 1 9 w.heap.size w wB (.slice (some ⟨gB, 0, none⟩) (k + 1) cB) ((rs.take (k + 1)).map ruF) by rw [HFM.out]; exact hmB)
        clear hmB hkB hkX kB0 kB1
        go_wp2_with fail
        go_roundw
        case rel => exact ⟨k + 1, _, _, by omega, by go_num, rfl, HMB.out⟩
        case measure => simp [intOf] <;> omega
    · have hkn : k = n := by omega
      subst hkn
      have hM := HM.out
      rw [List.take_of_length_le (show rs.length ≤ k by rw [HN.out]; exact Nat.le_refl _)] at hM
      have hlm : (rs.map ruF).length = k := by rw [List.length_map]; exact HN.out
      obtain ⟨hbw, hcp, hcl⟩ := own_strs hM.own hlm
      have hmm : (rs.map ruF).map (·.data.toList) = rs.map fun r => (ruF r).data.toList := by rw [List.map_map]; rfl
      have hJ := Tryd.strings_Join g 0 c (rs.map ruF) ⟨#[59]⟩ wr hcl hbw (by rw [hlm]; omega) (by rw [hlm]; exact hcp) (by
        have h1 := HJL.out; have h2 := HZ.out
        have h3 := fmtSh_list rs
        rw [hmm, show (⟨#[59]⟩ : ByteArray).data.toList = [59] from rfl, ← h3, size_list]; omega)
      rw [hlm, hmm, show (⟨#[59]⟩ : ByteArray).data.toList = [59] from rfl] at hJ
      have HJ := Lib.hid hJ
      clear hJ hcl hM hlm hmm
      go_wp2_with fail
      refine HJ.out.mono ?_
      rintro e w2 ⟨rfl, hb2⟩
      have HB2 := Lib.hid (HM.out.below.trans (hb2.mono HM.out.size))
      clear hb2
      go_wp2_with fail
      go_ret
      exact ⟨rfl, HB2.out⟩
end Go.Proofs.YtmlmiclgledcpaaDoor
