/- Helper contracts: the words of a policy's form; FormatPolicy of the model and of the program. Asked: the policy's slices read as named, its strings are not too long. Helper contracts: what two lists of hosts have in common, a copy of one. Asked: the slices read as named, they are not too long. Copies, comparisons, marks of policies in the laws. Helper facts, no claim of its own. Helper contracts: a copy of a policy. Asked: the policy's slices read as named, they are not too long. Facts for ParsePolicy: how long what is read is, what the call owns. No claim of its own. Helper contracts: FormatPolicy of the model and of the program. Asked: the policy's slices read as named, its strings are not too long. Helper contracts: ParsePolicy of the program. Asked: the text is no longer than 2^20 bytes, the library's MaxLen holds a number. Helper contracts: NarrowPolicy. Asked: the policies' slices read as named, they are not too long. -/
import Derived.Test.YtpkicliimhflgaaDoorMg6
import Derived.Test.YtpkicliimhflgaaDoorShelfJ
import Derived.Lib.Join
import Derived.Deep.RegionHeld3
import Derived.Laws.Concat
import Derived.Deep.CutRange
namespace Go.Proofs.YtpkicliimhflgaaDoor

open Go.ChangeShapes Go.WideShapes Go.ChangeAt Go.RowKit

theorem sumSt_take (xs : List ByteArray) (k : Nat) : sumSt (xs.take k) ≤ sumSt xs := by
  have : sumSt xs = sumSt (xs.take k) + sumSt (xs.drop k) := by
    conv => lhs; rw [← List.take_append_drop k xs]
    unfold sumSt; rw [List.map_append, List.sum_append]
  omega
theorem takeS {xs : List ByteArray} {k : Nat} {x : ByteArray} (h : xs[k]? = some x) : xs.take (k + 1) = xs.take k ++ [x] := by
  rw [List.take_add_one, h]; rfl
theorem spS_size : spS.size = 1 := rfl
theorem scS_size : scS.size = 1 := rfl

set_option maxRecDepth 100000 in
set_option maxHeartbeats 2000000 in
theorem words9_spec (v : Value) (hi : Nat) (xs : List ByteArray) (u : ByteArray) (w : World) (hr : ReadsK encS 1 hi w v xs) (hu : u.size ≤ 6) (hz : xs.length + sumSt xs ≤ 1048576) :
    Calls Tryd.prog 58 #[.string u, v] w fun e w' => e = .returned (.string (wordsS u xs)) ∧ w = w' := by
  obtain ⟨a, cap, rfl, hc1, hc2, _⟩ := id hr
  obtain ⟨tx, htx⟩ : ∃ f : Nat → ByteArray, f = fun m => wordsS u (xs.take m) := ⟨_, rfl⟩
  have HTX := Lib.hid htx
  have HTS := Lib.hid (fun m => show (tx m).size ≤ 1048582 by
    rw [htx]
    show (wordsS u (xs.take m)).size ≤ _
    rw [wordsS_size]
    have h2 := sumSt_take xs m
    have h3 := List.length_take_le' m xs
    omega)
  have HZ := Lib.hid hz
  obtain ⟨n, hn⟩ : ∃ n, xs.length = n := ⟨_, rfl⟩
  have h0 : tx 0 = u := by rw [htx]; rfl
  have H0 := Lib.hid h0
  rw [hn] at hr hc1 ⊢
  have HN := Lib.hid hn; have HR := Lib.hid hr; clear hn hr htx h0 hz
  go_enter Tryd.func58, Tryd.ntmps58
  go_wp2
  go_loop [0, 5] (fun c i => ∃ (k : Nat), k ≤ n ∧ i = .int .i64 k ∧ c = .string (tx k)) (fun _ i => n - (intOf i).toNat)
  case atStart => exact ⟨0, Nat.zero_le _, rfl, by rw [H0.out]⟩
  case round =>
    obtain ⟨k, hk, rfl, rfl⟩ := hrel
    by_cases hlt : (k : Int) < (n : Int)
    · obtain ⟨x, hx⟩ := ssAt (xs := xs) (j := k) (by have := HN.out; omega)
      obtain ⟨g, off, rfl, _, c0⟩ := str_cell HR.out hx
      have hxz : x.size ≤ 1048576 := by have h1 := sum_le_at (List.mem_of_getElem? hx); have h2 := HZ.out; unfold sumSt at h2; omega
      have hy := HTS.out k
      have hy1 := HTS.out (k + 1)
      have HX3 := Lib.hid (show tx (k + 1) = tx k ++ spS ++ x by rw [HTX.out]; show wordsS u (xs.take (k + 1)) = _; rw [takeS hx, wordsS_snoc])
      obtain ⟨X, hX⟩ : ∃ Y, tx k = Y := ⟨_, rfl⟩
      obtain ⟨X1, hX1⟩ : ∃ Y, X ++ spS = Y := ⟨_, rfl⟩
      obtain ⟨X2, hX2⟩ : ∃ Y, X1 ++ x = Y := ⟨_, rfl⟩
      rw [hX] at hy HX3 ⊢
      have hz1 : X1.size ≤ 1048583 := by rw [← hX1, ByteArray.size_append, spS_size]; omega
      have a1 : ∀ W, (Op.stringOp .add X ⟨#[32]⟩).run Tryd.prog W = .ok (.string X1) W := fun W => by rw [← hX1]; exact run_string_add_sum _ _ _ (by rw [show (⟨#[32]⟩ : ByteArray).size = 1 from rfl]; omega)
      have a2 : ∀ W, (Op.stringOp .add X1 x).run Tryd.prog W = .ok (.string X2) W := fun W => by rw [← hX2]; exact run_string_add_sum _ _ _ (by omega)
      have HXE := Lib.hid (show X2 = tx (k + 1) by rw [HX3.out, ← hX2, ← hX1])
      clear hX hX1 hX2 hx
      go_wp2
      go_round
      case rel => exact ⟨k + 1, by omega, by go_num, by rw [← HXE.out]⟩
      case measure => simp [intOf]; omega
    · have hlf : decide ((k : Int) < (n : Int)) = false := decide_eq_false hlt
      have HV := Lib.hid (show tx k = wordsS u xs by rw [HTX.out]; show wordsS u (xs.take k) = _; rw [List.take_of_length_le (by have := HN.out; omega)])
      go_wp2
      go_ret
      exact ⟨by rw [← HV.out]; rfl, rfl⟩

theorem mineS_lit {w0 w : World} {B : Nat} (x : ByteArray) (hb : Below B w0 w) (hB : B ≤ w.heap.size) : MineK encS 1 9 B w0 (w.alloc (.cells #[.string x] 9)) (.slice (some ⟨w.heap.size, 0, none⟩) 1 1) [x] :=
  ⟨World.ownsRow_lit (base := B) (e := 9) (size := 1) w #[.string x] 1 hB (by decide) rfl, hb.alloc hB _, by simp; omega⟩
theorem own_strs9 {lo hi g n c : Nat} {w : World} {xs : List ByteArray} (h : OwnK encS 1 9 lo hi w (.slice (some ⟨g, 0, none⟩) n c) xs) (hn : xs.length = n) : g < w.heap.size ∧ n ≤ c ∧ ∀ (j : Nat) x, xs[j]? = some x → w.cell? ⟨g, 0 + j, none⟩ = some (.string x) := by
  have hr := h.reads encS_len
  rcases h.1.2 with ⟨e, _⟩ | ⟨g', cap, cur, e, hg, hh, hc, hm, _⟩
  · cases e
  · cases e
    refine ⟨heap_lt hh, by omega, fun j x hj => ?_⟩
    have := hr.news encS_len j (.string x) (by
      have := flat_at encS_len hj (show 0 < 1 by decide)
      simpa [encS] using this)
    rwa [add_off] at this
theorem mineS_some9 {B : Nat} {w0 w : World} {v : Value} {xs : List ByteArray} (h : MineK encS 1 9 B w0 w v xs) (h1 : 1 ≤ xs.length) : ∃ g c, v = .slice (some ⟨g, 0, none⟩) xs.length c := by
  rcases h.row.2 with ⟨e, h0⟩ | ⟨g, cap, cur, e, _⟩
  · omega
  · exact ⟨g, cap, e⟩
theorem join_words (u : ByteArray) (xs : List ByteArray) : Lib.join ((u :: xs).map (·.data.toList)) [32] = (wordsS u xs).data.toList := by
  rw [wordsS_list, List.map_cons, Lib.join_cons]
  congr 1
  unfold Lib.joinTail hostsL
  rw [List.map_map, List.flatMap_def]
  rfl

set_option maxRecDepth 100000 in
set_option maxHeartbeats 2000000 in
theorem formatHosts_impl (v : Value) (hi : Nat) (xs : List ByteArray) (u : ByteArray) (w : World) (hr : ReadsK encS 1 hi w v xs) (hh : hi ≤ w.heap.size) (hu : u.size ≤ 6) (hz : xs.length + sumSt xs ≤ 1048576) :
    Calls Tryd.prog 67 #[.string u, v] w fun e w' => e = .returned (.string (wordsS u xs)) ∧ Below w.heap.size w w' := by
  have HR := Lib.hid (hr.below ((Below.refl w.heap.size w).alloc (Nat.le_refl _) (.cells #[.string u] 9)) hh)
  have HM := Lib.hid (mineS_lit u (Below.refl w.heap.size w) (Nat.le_refl _))
  have HZ := Lib.hid hz
  clear hr hz
  go_enter Tryd.func67, Tryd.ntmps67
  go_wp2_with (at_builtin; refine wpList_appS rfl _ _ rfl w.heap.size w _ [u] rfl HM.out _ _ xs rfl HR.out ?c3 ?_)
  case c3 => have := HZ.out; simp; omega
  intro v' w1 hM'
  obtain ⟨g, c, rfl⟩ := mineS_some9 hM' (by simp)
  obtain ⟨hbw, hcp, hcl⟩ := own_strs9 hM'.own rfl
  have hJ := Tryd.strings_Join g 0 c ([u] ++ xs) ⟨#[32]⟩ w1 hcl hbw (by have := HZ.out; simp; omega) hcp (by
    rw [show [u] ++ xs = u :: xs from rfl, show (⟨#[32]⟩ : ByteArray).data.toList = [32] from rfl, join_words, size_list, wordsS_size]; have := HZ.out; omega)
  rw [show ([u] ++ xs).map (·.data.toList) = (u :: xs).map (·.data.toList) from rfl, show (⟨#[32]⟩ : ByteArray).data.toList = [32] from rfl, join_words] at hJ
  have HJ := Lib.hid hJ
  have HM2 := Lib.hid hM'
  clear hJ hcl hM' hbw hcp
  go_wp2_with fail
  refine HJ.out.mono ?_
  rintro e w2 ⟨rfl, hb2⟩
  have HB2 := Lib.hid (HM2.out.below.trans (hb2.mono HM2.out.size))
  clear hb2
  go_wp2_with fail
  go_ret
  exact ⟨by rfl, HB2.out⟩

end Go.Proofs.YtpkicliimhflgaaDoor
namespace Go.Proofs.YtpkicliimhflgaaDoor
open Go.ChangeShapes Go.WideShapes Go.ChangeAt Go.RowKit

theorem bothS_snoc (ys : List ByteArray) {xs : List ByteArray} {k : Nat} {x : ByteArray} (h : xs[k]? = some x) : bothS (xs.take (k + 1)) ys = bothS (xs.take k) ys ++ (if hasS ys x = true then [x] else []) := by
  unfold bothS
  rw [takeS h, List.filter_append]
  congr 1
  by_cases e : hasS ys x = true
  · rw [if_pos e, List.filter_cons, if_pos e]; rfl
  · rw [if_neg e, List.filter_cons, if_neg e]; rfl
theorem bothS_len (xs ys : List ByteArray) : (bothS xs ys).length ≤ xs.length := List.length_filter_le _ _
theorem sumSt_filter (p : ByteArray → Bool) : ∀ xs : List ByteArray, sumSt (xs.filter p) ≤ sumSt xs
  | [] => Nat.le_refl _
  | x :: xs => by
    have ih := sumSt_filter p xs
    rw [List.filter_cons]
    split
    · unfold sumSt at ih ⊢; rw [List.map_cons, List.map_cons, List.sum_cons, List.sum_cons]; omega
    · unfold sumSt at ih ⊢; rw [List.map_cons, List.sum_cons]; omega

end Go.Proofs.YtpkicliimhflgaaDoor
namespace Go.Proofs.YtpkicliimhflgaaDoor
open Go.ChangeShapes Go.WideShapes Go.ChangeAt Go.RowKit

theorem ownL_three {lo hi : Nat} {w : World} {a b c : Rw} : OwnRL lo hi w [a, b, c] ↔ a.OwnR lo hi w ∧ b.OwnR lo hi w ∧ c.OwnR lo hi w := by rw [ownRL_iff]; simp
/-- Three slices of strings in data form, their values in letters. -/
structure PoF (y1 y2 y3 : Rw) (u1 u2 u3 : Value) (xs ys zs : List ByteArray) : Prop where
  i1 : IsStringS y1
  i2 : IsStringS y2
  i3 : IsStringS y3
  d1 : y1.data = (rwSs (.slice none 0 0) xs).data
  d2 : y2.data = (rwSs (.slice none 0 0) ys).data
  d3 : y3.data = (rwSs (.slice none 0 0) zs).data
  e1 : y1.cell = u1
  e2 : y2.cell = u2
  e3 : y3.cell = u3
theorem PoF.reads {y1 y2 y3 : Rw} {u1 u2 u3 : Value} {xs ys zs : List ByteArray} (h : PoF y1 y2 y3 u1 u2 u3 xs ys zs) {lo hi : Nat} {w : World} (ho : OwnRL lo hi w [y1, y2, y3]) (b : Bool) (t : ByteArray) : ReadP w.heap.size w u1 u2 u3 ⟨b, xs, ys, zs, t⟩ := by
  obtain ⟨o1, o2, o3⟩ := ownL_three.1 ho
  have r1 := strs_of_data h.d1 (rd_of o1)
  have r2 := strs_of_data h.d2 (rd_of o2)
  have r3 := strs_of_data h.d3 (rd_of o3)
  rw [h.e1] at r1; rw [h.e2] at r2; rw [h.e3] at r3
  exact ⟨r1, r2, r3⟩
theorem poF_of {v1 v2 v3 : Value} {xs ys zs : List ByteArray} : PoF (rwSs v1 xs) (rwSs v2 ys) (rwSs v3 zs) v1 v2 v3 xs ys zs :=
  ⟨rwSs_is _ _, rwSs_is _ _, rwSs_is _ _, rwSs_data _ _ _, rwSs_data _ _ _, rwSs_data _ _ _, rfl, rfl, rfl⟩

theorem ReadP.up {w w' : World} {v1 v2 v3 : Value} {p : Pol} (h : ReadP w.heap.size w v1 v2 v3 p) (hb : Below w.heap.size w w') : ReadP w'.heap.size w' v1 v2 v3 p := (h.below hb (Nat.le_refl _)).mono hb.size

end Go.Proofs.YtpkicliimhflgaaDoor
namespace Go.Proofs.YtpkicliimhflgaaDoor
open Go.ChangeShapes Go.WideShapes Go.ChangeAt Go.RowKit

theorem heap_bl9 {X w' : World} {g : Nat} {o : Obj} (k : Below X.heap.size X w') (h : X.heap[g]? = some o) : w'.heap[g]? = some o := below_heap k (heap_lt h) h
theorem bl_s9 {B c o : Nat} {w w' : World} (h : Below B w w') (hb : B ≤ c) (u : Value) : Below B w (w'.setCell ⟨c, o, none⟩ u) := h.setCell hb u
theorem bl_sz {w X w' : World} (h : Below w.heap.size w X) (_ : Below X.heap.size X w') : w.heap.size ≤ X.heap.size := h.size
theorem ownK_only {α : Type} {enc : α → List Value} {k : Nat} {e : TypeId} {lo hi : Nat} {w w' : World} {v : Value} {xs : List α} {bs : List Nat} (h : OwnK enc k e lo hi w v xs) (hb : OnlyB bs w w') (hn : ∀ b, v.ownBlock = some b → b ∉ bs) : OwnK enc k e lo hi w' v xs := ⟨ownsRow_only h.1 hb hn, h.2⟩
/-- A struct of five cells stored into its box. -/
abbrev set5 (W : World) (p : Nat) (u0 u1 u2 u3 u4 : Value) : World := ((((W.setCell ⟨p, 0, none⟩ u0).setCell ⟨p, 1, none⟩ u1).setCell ⟨p, 2, none⟩ u2).setCell ⟨p, 3, none⟩ u3).setCell ⟨p, 4, none⟩ u4
theorem set5_only (W : World) (p : Nat) (u0 u1 u2 u3 u4 : Value) : OnlyB [p] W (set5 W p u0 u1 u2 u3 u4) := (((((OnlyB.refl [p] W).set (by simp)).set (by simp)).set (by simp)).set (by simp)).set (by simp)
theorem set5_box {W : World} {p : Nat} {T : TypeId} {z0 z1 z2 z3 z4 : Value} (h : W.heap[p]? = some (.cells #[z0, z1, z2, z3, z4] T (0, 0))) (u0 u1 u2 u3 u4 : Value) : (set5 W p u0 u1 u2 u3 u4).heap[p]? = some (.cells #[u0, u1, u2, u3, u4] T (0, 0)) :=
  heap_one (o := 4) (heap_one (o := 3) (heap_one (o := 2) (heap_one (o := 1) (heap_one (o := 0) h u0) u1) u2) u3) u4
/-- Three slices of strings of the call's own, apart from each other. -/
def Own3 (lo : Nat) (w : World) (v1 v2 v3 : Value) (xs ys zs : List ByteArray) : Prop := OwnRL lo w.heap.size w [rwSs v1 xs, rwSs v2 ys, rwSs v3 zs] ∧ (blocksL [rwSs v1 xs, rwSs v2 ys, rwSs v3 zs]).Nodup
theorem own3_of {B l1 h1 l2 h2 l3 h3 : Nat} {w : World} {v1 v2 v3 : Value} {xs ys zs : List ByteArray} (o1 : OwnK encS 1 9 l1 h1 w v1 xs) (o2 : OwnK encS 1 9 l2 h2 w v2 ys) (o3 : OwnK encS 1 9 l3 h3 w v3 zs)
    (b1 : B ≤ l1) (b2 : B ≤ l2) (b3 : B ≤ l3) (d12 : h1 ≤ l2 ∨ h2 ≤ l1) (d13 : h1 ≤ l3 ∨ h3 ≤ l1) (d23 : h2 ≤ l3 ∨ h3 ≤ l2) : Own3 B w v1 v2 v3 xs ys zs := by
  have e1 : ∀ g, v1.ownBlock = some g → l1 ≤ g ∧ g < h1 := fun g hg => ⟨(o1.lt g hg).1, o1.2 g hg⟩
  have e2 : ∀ g, v2.ownBlock = some g → l2 ≤ g ∧ g < h2 := fun g hg => ⟨(o2.lt g hg).1, o2.2 g hg⟩
  have e3 : ∀ g, v3.ownBlock = some g → l3 ≤ g ∧ g < h3 := fun g hg => ⟨(o3.lt g hg).1, o3.2 g hg⟩
  refine ⟨ownL_three.2 ⟨Rw.OwnR.top (Rw.OwnR.mono b1 (Nat.le_refl _) _ (rwSs_own o1)), Rw.OwnR.top (Rw.OwnR.mono b2 (Nat.le_refl _) _ (rwSs_own o2)), Rw.OwnR.top (Rw.OwnR.mono b3 (Nat.le_refl _) _ (rwSs_own o3))⟩, ?_⟩
  simp only [blocksL, List.append_nil, rwSs_blocks]
  have n : ∀ o : Option Nat, o.toList.Nodup := fun o => by cases o <;> simp
  refine List.nodup_append.2 ⟨n _, List.nodup_append.2 ⟨n _, n _, fun a ha b hb e => ?_⟩, fun a ha b hb e => ?_⟩
  · subst e
    have k2 := e2 a (by simpa using ha); have k3 := e3 a (by simpa using hb)
    omega
  · subst e
    have k1 := e1 a (by simpa using ha)
    rcases List.mem_append.1 hb with hb | hb
    · have k2 := e2 a (by simpa using hb); omega
    · have k3 := e3 a (by simpa using hb); omega
/-- A policy of the call's own. -/
def PoNew (p : Pol) (w : World) (e : Ending) (w' : World) : Prop :=
  ∃ (a1 : Option Addr) (n1 c1 : Nat) (a2 : Option Addr) (n2 c2 : Nat) (a3 : Option Addr) (n3 c3 : Nat), e = .returned (.agg #[.bool p.set, .slice a1 n1 c1, .slice a2 n2 c2, .slice a3 n3 c3, .string p.non]) ∧ Own3 w.heap.size w' (.slice a1 n1 c1) (.slice a2 n2 c2) (.slice a3 n3 c3) p.scr p.sty p.img ∧ Below w.heap.size w w'
theorem fin5 {w Wc W1 W2 W3 : World} {p B l1 h1 l2 h2 l3 h3 : Nat} {T : TypeId} {z0 z1 z2 z3 z4 u0 u4 v1 v2 v3 : Value} {xs ys zs : List ByteArray} (hp : Wc.heap[p]? = some (.cells #[z0, z1, z2, z3, z4] T (0, 0))) (hpB : B ≤ p) (hb : Below B w Wc) (hB : B ≤ w.heap.size)
    (o1 : OwnK encS 1 9 l1 h1 W1 v1 xs) (k1 : Below W1.heap.size W1 Wc) (o2 : OwnK encS 1 9 l2 h2 W2 v2 ys) (k2 : Below W2.heap.size W2 Wc) (o3 : OwnK encS 1 9 l3 h3 W3 v3 zs) (k3 : Below W3.heap.size W3 Wc)
    (p1 : p < l1) (p2 : p < l2) (p3 : p < l3) (d12 : h1 ≤ l2 ∨ h2 ≤ l1) (d13 : h1 ≤ l3 ∨ h3 ≤ l1) (d23 : h2 ≤ l3 ∨ h3 ≤ l2) :
    (set5 Wc p u0 v1 v2 v3 u4).heap[p]? = some (.cells #[u0, v1, v2, v3, u4] T (0, 0)) ∧ Own3 (p + 1) (set5 Wc p u0 v1 v2 v3 u4) v1 v2 v3 xs ys zs ∧ Below B w (set5 Wc p u0 v1 v2 v3 u4) := by
  have ho := set5_only Wc p u0 v1 v2 v3 u4
  have f : ∀ {lo hi : Nat} {W : World} {v : Value} {us : List ByteArray}, OwnK encS 1 9 lo hi W v us → Below W.heap.size W Wc → p < lo → OwnK encS 1 9 lo hi (set5 Wc p u0 v1 v2 v3 u4) v us := fun o k hlt => ownK_only (o.later k) ho fun b hv hm => by
    rw [List.mem_singleton] at hm
    have := (o.lt b hv).1; omega
  refine ⟨set5_box hp _ _ _ _ _, own3_of (f o1 k1 p1) (f o2 k2 p2) (f o3 k3 p3) p1 p2 p3 d12 d13 d23, hb.trans (ho.below (fun i hi => by rw [List.mem_singleton] at hi; omega) ?_)⟩
  exact Nat.le_trans hB hb.size
theorem own_form {lo hi : Nat} {w : World} {v : Value} {xs : List ByteArray} (h : OwnK encS 1 9 lo hi w v xs) : ∃ a n c, v = .slice a n c := by
  obtain ⟨a, c, e, _⟩ := h.reads encS_len
  exact ⟨a, _, c, e⟩
def NewF (xs : List ByteArray) (X : World) (e : Ending) (w' : World) : Prop := ∃ (a : Option Addr) (n c : Nat), e = .returned (.slice a n c) ∧ OwnK encS 1 9 X.heap.size w'.heap.size w' (.slice a n c) xs ∧ Below X.heap.size X w'
theorem newF_of {xs : List ByteArray} {X : World} {e : Ending} {w' : World} (h : NewK encS 1 9 xs X e w') : NewF xs X e w' := by
  obtain ⟨v, rfl, ho, hb⟩ := h
  obtain ⟨a, n, c, rfl⟩ := own_form ho
  exact ⟨a, n, c, rfl, ho, hb⟩

end Go.Proofs.YtpkicliimhflgaaDoor
namespace Go.Proofs.YtpkicliimhflgaaDoor
open Go.ChangeShapes Go.WideShapes Go.ChangeAt Go.RowKit

theorem join_len (c : UInt8) : ∀ (p : List UInt8) (ps : List (List UInt8)), (joinB c (p :: ps)).length = p.length + (ps.map List.length).sum + ps.length
  | p, [] => by show p.length = _; simp
  | p, q :: ps => by
    have ih := join_len c q ps
    show (p ++ c :: joinB c (q :: ps)).length = _
    rw [List.length_append, List.length_cons, ih, List.map_cons, List.sum_cons, List.length_cons]; omega
theorem sum_ofL (ps : List (List UInt8)) : sumSt (ps.map ofL) = (ps.map List.length).sum := by
  unfold sumSt
  rw [List.map_map]
  exact congrArg List.sum (List.map_congr_left fun p _ => ofL_size p)
theorem sp_small {c : UInt8} {l : List UInt8} : (splS c l).tail.length + sumSt (splS c l).tail ≤ l.length := by
  have hj := joinB_split c l
  cases hs : splitB c l with
  | nil => exact absurd hs (splitB_ne _ _)
  | cons p ps =>
    rw [hs] at hj
    have h := join_len c p ps
    rw [hj] at h
    have e : (splS c l).tail = ps.map ofL := by unfold splS; rw [hs]; rfl
    rw [e, sum_ofL, List.length_map]; omega
theorem sp_piece {c : UInt8} {l : List UInt8} {p : ByteArray} (h : p ∈ splS c l) : p.size ≤ l.length := by
  unfold splS at h
  obtain ⟨q, hq, rfl⟩ := List.mem_map.1 h
  rw [ofL_size]; exact splitB_piece hq
theorem cut_len (l m : List UInt8) : (Lib.cut l m).1.length ≤ l.length ∧ (Lib.cut l m).2.1.length ≤ l.length := by
  unfold Lib.cut
  split
  · exact ⟨by rw [List.length_take]; omega, by rw [List.length_drop]; omega⟩
  · exact ⟨Nat.le_refl _, Nat.zero_le _⟩
theorem hosts_small {s p : ByteArray} {c : UInt8} {l : List UInt8} (hl : l.length ≤ s.size) (hs : s.size ≤ 1048576) (h : p ∈ splS c l) : (splS 32 p.data.toList).tail.length + sumSt (splS 32 p.data.toList).tail ≤ 1048576 := by
  have h1 := sp_small (c := 32) (l := p.data.toList)
  have h2 := sp_piece h
  rw [size_list] at h1
  omega
theorem polZ_sm : PolSm polZ := ⟨by decide, by decide, by decide, by decide⟩
theorem rdI_sm {s : ByteArray} (hs : s.size ≤ 1048576) : PolSm (rdI s) := by
  have hc := cut_len s.data.toList kNon.data.toList
  rw [size_list] at hc
  unfold rdI
  split
  · rename_i a b c he
    refine ⟨hosts_small hc.1 hs (c := 59) (by rw [he]; simp), hosts_small hc.1 hs (c := 59) (by rw [he]; simp), hosts_small hc.1 hs (c := 59) (by rw [he]; simp), ?_⟩
    show (ofL _).size ≤ _
    rw [ofL_size]; omega
  · exact polZ_sm
theorem rdM_sm {s : ByteArray} {q : Pol} (hs : s.size ≤ 1048576) (h : rdM s = some q) : PolSm q := by
  have hl : s.data.toList.length ≤ s.size := by rw [size_list]; exact Nat.le_refl _
  unfold rdM at h
  split at h
  · rename_i a b c ds he
    injection h with h
    subst h
    refine ⟨hosts_small hl hs (c := 59) (by rw [he]; simp), hosts_small hl hs (c := 59) (by rw [he]; simp), hosts_small hl hs (c := 59) (by rw [he]; simp), ?_⟩
    cases ds with
    | nil => exact Nat.zero_le _
    | cons d ds =>
      have h1 := sp_piece (c := 59) (l := s.data.toList) (p := d) (by rw [he]; simp)
      show (if 6 < d.size then d.extract 6 d.size else ⟨#[]⟩).size ≤ _
      split
      · rw [ByteArray.size_extract]; omega
      · exact Nat.zero_le _
  · cases h
/-- The three lists of hosts of a policy that the call made, wherever they begin in their blocks. -/
def Own3O (lo : Nat) (w : World) (v1 v2 v3 : Value) (xs ys zs : List ByteArray) : Prop := OwnO lo w.heap.size w v1 xs ∧ OwnO lo w.heap.size w v2 ys ∧ OwnO lo w.heap.size w v3 zs ∧ (blkO v1 xs ++ (blkO v2 ys ++ blkO v3 zs)).Nodup
theorem Own3O.reads {lo : Nat} {w : World} {v1 v2 v3 : Value} {p : Pol} (h : Own3O lo w v1 v2 v3 p.scr p.sty p.img) : ReadP w.heap.size w v1 v2 v3 p := ⟨h.1.reads, h.2.1.reads, h.2.2.1.reads⟩
theorem Own3O.later {lo : Nat} {w w' : World} {v1 v2 v3 : Value} {xs ys zs : List ByteArray} (h : Own3O lo w v1 v2 v3 xs ys zs) (hb : Below w.heap.size w w') : Own3O lo w' v1 v2 v3 xs ys zs := ⟨(h.1.later hb).top, (h.2.1.later hb).top, (h.2.2.1.later hb).top, h.2.2.2⟩
theorem Own3O.low {lo lo' : Nat} {w : World} {v1 v2 v3 : Value} {xs ys zs : List ByteArray} (h : Own3O lo w v1 v2 v3 xs ys zs) (hl : lo' ≤ lo) : Own3O lo' w v1 v2 v3 xs ys zs := ⟨h.1.mono hl (Nat.le_refl _), h.2.1.mono hl (Nat.le_refl _), h.2.2.1.mono hl (Nat.le_refl _), h.2.2.2⟩
theorem Own3O.only {lo : Nat} {w w' : World} {bs : List Nat} {v1 v2 v3 : Value} {xs ys zs : List ByteArray} (h : Own3O lo w v1 v2 v3 xs ys zs) (hb : OnlyB bs w w') (hn : ∀ b ∈ bs, b < lo) : Own3O lo w' v1 v2 v3 xs ys zs := by
  have f : ∀ {v : Value} {us : List ByteArray}, OwnO lo w.heap.size w v us → OwnO lo w'.heap.size w' v us := fun o => (o.only hb fun b hv hm => by have := (o.blk b hv).1; have := hn b hm; omega).top
  exact ⟨f h.1, f h.2.1, f h.2.2.1, h.2.2.2⟩
theorem own3O_zero (lo : Nat) (w : World) : Own3O lo w (.slice none 0 0) (.slice none 0 0) (.slice none 0 0) [] [] [] := ⟨ownO_none _ _ _, ownO_none _ _ _, ownO_none _ _ _, by decide⟩
theorem own3O_of {B l1 h1 l2 h2 l3 h3 : Nat} {w : World} {v1 v2 v3 : Value} {xs ys zs : List ByteArray} (o1 : OwnO l1 h1 w v1 xs) (o2 : OwnO l2 h2 w v2 ys) (o3 : OwnO l3 h3 w v3 zs)
    (b1 : B ≤ l1) (b2 : B ≤ l2) (b3 : B ≤ l3) (d12 : h1 ≤ l2) (d13 : h1 ≤ l3) (d23 : h2 ≤ l3) : Own3O B w v1 v2 v3 xs ys zs := by
  have n : ∀ (v : Value) (us : List ByteArray), (blkO v us).Nodup := fun v us => by unfold blkO; split <;> (cases v.ownBlock <;> simp)
  refine ⟨(o1.mono b1 (Nat.le_refl _)).top, (o2.mono b2 (Nat.le_refl _)).top, (o3.mono b3 (Nat.le_refl _)).top, List.nodup_append.2 ⟨n _ _, List.nodup_append.2 ⟨n _ _, n _ _, fun a ha b hb e => ?_⟩, fun a ha b hb e => ?_⟩⟩
  · have k2 := (o2.blk a ha).2.1; have k3 := (o3.blk b hb).1; omega
  · have k1 := (o1.blk a ha).2.1
    rcases List.mem_append.1 hb with hb | hb
    · have k2 := (o2.blk b hb).1; omega
    · have k3 := (o3.blk b hb).1; omega
/-- A policy that the call made. -/
def RdNew (p : Pol) (w : World) (e : Ending) (w' : World) : Prop :=
  ∃ (a1 : Option Addr) (n1 c1 : Nat) (a2 : Option Addr) (n2 c2 : Nat) (a3 : Option Addr) (n3 c3 : Nat), e = .returned (.agg #[.bool p.set, .slice a1 n1 c1, .slice a2 n2 c2, .slice a3 n3 c3, .string p.non]) ∧ Own3O w.heap.size w' (.slice a1 n1 c1) (.slice a2 n2 c2) (.slice a3 n3 c3) p.scr p.sty p.img ∧ Below w.heap.size w w'
/-- A policy that the call made, and whether it is one. -/
def PrsNew (r : Pol × Bool) (w : World) (e : Ending) (w' : World) : Prop :=
  ∃ (a1 : Option Addr) (n1 c1 : Nat) (a2 : Option Addr) (n2 c2 : Nat) (a3 : Option Addr) (n3 c3 : Nat), e = .returned (.tuple #[.agg #[.bool r.1.set, .slice a1 n1 c1, .slice a2 n2 c2, .slice a3 n3 c3, .string r.1.non], .bool r.2]) ∧ Own3O w.heap.size w' (.slice a1 n1 c1) (.slice a2 n2 c2) (.slice a3 n3 c3) r.1.scr r.1.sty r.1.img ∧ Below w.heap.size w w'
theorem finO {w Wc W1 W2 W3 : World} {p B l1 h1 l2 h2 l3 h3 : Nat} {T : TypeId} {z0 z1 z2 z3 z4 u0 u4 v1 v2 v3 : Value} {xs ys zs : List ByteArray} (hp : Wc.heap[p]? = some (.cells #[z0, z1, z2, z3, z4] T (0, 0))) (hpB : B ≤ p) (hb : Below B w Wc) (hB : B ≤ w.heap.size)
    (o1 : OwnO l1 h1 W1 v1 xs) (k1 : Below W1.heap.size W1 Wc) (o2 : OwnO l2 h2 W2 v2 ys) (k2 : Below W2.heap.size W2 Wc) (o3 : OwnO l3 h3 W3 v3 zs) (k3 : Below W3.heap.size W3 Wc)
    (p1 : p < l1) (p2 : p < l2) (p3 : p < l3) (d12 : h1 ≤ l2) (d13 : h1 ≤ l3) (d23 : h2 ≤ l3) :
    (set5 Wc p u0 v1 v2 v3 u4).heap[p]? = some (.cells #[u0, v1, v2, v3, u4] T (0, 0)) ∧ Own3O (p + 1) (set5 Wc p u0 v1 v2 v3 u4) v1 v2 v3 xs ys zs ∧ Below B w (set5 Wc p u0 v1 v2 v3 u4) := by
  have ho := set5_only Wc p u0 v1 v2 v3 u4
  have f : ∀ {lo hi : Nat} {W : World} {v : Value} {us : List ByteArray}, OwnO lo hi W v us → Below W.heap.size W Wc → p < lo → OwnO lo hi (set5 Wc p u0 v1 v2 v3 u4) v us := fun o k hlt => (o.later k).only ho fun b hv hm => by
    rw [List.mem_singleton] at hm
    have := (o.blk b hv).1; omega
  exact ⟨set5_box hp _ _ _ _ _, own3O_of (f o1 k1 p1) (f o2 k2 p2) (f o3 k3 p3) p1 p2 p3 d12 d13 d23, hb.trans (ho.below (fun i hi => by rw [List.mem_singleton] at hi; omega) (Nat.le_trans hB hb.size))⟩
theorem ob_dw {bs : List Nat} {w w' : World} (h : OnlyB bs w w') : OnlyB bs w w'.drew := ⟨h.os, h.tape, h.output, h.size, h.block⟩
theorem ob_aw {bs : List Nat} {w w' : World} (h : OnlyB bs w w') (o : Obj) : OnlyB bs w (w'.alloc o) := h.trans (OnlyB.of_below ((Below.refl _ _).alloc (Nat.le_refl _) o) bs)
theorem ob_st {p o : Nat} {w w' : World} (h : OnlyB [p] w w') (v : Value) : OnlyB [p] w (w'.setCell ⟨p, o, none⟩ v) := h.set (by simp)
theorem below_dN (w : World) (n : Nat) : Below w.heap.size w (w.drewN n) := (Grw.refl w).drewN n |>.below
def rdL (L : List ByteArray) (n : ByteArray) : Pol := match L with
  | [a, b, c] => ⟨true, (splS 32 a.data.toList).tail, (splS 32 b.data.toList).tail, (splS 32 c.data.toList).tail, n⟩
  | _ => polZ
theorem rdI_eq {s : ByteArray} {F N : List UInt8} {B : Bool} {L : List ByteArray} (hc : Lib.cut s.data.toList kNon.data.toList = (F, N, B)) (hL : splS 59 F = L) : rdI s = rdL L (ofL N) := by
  subst hL
  unfold rdI rdL
  rw [hc]
  rfl
theorem rdL_no {L : List ByteArray} {n : ByteArray} (h : L.length ≠ 3) : rdL L n = polZ := by
  unfold rdL
  split
  · exact absurd rfl h
  · rfl
theorem three_of {l : List ByteArray} (h : l.length = 3) : ∃ a b c, l = [a, b, c] := by
  match l, h with
  | [a, b, c], _ => exact ⟨a, b, c, rfl⟩

end Go.Proofs.YtpkicliimhflgaaDoor
namespace Go.Proofs.YtpkicliimhflgaaDoor
open Go.ChangeShapes Go.WideShapes Go.ChangeAt Go.RowKit

set_option maxRecDepth 100000 in
set_option maxHeartbeats 8000000 in
theorem fmtPol_spec (set : Bool) (scr sty img : List ByteArray) (non : ByteArray) (a1 : Option Addr) (n1 c1 : Nat) (a2 : Option Addr) (n2 c2 : Nat) (a3 : Option Addr) (n3 c3 : Nat) (hz : PolSm ⟨set, scr, sty, img, non⟩) (w : World) (hr : ReadP w.heap.size w (.slice a1 n1 c1) (.slice a2 n2 c2) (.slice a3 n3 c3) ⟨set, scr, sty, img, non⟩) :
    Calls Tryd.prog 52 #[.agg #[.bool set, .slice a1 n1 c1, .slice a2 n2 c2, .slice a3 n3 c3, .string non]] w fun e w' => e = .returned (.string (fmtP ⟨set, scr, sty, img, non⟩)) ∧ Below w.heap.size w w' := by
  obtain ⟨z1, z2, z3, z4⟩ := id hz
  cases set with
  | false =>
    obtain ⟨W, hW⟩ : ∃ W, w.alloc (.cells #[.bool false, .slice a1 n1 c1, .slice a2 n2 c2, .slice a3 n3 c3, .string non] 75) = W := ⟨_, rfl⟩
    have HG := Lib.hid (show Grw w W by rw [← hW]; exact (Grw.refl w).alloc _)
    have q0 : W.cell? ⟨w.heap.size, 0, none⟩ = some (.bool false) := by rw [← hW]; simp
    have q1 : W.cell? ⟨w.heap.size, 1, none⟩ = some (.slice a1 n1 c1) := by rw [← hW]; simp
    have q2 : W.cell? ⟨w.heap.size, 2, none⟩ = some (.slice a2 n2 c2) := by rw [← hW]; simp
    have q3 : W.cell? ⟨w.heap.size, 3, none⟩ = some (.slice a3 n3 c3) := by rw [← hW]; simp
    have q4 : W.cell? ⟨w.heap.size, 4, none⟩ = some (.string non) := by rw [← hW]; simp
    obtain ⟨hr1, hr2, hr3⟩ := (hr.below HG.out.below (Nat.le_refl _)).mono HG.out.below.size
    have HR1 := Lib.hid hr1; have HR2 := Lib.hid hr2; have HR3 := Lib.hid hr3; clear hr hr1 hr2 hr3
    have HI := Lib.hid (isPol_spec false scr sty img non a1 n1 c1 a2 n2 c2 a3 n3 c3 hz W ⟨HR1.out, HR2.out, HR3.out⟩)
    have HV := Lib.hid (fmtP_no (p := ⟨false, scr, sty, img, non⟩) (by rintro ⟨h, _⟩; cases h))
    clear z1 z2 z3 z4 hz
    cases hp : isPol ⟨false, scr, sty, img, non⟩ with
    | false =>
      rw [hp] at HI
      clear hp
      go_enter Tryd.func52, Tryd.ntmps52
      go_wp2_with fail
      refine HI.out.mono ?_
      rintro e w1 ⟨rfl, hg⟩
      replace q0 := (hg.below.cell (show (⟨w.heap.size, 0, none⟩ : Addr).block < _ from World.block_lt_of_cell? _ _ q0)).trans q0
      replace q1 := (hg.below.cell (show (⟨w.heap.size, 1, none⟩ : Addr).block < _ from World.block_lt_of_cell? _ _ q1)).trans q1
      replace q2 := (hg.below.cell (show (⟨w.heap.size, 2, none⟩ : Addr).block < _ from World.block_lt_of_cell? _ _ q2)).trans q2
      replace q3 := (hg.below.cell (show (⟨w.heap.size, 3, none⟩ : Addr).block < _ from World.block_lt_of_cell? _ _ q3)).trans q3
      replace q4 := (hg.below.cell (show (⟨w.heap.size, 4, none⟩ : Addr).block < _ from World.block_lt_of_cell? _ _ q4)).trans q4
      replace HR1 := Lib.hid ((HR1.out.below hg.below (Nat.le_refl _)).mono hg.below.size)
      replace HR2 := Lib.hid ((HR2.out.below hg.below (Nat.le_refl _)).mono hg.below.size)
      replace HR3 := Lib.hid ((HR3.out.below hg.below (Nat.le_refl _)).mono hg.below.size)
      replace HG := Lib.hid (HG.out.trans hg); clear hg
      go_wp2_with fail
      go_ret
      exact ⟨by rw [HV.out]; rfl, HG.out.below⟩
    | true =>
      rw [hp] at HI
      clear hp
      go_enter Tryd.func52, Tryd.ntmps52
      go_wp2_with fail
      refine HI.out.mono ?_
      rintro e w1 ⟨rfl, hg⟩
      replace q0 := (hg.below.cell (show (⟨w.heap.size, 0, none⟩ : Addr).block < _ from World.block_lt_of_cell? _ _ q0)).trans q0
      replace q1 := (hg.below.cell (show (⟨w.heap.size, 1, none⟩ : Addr).block < _ from World.block_lt_of_cell? _ _ q1)).trans q1
      replace q2 := (hg.below.cell (show (⟨w.heap.size, 2, none⟩ : Addr).block < _ from World.block_lt_of_cell? _ _ q2)).trans q2
      replace q3 := (hg.below.cell (show (⟨w.heap.size, 3, none⟩ : Addr).block < _ from World.block_lt_of_cell? _ _ q3)).trans q3
      replace q4 := (hg.below.cell (show (⟨w.heap.size, 4, none⟩ : Addr).block < _ from World.block_lt_of_cell? _ _ q4)).trans q4
      replace HR1 := Lib.hid ((HR1.out.below hg.below (Nat.le_refl _)).mono hg.below.size)
      replace HR2 := Lib.hid ((HR2.out.below hg.below (Nat.le_refl _)).mono hg.below.size)
      replace HR3 := Lib.hid ((HR3.out.below hg.below (Nat.le_refl _)).mono hg.below.size)
      replace HG := Lib.hid (HG.out.trans hg); clear hg
      go_wp2_with fail
      go_ret
      exact ⟨by rw [HV.out]; rfl, HG.out.below⟩
  | true =>
    obtain ⟨W, hW⟩ : ∃ W, w.alloc (.cells #[.bool true, .slice a1 n1 c1, .slice a2 n2 c2, .slice a3 n3 c3, .string non] 75) = W := ⟨_, rfl⟩
    have HG := Lib.hid (show Grw w W by rw [← hW]; exact (Grw.refl w).alloc _)
    have q0 : W.cell? ⟨w.heap.size, 0, none⟩ = some (.bool true) := by rw [← hW]; simp
    have q1 : W.cell? ⟨w.heap.size, 1, none⟩ = some (.slice a1 n1 c1) := by rw [← hW]; simp
    have q2 : W.cell? ⟨w.heap.size, 2, none⟩ = some (.slice a2 n2 c2) := by rw [← hW]; simp
    have q3 : W.cell? ⟨w.heap.size, 3, none⟩ = some (.slice a3 n3 c3) := by rw [← hW]; simp
    have q4 : W.cell? ⟨w.heap.size, 4, none⟩ = some (.string non) := by rw [← hW]; simp
    obtain ⟨hr1, hr2, hr3⟩ := (hr.below HG.out.below (Nat.le_refl _)).mono HG.out.below.size
    have HR1 := Lib.hid hr1; have HR2 := Lib.hid hr2; have HR3 := Lib.hid hr3; clear hr hr1 hr2 hr3
    have HI := Lib.hid (isPol_spec true scr sty img non a1 n1 c1 a2 n2 c2 a3 n3 c3 hz W ⟨HR1.out, HR2.out, HR3.out⟩)
    clear hz
    cases hp : isPol ⟨true, scr, sty, img, non⟩ with
    | false =>
      rw [hp] at HI
      have HV := Lib.hid (fmtP_no (p := ⟨true, scr, sty, img, non⟩) (by rintro ⟨_, h⟩; rw [hp] at h; cases h)); clear z1 z2 z3 z4
      clear hp
      go_enter Tryd.func52, Tryd.ntmps52
      go_wp2_with fail
      refine HI.out.mono ?_
      rintro e w1 ⟨rfl, hg⟩
      replace q0 := (hg.below.cell (show (⟨w.heap.size, 0, none⟩ : Addr).block < _ from World.block_lt_of_cell? _ _ q0)).trans q0
      replace q1 := (hg.below.cell (show (⟨w.heap.size, 1, none⟩ : Addr).block < _ from World.block_lt_of_cell? _ _ q1)).trans q1
      replace q2 := (hg.below.cell (show (⟨w.heap.size, 2, none⟩ : Addr).block < _ from World.block_lt_of_cell? _ _ q2)).trans q2
      replace q3 := (hg.below.cell (show (⟨w.heap.size, 3, none⟩ : Addr).block < _ from World.block_lt_of_cell? _ _ q3)).trans q3
      replace q4 := (hg.below.cell (show (⟨w.heap.size, 4, none⟩ : Addr).block < _ from World.block_lt_of_cell? _ _ q4)).trans q4
      replace HR1 := Lib.hid ((HR1.out.below hg.below (Nat.le_refl _)).mono hg.below.size)
      replace HR2 := Lib.hid ((HR2.out.below hg.below (Nat.le_refl _)).mono hg.below.size)
      replace HR3 := Lib.hid ((HR3.out.below hg.below (Nat.le_refl _)).mono hg.below.size)
      replace HG := Lib.hid (HG.out.trans hg); clear hg
      go_wp2_with fail
      go_ret
      exact ⟨by rw [HV.out]; rfl, HG.out.below⟩
    | true =>
      rw [hp] at HI
      have HP := Lib.hid hp
      clear hp
      go_enter Tryd.func52, Tryd.ntmps52
      go_wp2_with fail
      refine HI.out.mono ?_
      rintro e w1 ⟨rfl, hg⟩
      replace q0 := (hg.below.cell (show (⟨w.heap.size, 0, none⟩ : Addr).block < _ from World.block_lt_of_cell? _ _ q0)).trans q0
      replace q1 := (hg.below.cell (show (⟨w.heap.size, 1, none⟩ : Addr).block < _ from World.block_lt_of_cell? _ _ q1)).trans q1
      replace q2 := (hg.below.cell (show (⟨w.heap.size, 2, none⟩ : Addr).block < _ from World.block_lt_of_cell? _ _ q2)).trans q2
      replace q3 := (hg.below.cell (show (⟨w.heap.size, 3, none⟩ : Addr).block < _ from World.block_lt_of_cell? _ _ q3)).trans q3
      replace q4 := (hg.below.cell (show (⟨w.heap.size, 4, none⟩ : Addr).block < _ from World.block_lt_of_cell? _ _ q4)).trans q4
      replace HR1 := Lib.hid ((HR1.out.below hg.below (Nat.le_refl _)).mono hg.below.size)
      replace HR2 := Lib.hid ((HR2.out.below hg.below (Nat.le_refl _)).mono hg.below.size)
      replace HR3 := Lib.hid ((HR3.out.below hg.below (Nat.le_refl _)).mono hg.below.size)
      replace HG := Lib.hid (HG.out.trans hg); clear hg
      have hs1 : (wordsS kScr scr).size ≤ 1048582 := by rw [wordsS_size]; have := z1; have h6 : kScr.size ≤ 6 := (by decide); omega
      have HW1 := Lib.hid (fun (X : World) (hb : Below w1.heap.size w1 X) => show Calls Tryd.prog 58 #[.string ⟨#[115, 99, 114, 105, 112, 116]⟩, .slice a1 n1 c1] X fun e w' => e = .returned (.string (wordsS kScr scr)) ∧ Below X.heap.size X w' from (words9_spec _ _ scr kScr X (HR1.out.below hb (Nat.le_refl _)) (by decide) z1).mono fun e w' h => ⟨h.1, by rw [← h.2]; exact Below.refl _ _⟩)
      have hs2 : (wordsS kSty sty).size ≤ 1048582 := by rw [wordsS_size]; have := z2; have h6 : kSty.size ≤ 6 := (by decide); omega
      have HW2 := Lib.hid (fun (X : World) (hb : Below w1.heap.size w1 X) => show Calls Tryd.prog 58 #[.string ⟨#[115, 116, 121, 108, 101]⟩, .slice a2 n2 c2] X fun e w' => e = .returned (.string (wordsS kSty sty)) ∧ Below X.heap.size X w' from (words9_spec _ _ sty kSty X (HR2.out.below hb (Nat.le_refl _)) (by decide) z2).mono fun e w' h => ⟨h.1, by rw [← h.2]; exact Below.refl _ _⟩)
      have hs3 : (wordsS kImg img).size ≤ 1048582 := by rw [wordsS_size]; have := z3; have h6 : kImg.size ≤ 6 := (by decide); omega
      have HW3 := Lib.hid (fun (X : World) (hb : Below w1.heap.size w1 X) => show Calls Tryd.prog 58 #[.string ⟨#[105, 109, 103]⟩, .slice a3 n3 c3] X fun e w' => e = .returned (.string (wordsS kImg img)) ∧ Below X.heap.size X w' from (words9_spec _ _ img kImg X (HR3.out.below hb (Nat.le_refl _)) (by decide) z3).mono fun e w' h => ⟨h.1, by rw [← h.2]; exact Below.refl _ _⟩)
      have HLS := Lib.hid (show (fmtP ⟨true, scr, sty, img, non⟩).data.toList = (wordsS kScr scr).data.toList ++ 59 :: ((wordsS kSty sty).data.toList ++ 59 :: ((wordsS kImg img).data.toList ++ nonL non)) by rw [fmtP_list rfl HP.out, wordsS_list, wordsS_list, wordsS_list])
      have hz4 : non.size ≤ 1048576 := z4
      clear z1 z2 z3 z4
      obtain ⟨X1, hX1⟩ : ∃ X, wordsS kScr scr = X := ⟨_, rfl⟩
      rw [hX1] at hs1 HW1 HLS
      clear hX1
      obtain ⟨X2, hX2⟩ : ∃ X, wordsS kSty sty = X := ⟨_, rfl⟩
      rw [hX2] at hs2 HW2 HLS
      clear hX2
      obtain ⟨X3, hX3⟩ : ∃ X, wordsS kImg img = X := ⟨_, rfl⟩
      rw [hX3] at hs3 HW3 HLS
      clear hX3
      have h59 : (⟨#[59]⟩ : ByteArray).size = 1 := rfl
      obtain ⟨A1, hA1⟩ : ∃ Y, X1 ++ ⟨#[59]⟩ = Y := ⟨_, rfl⟩
      have y1 : A1.size ≤ 1048583 := by rw [← hA1, ByteArray.size_append]; omega
      have s1 : ∀ W, (Op.stringOp .add X1 ⟨#[59]⟩).run Tryd.prog W = .ok (.string A1) W := fun W => by rw [← hA1]; exact run_string_add_sum _ _ _ (by omega)
      obtain ⟨A2, hA2⟩ : ∃ Y, A1 ++ X2 = Y := ⟨_, rfl⟩
      have y2 : A2.size ≤ 2097166 := by rw [← hA2, ByteArray.size_append]; omega
      have s2 : ∀ W, (Op.stringOp .add A1 X2).run Tryd.prog W = .ok (.string A2) W := fun W => by rw [← hA2]; exact run_string_add_sum _ _ _ (by omega)
      obtain ⟨A3, hA3⟩ : ∃ Y, A2 ++ ⟨#[59]⟩ = Y := ⟨_, rfl⟩
      have y3 : A3.size ≤ 3145749 := by rw [← hA3, ByteArray.size_append]; omega
      have s3 : ∀ W, (Op.stringOp .add A2 ⟨#[59]⟩).run Tryd.prog W = .ok (.string A3) W := fun W => by rw [← hA3]; exact run_string_add_sum _ _ _ (by omega)
      obtain ⟨A4, hA4⟩ : ∃ Y, A3 ++ X3 = Y := ⟨_, rfl⟩
      have y4 : A4.size ≤ 4194332 := by rw [← hA4, ByteArray.size_append]; omega
      have s4 : ∀ W, (Op.stringOp .add A3 X3).run Tryd.prog W = .ok (.string A4) W := fun W => by rw [← hA4]; exact run_string_add_sum _ _ _ (by omega)
      have HA4 := Lib.hid (show A4.data.toList = X1.data.toList ++ 59 :: (X2.data.toList ++ 59 :: X3.data.toList) by rw [← hA4, ← hA3, ← hA2, ← hA1, append_list, append_list, append_list, append_list]; simp [List.append_assoc])
      clear hA1 hA2 hA3 hA4
      go_upto_region 3 with (fail)
      go_cut [3] from 12 to 24 (fun c wx => c = .string A4 ∧ Below w1.heap.size w1 wx)
      case first =>
        have KEEP := Lib.hid (fun (w' : World) (h : Below w1.heap.size w1 w') => show Below w1.heap.size w1 w' ∧ w'.cell? ⟨w.heap.size, 1, none⟩ = some (.slice a1 n1 c1) ∧ w'.cell? ⟨w.heap.size, 2, none⟩ = some (.slice a2 n2 c2) ∧ w'.cell? ⟨w.heap.size, 3, none⟩ = some (.slice a3 n3 c3) from ⟨h, (h.cell (show (⟨w.heap.size, 1, none⟩ : Addr).block < _ from World.block_lt_of_cell? _ _ q1)).trans q1, (h.cell (show (⟨w.heap.size, 2, none⟩ : Addr).block < _ from World.block_lt_of_cell? _ _ q2)).trans q2, (h.cell (show (⟨w.heap.size, 3, none⟩ : Addr).block < _ from World.block_lt_of_cell? _ _ q3)).trans q3⟩)
        go_region_held3 (fun w' => Below w1.heap.size w1 w' ∧ w'.cell? ⟨w.heap.size, 1, none⟩ = some (.slice a1 n1 c1) ∧ w'.cell? ⟨w.heap.size, 2, none⟩ = some (.slice a2 n2 c2) ∧ w'.cell? ⟨w.heap.size, 3, none⟩ = some (.slice a3 n3 c3)) (exact KEEP.out _ (by repeat' (first | (with_reducible exact Below.refl _ _) | (with_reducible exact hPC) | (with_reducible exact hPB) | (with_reducible exact hPA) | (with_reducible refine bl_dw ?_) | (with_reducible refine bl_aw ?_ _)))) (first | (go_at_call 58; with_reducible refine (HW1.out _ (by repeat' (first | (with_reducible exact Below.refl _ _) | (with_reducible exact hPC) | (with_reducible exact hPB) | (with_reducible exact hPA) | (with_reducible refine bl_dw ?_) | (with_reducible refine bl_aw ?_ _)))).mono ?_; rintro e wA ⟨rfl, hbA⟩; have hPA := bl_tr (show Below w1.heap.size w1 _ from (by repeat' (first | (with_reducible exact Below.refl _ _) | (with_reducible exact hPC) | (with_reducible exact hPB) | (with_reducible exact hPA) | (with_reducible refine bl_dw ?_) | (with_reducible refine bl_aw ?_ _)))) hbA) | (go_at_call 58; with_reducible refine (HW2.out _ (by repeat' (first | (with_reducible exact Below.refl _ _) | (with_reducible exact hPC) | (with_reducible exact hPB) | (with_reducible exact hPA) | (with_reducible refine bl_dw ?_) | (with_reducible refine bl_aw ?_ _)))).mono ?_; rintro e wB ⟨rfl, hbB⟩; have hPB := bl_tr (show Below w1.heap.size w1 _ from (by repeat' (first | (with_reducible exact Below.refl _ _) | (with_reducible exact hPC) | (with_reducible exact hPB) | (with_reducible exact hPA) | (with_reducible refine bl_dw ?_) | (with_reducible refine bl_aw ?_ _)))) hbB) | (go_at_call 58; with_reducible refine (HW3.out _ (by repeat' (first | (with_reducible exact Below.refl _ _) | (with_reducible exact hPC) | (with_reducible exact hPB) | (with_reducible exact hPA) | (with_reducible refine bl_dw ?_) | (with_reducible refine bl_aw ?_ _)))).mono ?_; rintro e wC ⟨rfl, hbC⟩; have hPC := bl_tr (show Below w1.heap.size w1 _ from (by repeat' (first | (with_reducible exact Below.refl _ _) | (with_reducible exact hPC) | (with_reducible exact hPB) | (with_reducible exact hPA) | (with_reducible refine bl_dw ?_) | (with_reducible refine bl_aw ?_ _)))) hbC))
        all_goals
          go_wp2_with fail
          go_meet
          exact ⟨rfl, (by repeat' (first | (with_reducible exact Below.refl _ _) | (with_reducible exact hPC) | (with_reducible exact hPB) | (with_reducible exact hPA) | (with_reducible refine bl_dw ?_) | (with_reducible refine bl_aw ?_ _)))⟩
      obtain ⟨rfl, hB⟩ := hcut
      rename World => w_2
      replace q4 := (hB.cell (show (⟨w.heap.size, 4, none⟩ : Addr).block < _ from World.block_lt_of_cell? _ _ q4)).trans q4
      have HB := Lib.hid (HG.out.below.trans (hB.mono HG.out.below.size)); clear hB q0 q1 q2 q3 s1 s2 s3 s4
      by_cases m4 : non.size = 0
      · have b4 : (non.toList == []) = true := by rw [empP_size, decide_eq_true m4]
        have b5 : (non.toList != []) = false := by rw [bne, b4]; rfl
        have HV := Lib.hid (show A4 = fmtP ⟨true, scr, sty, img, non⟩ from bytesEq (by rw [HLS.out, HA4.out]; unfold nonL; rw [if_pos m4, List.append_nil])); clear m4
        go_wp2_with fail
        go_ret
        exact ⟨by rw [← HV.out]; rfl, HB.out⟩
      · have b4 : (non.toList == []) = false := by rw [empP_size, decide_eq_false m4]
        have b5 : (non.toList != []) = true := by rw [bne, b4]; rfl
        have h7 : (⟨#[59, 110, 111, 110, 99, 101, 32]⟩ : ByteArray).size = 7 := rfl
        obtain ⟨A5, hA5⟩ : ∃ Y, A4 ++ ⟨#[59, 110, 111, 110, 99, 101, 32]⟩ = Y := ⟨_, rfl⟩
        have y5 : A5.size ≤ 9194308 := by rw [← hA5, ByteArray.size_append]; omega
        have s5 : ∀ W, (Op.stringOp .add A4 ⟨#[59, 110, 111, 110, 99, 101, 32]⟩).run Tryd.prog W = .ok (.string A5) W := fun W => by rw [← hA5]; exact run_string_add_sum _ _ _ (by omega)
        obtain ⟨A6, hA6⟩ : ∃ Y, A5 ++ non = Y := ⟨_, rfl⟩
        have s6 : ∀ W, (Op.stringOp .add A5 non).run Tryd.prog W = .ok (.string A6) W := fun W => by rw [← hA6]; exact run_string_add_sum _ _ _ (by omega)
        have HV := Lib.hid (show A6 = fmtP ⟨true, scr, sty, img, non⟩ from bytesEq (by rw [HLS.out, ← hA6, ← hA5, append_list, append_list, HA4.out]; unfold nonL; rw [if_neg m4]; simp [List.append_assoc, kNon])); clear m4 hA5 hA6
        go_wp2_with fail
        go_ret
        exact ⟨by rw [← HV.out]; rfl, HB.out⟩

set_option maxRecDepth 100000 in
set_option maxHeartbeats 8000000 in
theorem fmtPol_impl (set : Bool) (scr sty img : List ByteArray) (non : ByteArray) (a1 : Option Addr) (n1 c1 : Nat) (a2 : Option Addr) (n2 c2 : Nat) (a3 : Option Addr) (n3 c3 : Nat) (hz : PolSm ⟨set, scr, sty, img, non⟩) (w : World) (hr : ReadP w.heap.size w (.slice a1 n1 c1) (.slice a2 n2 c2) (.slice a3 n3 c3) ⟨set, scr, sty, img, non⟩) :
    Calls Tryd.prog 60 #[.agg #[.bool set, .slice a1 n1 c1, .slice a2 n2 c2, .slice a3 n3 c3, .string non]] w fun e w' => e = .returned (.string (fmtP ⟨set, scr, sty, img, non⟩)) ∧ Below w.heap.size w w' := by
  obtain ⟨z1, z2, z3, z4⟩ := id hz
  cases set with
  | false =>
    obtain ⟨W, hW⟩ : ∃ W, w.alloc (.cells #[.bool false, .slice a1 n1 c1, .slice a2 n2 c2, .slice a3 n3 c3, .string non] 75) = W := ⟨_, rfl⟩
    have HG := Lib.hid (show Grw w W by rw [← hW]; exact (Grw.refl w).alloc _)
    have q0 : W.cell? ⟨w.heap.size, 0, none⟩ = some (.bool false) := by rw [← hW]; simp
    have q1 : W.cell? ⟨w.heap.size, 1, none⟩ = some (.slice a1 n1 c1) := by rw [← hW]; simp
    have q2 : W.cell? ⟨w.heap.size, 2, none⟩ = some (.slice a2 n2 c2) := by rw [← hW]; simp
    have q3 : W.cell? ⟨w.heap.size, 3, none⟩ = some (.slice a3 n3 c3) := by rw [← hW]; simp
    have q4 : W.cell? ⟨w.heap.size, 4, none⟩ = some (.string non) := by rw [← hW]; simp
    obtain ⟨hr1, hr2, hr3⟩ := (hr.below HG.out.below (Nat.le_refl _)).mono HG.out.below.size
    have HR1 := Lib.hid hr1; have HR2 := Lib.hid hr2; have HR3 := Lib.hid hr3; clear hr hr1 hr2 hr3
    have HI := Lib.hid (isPol_impl false scr sty img non a1 n1 c1 a2 n2 c2 a3 n3 c3 hz W ⟨HR1.out, HR2.out, HR3.out⟩)
    have HV := Lib.hid (fmtP_no (p := ⟨false, scr, sty, img, non⟩) (by rintro ⟨h, _⟩; cases h))
    clear z1 z2 z3 z4 hz
    clear HI
    go_enter Tryd.func60, Tryd.ntmps60
    go_wp2_with fail
    go_ret
    exact ⟨by rw [HV.out]; rfl, HG.out.below⟩
  | true =>
    obtain ⟨W, hW⟩ : ∃ W, w.alloc (.cells #[.bool true, .slice a1 n1 c1, .slice a2 n2 c2, .slice a3 n3 c3, .string non] 75) = W := ⟨_, rfl⟩
    have HG := Lib.hid (show Grw w W by rw [← hW]; exact (Grw.refl w).alloc _)
    have q0 : W.cell? ⟨w.heap.size, 0, none⟩ = some (.bool true) := by rw [← hW]; simp
    have q1 : W.cell? ⟨w.heap.size, 1, none⟩ = some (.slice a1 n1 c1) := by rw [← hW]; simp
    have q2 : W.cell? ⟨w.heap.size, 2, none⟩ = some (.slice a2 n2 c2) := by rw [← hW]; simp
    have q3 : W.cell? ⟨w.heap.size, 3, none⟩ = some (.slice a3 n3 c3) := by rw [← hW]; simp
    have q4 : W.cell? ⟨w.heap.size, 4, none⟩ = some (.string non) := by rw [← hW]; simp
    obtain ⟨hr1, hr2, hr3⟩ := (hr.below HG.out.below (Nat.le_refl _)).mono HG.out.below.size
    have HR1 := Lib.hid hr1; have HR2 := Lib.hid hr2; have HR3 := Lib.hid hr3; clear hr hr1 hr2 hr3
    have HI := Lib.hid (isPol_impl true scr sty img non a1 n1 c1 a2 n2 c2 a3 n3 c3 hz W ⟨HR1.out, HR2.out, HR3.out⟩)
    clear hz
    cases hp : isPol ⟨true, scr, sty, img, non⟩ with
    | false =>
      rw [hp] at HI
      have HV := Lib.hid (fmtP_no (p := ⟨true, scr, sty, img, non⟩) (by rintro ⟨_, h⟩; rw [hp] at h; cases h)); clear z1 z2 z3 z4
      clear hp
      go_enter Tryd.func60, Tryd.ntmps60
      go_wp2_with fail
      refine HI.out.mono ?_
      rintro e w1 ⟨rfl, hg⟩
      replace q0 := (hg.below.cell (show (⟨w.heap.size, 0, none⟩ : Addr).block < _ from World.block_lt_of_cell? _ _ q0)).trans q0
      replace q1 := (hg.below.cell (show (⟨w.heap.size, 1, none⟩ : Addr).block < _ from World.block_lt_of_cell? _ _ q1)).trans q1
      replace q2 := (hg.below.cell (show (⟨w.heap.size, 2, none⟩ : Addr).block < _ from World.block_lt_of_cell? _ _ q2)).trans q2
      replace q3 := (hg.below.cell (show (⟨w.heap.size, 3, none⟩ : Addr).block < _ from World.block_lt_of_cell? _ _ q3)).trans q3
      replace q4 := (hg.below.cell (show (⟨w.heap.size, 4, none⟩ : Addr).block < _ from World.block_lt_of_cell? _ _ q4)).trans q4
      replace HR1 := Lib.hid ((HR1.out.below hg.below (Nat.le_refl _)).mono hg.below.size)
      replace HR2 := Lib.hid ((HR2.out.below hg.below (Nat.le_refl _)).mono hg.below.size)
      replace HR3 := Lib.hid ((HR3.out.below hg.below (Nat.le_refl _)).mono hg.below.size)
      replace HG := Lib.hid (HG.out.trans hg); clear hg
      go_wp2_with fail
      go_ret
      exact ⟨by rw [HV.out]; rfl, HG.out.below⟩
    | true =>
      rw [hp] at HI
      have HP := Lib.hid hp
      clear hp
      go_enter Tryd.func60, Tryd.ntmps60
      go_wp2_with fail
      refine HI.out.mono ?_
      rintro e w1 ⟨rfl, hg⟩
      replace q0 := (hg.below.cell (show (⟨w.heap.size, 0, none⟩ : Addr).block < _ from World.block_lt_of_cell? _ _ q0)).trans q0
      replace q1 := (hg.below.cell (show (⟨w.heap.size, 1, none⟩ : Addr).block < _ from World.block_lt_of_cell? _ _ q1)).trans q1
      replace q2 := (hg.below.cell (show (⟨w.heap.size, 2, none⟩ : Addr).block < _ from World.block_lt_of_cell? _ _ q2)).trans q2
      replace q3 := (hg.below.cell (show (⟨w.heap.size, 3, none⟩ : Addr).block < _ from World.block_lt_of_cell? _ _ q3)).trans q3
      replace q4 := (hg.below.cell (show (⟨w.heap.size, 4, none⟩ : Addr).block < _ from World.block_lt_of_cell? _ _ q4)).trans q4
      replace HR1 := Lib.hid ((HR1.out.below hg.below (Nat.le_refl _)).mono hg.below.size)
      replace HR2 := Lib.hid ((HR2.out.below hg.below (Nat.le_refl _)).mono hg.below.size)
      replace HR3 := Lib.hid ((HR3.out.below hg.below (Nat.le_refl _)).mono hg.below.size)
      replace HG := Lib.hid (HG.out.trans hg); clear hg
      have hs1 : (wordsS kScr scr).size ≤ 1048582 := by rw [wordsS_size]; have := z1; have h6 : kScr.size ≤ 6 := (by decide); omega
      have HW1 := Lib.hid (fun (X : World) (hb : Below w1.heap.size w1 X) => show Calls Tryd.prog 67 #[.string ⟨#[115, 99, 114, 105, 112, 116]⟩, .slice a1 n1 c1] X fun e w' => e = .returned (.string (wordsS kScr scr)) ∧ Below X.heap.size X w' from (formatHosts_impl _ _ scr kScr X (HR1.out.below hb (Nat.le_refl _)) hb.size (by decide) z1).mono fun e w' h => h)
      have hs2 : (wordsS kSty sty).size ≤ 1048582 := by rw [wordsS_size]; have := z2; have h6 : kSty.size ≤ 6 := (by decide); omega
      have HW2 := Lib.hid (fun (X : World) (hb : Below w1.heap.size w1 X) => show Calls Tryd.prog 67 #[.string ⟨#[115, 116, 121, 108, 101]⟩, .slice a2 n2 c2] X fun e w' => e = .returned (.string (wordsS kSty sty)) ∧ Below X.heap.size X w' from (formatHosts_impl _ _ sty kSty X (HR2.out.below hb (Nat.le_refl _)) hb.size (by decide) z2).mono fun e w' h => h)
      have hs3 : (wordsS kImg img).size ≤ 1048582 := by rw [wordsS_size]; have := z3; have h6 : kImg.size ≤ 6 := (by decide); omega
      have HW3 := Lib.hid (fun (X : World) (hb : Below w1.heap.size w1 X) => show Calls Tryd.prog 67 #[.string ⟨#[105, 109, 103]⟩, .slice a3 n3 c3] X fun e w' => e = .returned (.string (wordsS kImg img)) ∧ Below X.heap.size X w' from (formatHosts_impl _ _ img kImg X (HR3.out.below hb (Nat.le_refl _)) hb.size (by decide) z3).mono fun e w' h => h)
      have HLS := Lib.hid (show (fmtP ⟨true, scr, sty, img, non⟩).data.toList = (wordsS kScr scr).data.toList ++ 59 :: ((wordsS kSty sty).data.toList ++ 59 :: ((wordsS kImg img).data.toList ++ nonL non)) by rw [fmtP_list rfl HP.out, wordsS_list, wordsS_list, wordsS_list])
      have hz4 : non.size ≤ 1048576 := z4
      clear z1 z2 z3 z4
      obtain ⟨X1, hX1⟩ : ∃ X, wordsS kScr scr = X := ⟨_, rfl⟩
      rw [hX1] at hs1 HW1 HLS
      clear hX1
      obtain ⟨X2, hX2⟩ : ∃ X, wordsS kSty sty = X := ⟨_, rfl⟩
      rw [hX2] at hs2 HW2 HLS
      clear hX2
      obtain ⟨X3, hX3⟩ : ∃ X, wordsS kImg img = X := ⟨_, rfl⟩
      rw [hX3] at hs3 HW3 HLS
      clear hX3
      have h59 : (⟨#[59]⟩ : ByteArray).size = 1 := rfl
      obtain ⟨A1, hA1⟩ : ∃ Y, X1 ++ ⟨#[59]⟩ = Y := ⟨_, rfl⟩
      have y1 : A1.size ≤ 1048583 := by rw [← hA1, ByteArray.size_append]; omega
      have s1 : ∀ W, (Op.stringOp .add X1 ⟨#[59]⟩).run Tryd.prog W = .ok (.string A1) W := fun W => by rw [← hA1]; exact run_string_add_sum _ _ _ (by omega)
      obtain ⟨A2, hA2⟩ : ∃ Y, A1 ++ X2 = Y := ⟨_, rfl⟩
      have y2 : A2.size ≤ 2097166 := by rw [← hA2, ByteArray.size_append]; omega
      have s2 : ∀ W, (Op.stringOp .add A1 X2).run Tryd.prog W = .ok (.string A2) W := fun W => by rw [← hA2]; exact run_string_add_sum _ _ _ (by omega)
      obtain ⟨A3, hA3⟩ : ∃ Y, A2 ++ ⟨#[59]⟩ = Y := ⟨_, rfl⟩
      have y3 : A3.size ≤ 3145749 := by rw [← hA3, ByteArray.size_append]; omega
      have s3 : ∀ W, (Op.stringOp .add A2 ⟨#[59]⟩).run Tryd.prog W = .ok (.string A3) W := fun W => by rw [← hA3]; exact run_string_add_sum _ _ _ (by omega)
      obtain ⟨A4, hA4⟩ : ∃ Y, A3 ++ X3 = Y := ⟨_, rfl⟩
      have y4 : A4.size ≤ 4194332 := by rw [← hA4, ByteArray.size_append]; omega
      have s4 : ∀ W, (Op.stringOp .add A3 X3).run Tryd.prog W = .ok (.string A4) W := fun W => by rw [← hA4]; exact run_string_add_sum _ _ _ (by omega)
      have HA4 := Lib.hid (show A4.data.toList = X1.data.toList ++ 59 :: (X2.data.toList ++ 59 :: X3.data.toList) by rw [← hA4, ← hA3, ← hA2, ← hA1, append_list, append_list, append_list, append_list]; simp [List.append_assoc])
      clear hA1 hA2 hA3 hA4
      go_upto_region 3 with (fail)
      go_cut [3] from 12 to 24 (fun c wx => c = .string A4 ∧ Below w1.heap.size w1 wx)
      case first =>
        have KEEP := Lib.hid (fun (w' : World) (h : Below w1.heap.size w1 w') => show Below w1.heap.size w1 w' ∧ w'.cell? ⟨w.heap.size, 1, none⟩ = some (.slice a1 n1 c1) ∧ w'.cell? ⟨w.heap.size, 2, none⟩ = some (.slice a2 n2 c2) ∧ w'.cell? ⟨w.heap.size, 3, none⟩ = some (.slice a3 n3 c3) from ⟨h, (h.cell (show (⟨w.heap.size, 1, none⟩ : Addr).block < _ from World.block_lt_of_cell? _ _ q1)).trans q1, (h.cell (show (⟨w.heap.size, 2, none⟩ : Addr).block < _ from World.block_lt_of_cell? _ _ q2)).trans q2, (h.cell (show (⟨w.heap.size, 3, none⟩ : Addr).block < _ from World.block_lt_of_cell? _ _ q3)).trans q3⟩)
        go_region_held3 (fun w' => Below w1.heap.size w1 w' ∧ w'.cell? ⟨w.heap.size, 1, none⟩ = some (.slice a1 n1 c1) ∧ w'.cell? ⟨w.heap.size, 2, none⟩ = some (.slice a2 n2 c2) ∧ w'.cell? ⟨w.heap.size, 3, none⟩ = some (.slice a3 n3 c3)) (exact KEEP.out _ (by repeat' (first | (with_reducible exact Below.refl _ _) | (with_reducible exact hPC) | (with_reducible exact hPB) | (with_reducible exact hPA) | (with_reducible refine bl_dw ?_) | (with_reducible refine bl_aw ?_ _)))) (first | (go_at_call 67; with_reducible refine (HW1.out _ (by repeat' (first | (with_reducible exact Below.refl _ _) | (with_reducible exact hPC) | (with_reducible exact hPB) | (with_reducible exact hPA) | (with_reducible refine bl_dw ?_) | (with_reducible refine bl_aw ?_ _)))).mono ?_; rintro e wA ⟨rfl, hbA⟩; have hPA := bl_tr (show Below w1.heap.size w1 _ from (by repeat' (first | (with_reducible exact Below.refl _ _) | (with_reducible exact hPC) | (with_reducible exact hPB) | (with_reducible exact hPA) | (with_reducible refine bl_dw ?_) | (with_reducible refine bl_aw ?_ _)))) hbA) | (go_at_call 67; with_reducible refine (HW2.out _ (by repeat' (first | (with_reducible exact Below.refl _ _) | (with_reducible exact hPC) | (with_reducible exact hPB) | (with_reducible exact hPA) | (with_reducible refine bl_dw ?_) | (with_reducible refine bl_aw ?_ _)))).mono ?_; rintro e wB ⟨rfl, hbB⟩; have hPB := bl_tr (show Below w1.heap.size w1 _ from (by repeat' (first | (with_reducible exact Below.refl _ _) | (with_reducible exact hPC) | (with_reducible exact hPB) | (with_reducible exact hPA) | (with_reducible refine bl_dw ?_) | (with_reducible refine bl_aw ?_ _)))) hbB) | (go_at_call 67; with_reducible refine (HW3.out _ (by repeat' (first | (with_reducible exact Below.refl _ _) | (with_reducible exact hPC) | (with_reducible exact hPB) | (with_reducible exact hPA) | (with_reducible refine bl_dw ?_) | (with_reducible refine bl_aw ?_ _)))).mono ?_; rintro e wC ⟨rfl, hbC⟩; have hPC := bl_tr (show Below w1.heap.size w1 _ from (by repeat' (first | (with_reducible exact Below.refl _ _) | (with_reducible exact hPC) | (with_reducible exact hPB) | (with_reducible exact hPA) | (with_reducible refine bl_dw ?_) | (with_reducible refine bl_aw ?_ _)))) hbC))
        all_goals
          go_wp2_with fail
          go_meet
          exact ⟨rfl, (by repeat' (first | (with_reducible exact Below.refl _ _) | (with_reducible exact hPC) | (with_reducible exact hPB) | (with_reducible exact hPA) | (with_reducible refine bl_dw ?_) | (with_reducible refine bl_aw ?_ _)))⟩
      obtain ⟨rfl, hB⟩ := hcut
      rename World => w_2
      replace q4 := (hB.cell (show (⟨w.heap.size, 4, none⟩ : Addr).block < _ from World.block_lt_of_cell? _ _ q4)).trans q4
      have HB := Lib.hid (HG.out.below.trans (hB.mono HG.out.below.size)); clear hB q0 q1 q2 q3 s1 s2 s3 s4
      by_cases m4 : non.size = 0
      · have b4 : (non.toList == []) = true := by rw [empP_size, decide_eq_true m4]
        have b5 : (non.toList != []) = false := by rw [bne, b4]; rfl
        have HV := Lib.hid (show A4 = fmtP ⟨true, scr, sty, img, non⟩ from bytesEq (by rw [HLS.out, HA4.out]; unfold nonL; rw [if_pos m4, List.append_nil])); clear m4
        go_wp2_with fail
        go_ret
        exact ⟨by rw [← HV.out]; rfl, HB.out⟩
      · have b4 : (non.toList == []) = false := by rw [empP_size, decide_eq_false m4]
        have b5 : (non.toList != []) = true := by rw [bne, b4]; rfl
        have h7 : (⟨#[59, 110, 111, 110, 99, 101, 32]⟩ : ByteArray).size = 7 := rfl
        obtain ⟨A5, hA5⟩ : ∃ Y, ⟨#[59, 110, 111, 110, 99, 101, 32]⟩ ++ non = Y := ⟨_, rfl⟩
        have y5 : A5.size ≤ 9194308 := by rw [← hA5, ByteArray.size_append]; omega
        have s5 : ∀ W, (Op.stringOp .add ⟨#[59, 110, 111, 110, 99, 101, 32]⟩ non).run Tryd.prog W = .ok (.string A5) W := fun W => by rw [← hA5]; exact run_string_add_sum _ _ _ (by omega)
        obtain ⟨A6, hA6⟩ : ∃ Y, A4 ++ A5 = Y := ⟨_, rfl⟩
        have s6 : ∀ W, (Op.stringOp .add A4 A5).run Tryd.prog W = .ok (.string A6) W := fun W => by rw [← hA6]; exact run_string_add_sum _ _ _ (by omega)
        have HV := Lib.hid (show A6 = fmtP ⟨true, scr, sty, img, non⟩ from bytesEq (by rw [HLS.out, ← hA6, ← hA5, append_list, append_list, HA4.out]; unfold nonL; rw [if_neg m4]; simp [List.append_assoc, kNon])); clear m4 hA5 hA6
        go_wp2_with fail
        go_ret
        exact ⟨by rw [← HV.out]; rfl, HB.out⟩

end Go.Proofs.YtpkicliimhflgaaDoor
namespace Go.Proofs.YtpkicliimhflgaaDoor
open Go.ChangeShapes Go.WideShapes Go.ChangeAt Go.RowKit

set_option maxRecDepth 100000 in
set_option maxHeartbeats 4000000 in
theorem readPolicy_any (s : ByteArray) (hz : s.size ≤ 1048576) (w : World) (hm : Max0 w) :
    Calls Tryd.prog 59 #[.string s] w (RdNew (rdI s) w) := by
  obtain ⟨F, N, B, hcut⟩ : ∃ F N B, Lib.cut s.data.toList kNon.data.toList = (F, N, B) := ⟨_, _, _, rfl⟩
  have hcl := cut_len s.data.toList kNon.data.toList
  rw [hcut, size_list] at hcl; dsimp only at hcl
  obtain ⟨hFl, hNl⟩ := hcl
  obtain ⟨L, hL⟩ : ∃ L, splS 59 F = L := ⟨_, rfl⟩
  have HR := Lib.hid (rdI_eq hcut hL)
  obtain ⟨W0, hW0⟩ : ∃ x, w.alloc (.cells #[.bool false, .slice none 0 0, .slice none 0 0, .slice none 0 0, .string ⟨#[]⟩] 75) = x := ⟨_, rfl⟩
  have HB0 := Lib.hid (show Below w.heap.size w W0 by rw [← hW0]; exact bl_aw (Below.refl _ _) _)
  have H0 := Lib.hid (show W0.heap[w.heap.size]? = some (.cells #[.bool false, .slice none 0 0, .slice none 0 0, .slice none 0 0, .string ⟨#[]⟩] 75 (0, 0)) by rw [← hW0]; exact heap_alloc_new w _)
  have hct := cutN_any s hz W0 (hm.on HB0.out)
  rw [hcut] at hct; dsimp only at hct
  have HCT := Lib.hid hct; have HW0 := Lib.hid hW0; have HLL := Lib.hid hL; clear hct hW0 hcut hm
  have HSP := Lib.hid (fun X => split_any (ofL F) 59 (by rw [ofL_size]; omega) X)
  go_enter Tryd.func59, Tryd.ntmps59
  go_wp2_with fail
  rw [HW0.out]
  refine HCT.out.mono ?_
  rintro e w1 ⟨rfl, n, rfl⟩
  have HB1 := Lib.hid (below_dN W0 n)
  obtain ⟨w1, hw1⟩ : ∃ x, W0.drewN n = x := ⟨_, rfl⟩
  rw [hw1] at HB1 ⊢
  clear hw1
  go_wp2_with fail
  refine (HSP.out _).mono ?_
  rintro e w2 ⟨v, rfl, ho, hb⟩
  rw [ofL_list, HLL.out] at ho
  have HB2 := Lib.hid (show Below W0.heap.size W0 w2 from bl_tr HB1.out hb); clear hb
  have HBX := Lib.hid (below_heap HB2.out (heap_lt H0.out) H0.out)
  by_cases h3 : L.length = 3
  · obtain ⟨a, b, c, rfl⟩ := three_of h3
    clear h3
    have hza : a.size ≤ 1048576 := by have h := sp_piece (p := a) (c := 59) (l := F) (by rw [HLL.out]; simp); omega
    have hzb : b.size ≤ 1048576 := by have h := sp_piece (p := b) (c := 59) (l := F) (by rw [HLL.out]; simp); omega
    have hzc : c.size ≤ 1048576 := by have h := sp_piece (p := c) (c := 59) (l := F) (by rw [HLL.out]; simp); omega
    have HX1 := Lib.hid (fun X => readHosts_any a hza X)
    have HX2 := Lib.hid (fun X => readHosts_any b hzb X)
    have HX3 := Lib.hid (fun X => readHosts_any c hzc X)
    obtain ⟨X1, hX1⟩ : ∃ x, (splS 32 a.data.toList).tail = x := ⟨_, rfl⟩
    obtain ⟨X2, hX2⟩ : ∃ x, (splS 32 b.data.toList).tail = x := ⟨_, rfl⟩
    obtain ⟨X3, hX3⟩ : ∃ x, (splS 32 c.data.toList).tail = x := ⟨_, rfl⟩
    have HRR := Lib.hid (show rdI s = ⟨true, X1, X2, X3, ofL N⟩ by rw [HR.out, ← hX1, ← hX2, ← hX3]; rfl); clear HR
    try rw [HRR.out]
    rw [hX1] at HX1; rw [hX2] at HX2; rw [hX3] at HX3
    have hrd := ho.reads encS_len
    obtain ⟨g, n', cc, rfl, hn1, hcc, hcm⟩ := own_first ho
    have hn3 : n' = 3 := by obtain ⟨_, _, e, _⟩ := hrd; injection e with _ e _
    subst hn3
    have hnw := hrd.news encS_len
    have c0 : w2.cell? ⟨g, 0, none⟩ = some (.string a) := by have h := hnw 0 (.string a) rfl; rw [add_off, Nat.zero_add] at h; exact h
    have c1 : w2.cell? ⟨g, 1, none⟩ = some (.string b) := by have h := hnw 1 (.string b) rfl; rw [add_off, Nat.zero_add] at h; exact h
    have c2 : w2.cell? ⟨g, 2, none⟩ = some (.string c) := by have h := hnw 2 (.string c) rfl; rw [add_off, Nat.zero_add] at h; exact h
    have hgl : w1.heap.size ≤ g ∧ g < w2.heap.size := ho.lt g rfl
    have hgp : g ≠ w.heap.size := by have := HB1.out.size; have := heap_lt H0.out; omega
    have hgs := hgl.2
    clear ho hrd hnw hgl hX1 hX2 hX3 hn1
    have HKC := Lib.hid (fun (j : Nat) (u : Value) (h : w2.cell? ⟨g, j, none⟩ = some u) (w' : World) (hb : OnlyB [w.heap.size] w2 w') => show w'.cell? ⟨g, j, none⟩ = some u from (cell_only (a := ⟨g, j, none⟩) hb (show g ∉ _ by simpa using hgp) hgs).trans h)
    have KEEP := Lib.hid (fun (w' : World) (h : OnlyB [w.heap.size] w2 w') => show OnlyB [w.heap.size] w2 w' ∧ w'.cell? ⟨g, 0, none⟩ = some (.string a) ∧ w'.cell? ⟨g, 1, none⟩ = some (.string b) ∧ w'.cell? ⟨g, 2, none⟩ = some (.string c) from ⟨h, HKC.out 0 _ c0 w' h, HKC.out 1 _ c1 w' h, HKC.out 2 _ c2 w' h⟩)
    have HPS := Lib.hid (show w.heap.size < w2.heap.size by have := HB2.out.size; have := heap_lt H0.out; omega)
    clear c0 c1 c2 hgp hgs hza hzb hzc hFl hNl hz
    go_upto_region 5 with (fail)
    go_cut [32] from 19 to 32 (fun _ wx => ∃ (b1 : Option Addr) (m1 k1 : Nat) (b2 : Option Addr) (m2 k2 : Nat) (b3 : Option Addr) (m3 k3 : Nat), wx.heap[w.heap.size]? = some (.cells #[.bool true, .slice b1 m1 k1, .slice b2 m2 k2, .slice b3 m3 k3, .string (ofL N)] 75 (0, 0)) ∧ Own3O (w.heap.size + 1) wx (.slice b1 m1 k1) (.slice b2 m2 k2) (.slice b3 m3 k3) X1 X2 X3 ∧ Below w.heap.size w wx)
    case first =>
      go_region_held3 (fun w' => OnlyB [w.heap.size] w2 w' ∧ w'.cell? ⟨g, 0, none⟩ = some (.string a) ∧ w'.cell? ⟨g, 1, none⟩ = some (.string b) ∧ w'.cell? ⟨g, 2, none⟩ = some (.string c)) (exact KEEP.out _ (by repeat' (first | (with_reducible exact OnlyB.refl _ _) | (with_reducible exact OnlyB.of_below hPC _) | (with_reducible exact OnlyB.of_below hPB _) | (with_reducible exact OnlyB.of_below hPA _) | (with_reducible refine ob_dw ?_) | (with_reducible refine ob_st ?_ _) | (with_reducible refine ob_aw ?_ _)))) (first | (go_at_call 65; (with_reducible refine (HX1.out _).mono ?_); rintro e wA ⟨aA, nA, cA, rfl, hoA, hbA⟩; have hSA := bl_sz (show Below w2.heap.size w2 _ from (by repeat' (first | (with_reducible exact Below.refl _ _) | (with_reducible exact hPC) | (with_reducible exact hPB) | (with_reducible exact hPA) | (with_reducible refine bl_dw ?_) | (with_reducible refine bl_aw ?_ _)))) hbA; have hPA := bl_tr (show Below w2.heap.size w2 _ from (by repeat' (first | (with_reducible exact Below.refl _ _) | (with_reducible exact hPC) | (with_reducible exact hPB) | (with_reducible exact hPA) | (with_reducible refine bl_dw ?_) | (with_reducible refine bl_aw ?_ _)))) hbA; have zA0 := box_cell (below_heap hPA (heap_lt HBX.out) HBX.out) (j := 0) rfl; have fA0 := box_frz (below_heap hPA (heap_lt HBX.out) HBX.out) 0; have zA1 := box_cell (below_heap hPA (heap_lt HBX.out) HBX.out) (j := 1) rfl; have fA1 := box_frz (below_heap hPA (heap_lt HBX.out) HBX.out) 1; have zA2 := box_cell (below_heap hPA (heap_lt HBX.out) HBX.out) (j := 2) rfl; have fA2 := box_frz (below_heap hPA (heap_lt HBX.out) HBX.out) 2; have zA3 := box_cell (below_heap hPA (heap_lt HBX.out) HBX.out) (j := 3) rfl; have fA3 := box_frz (below_heap hPA (heap_lt HBX.out) HBX.out) 3; have zA4 := box_cell (below_heap hPA (heap_lt HBX.out) HBX.out) (j := 4) rfl; have fA4 := box_frz (below_heap hPA (heap_lt HBX.out) HBX.out) 4; (first | (have dBA := bl_sz (show Below wB.heap.size wB _ from (by repeat' (first | (with_reducible exact Below.refl _ _) | (with_reducible exact kBA) | (with_reducible exact kBC) | (with_reducible refine bl_dw ?_) | (with_reducible refine bl_aw ?_ _)))) hbA; have kBA := bl_tr (show Below wB.heap.size wB _ from (by repeat' (first | (with_reducible exact Below.refl _ _) | (with_reducible exact kBA) | (with_reducible exact kBC) | (with_reducible refine bl_dw ?_) | (with_reducible refine bl_aw ?_ _)))) hbA) | skip); (first | (have dCA := bl_sz (show Below wC.heap.size wC _ from (by repeat' (first | (with_reducible exact Below.refl _ _) | (with_reducible exact kCA) | (with_reducible exact kCB) | (with_reducible refine bl_dw ?_) | (with_reducible refine bl_aw ?_ _)))) hbA; have kCA := bl_tr (show Below wC.heap.size wC _ from (by repeat' (first | (with_reducible exact Below.refl _ _) | (with_reducible exact kCA) | (with_reducible exact kCB) | (with_reducible refine bl_dw ?_) | (with_reducible refine bl_aw ?_ _)))) hbA) | skip)) | (go_at_call 65; (with_reducible refine (HX2.out _).mono ?_); rintro e wB ⟨aB, nB, cB, rfl, hoB, hbB⟩; have hSB := bl_sz (show Below w2.heap.size w2 _ from (by repeat' (first | (with_reducible exact Below.refl _ _) | (with_reducible exact hPC) | (with_reducible exact hPB) | (with_reducible exact hPA) | (with_reducible refine bl_dw ?_) | (with_reducible refine bl_aw ?_ _)))) hbB; have hPB := bl_tr (show Below w2.heap.size w2 _ from (by repeat' (first | (with_reducible exact Below.refl _ _) | (with_reducible exact hPC) | (with_reducible exact hPB) | (with_reducible exact hPA) | (with_reducible refine bl_dw ?_) | (with_reducible refine bl_aw ?_ _)))) hbB; have zB0 := box_cell (below_heap hPB (heap_lt HBX.out) HBX.out) (j := 0) rfl; have fB0 := box_frz (below_heap hPB (heap_lt HBX.out) HBX.out) 0; have zB1 := box_cell (below_heap hPB (heap_lt HBX.out) HBX.out) (j := 1) rfl; have fB1 := box_frz (below_heap hPB (heap_lt HBX.out) HBX.out) 1; have zB2 := box_cell (below_heap hPB (heap_lt HBX.out) HBX.out) (j := 2) rfl; have fB2 := box_frz (below_heap hPB (heap_lt HBX.out) HBX.out) 2; have zB3 := box_cell (below_heap hPB (heap_lt HBX.out) HBX.out) (j := 3) rfl; have fB3 := box_frz (below_heap hPB (heap_lt HBX.out) HBX.out) 3; have zB4 := box_cell (below_heap hPB (heap_lt HBX.out) HBX.out) (j := 4) rfl; have fB4 := box_frz (below_heap hPB (heap_lt HBX.out) HBX.out) 4; (first | (have dAB := bl_sz (show Below wA.heap.size wA _ from (by repeat' (first | (with_reducible exact Below.refl _ _) | (with_reducible exact kAB) | (with_reducible exact kAC) | (with_reducible refine bl_dw ?_) | (with_reducible refine bl_aw ?_ _)))) hbB; have kAB := bl_tr (show Below wA.heap.size wA _ from (by repeat' (first | (with_reducible exact Below.refl _ _) | (with_reducible exact kAB) | (with_reducible exact kAC) | (with_reducible refine bl_dw ?_) | (with_reducible refine bl_aw ?_ _)))) hbB) | skip); (first | (have dCB := bl_sz (show Below wC.heap.size wC _ from (by repeat' (first | (with_reducible exact Below.refl _ _) | (with_reducible exact kCA) | (with_reducible exact kCB) | (with_reducible refine bl_dw ?_) | (with_reducible refine bl_aw ?_ _)))) hbB; have kCB := bl_tr (show Below wC.heap.size wC _ from (by repeat' (first | (with_reducible exact Below.refl _ _) | (with_reducible exact kCA) | (with_reducible exact kCB) | (with_reducible refine bl_dw ?_) | (with_reducible refine bl_aw ?_ _)))) hbB) | skip)) | (go_at_call 65; (with_reducible refine (HX3.out _).mono ?_); rintro e wC ⟨aC, nC, cC, rfl, hoC, hbC⟩; have hSC := bl_sz (show Below w2.heap.size w2 _ from (by repeat' (first | (with_reducible exact Below.refl _ _) | (with_reducible exact hPC) | (with_reducible exact hPB) | (with_reducible exact hPA) | (with_reducible refine bl_dw ?_) | (with_reducible refine bl_aw ?_ _)))) hbC; have hPC := bl_tr (show Below w2.heap.size w2 _ from (by repeat' (first | (with_reducible exact Below.refl _ _) | (with_reducible exact hPC) | (with_reducible exact hPB) | (with_reducible exact hPA) | (with_reducible refine bl_dw ?_) | (with_reducible refine bl_aw ?_ _)))) hbC; have zC0 := box_cell (below_heap hPC (heap_lt HBX.out) HBX.out) (j := 0) rfl; have fC0 := box_frz (below_heap hPC (heap_lt HBX.out) HBX.out) 0; have zC1 := box_cell (below_heap hPC (heap_lt HBX.out) HBX.out) (j := 1) rfl; have fC1 := box_frz (below_heap hPC (heap_lt HBX.out) HBX.out) 1; have zC2 := box_cell (below_heap hPC (heap_lt HBX.out) HBX.out) (j := 2) rfl; have fC2 := box_frz (below_heap hPC (heap_lt HBX.out) HBX.out) 2; have zC3 := box_cell (below_heap hPC (heap_lt HBX.out) HBX.out) (j := 3) rfl; have fC3 := box_frz (below_heap hPC (heap_lt HBX.out) HBX.out) 3; have zC4 := box_cell (below_heap hPC (heap_lt HBX.out) HBX.out) (j := 4) rfl; have fC4 := box_frz (below_heap hPC (heap_lt HBX.out) HBX.out) 4; (first | (have dAC := bl_sz (show Below wA.heap.size wA _ from (by repeat' (first | (with_reducible exact Below.refl _ _) | (with_reducible exact kAB) | (with_reducible exact kAC) | (with_reducible refine bl_dw ?_) | (with_reducible refine bl_aw ?_ _)))) hbC; have kAC := bl_tr (show Below wA.heap.size wA _ from (by repeat' (first | (with_reducible exact Below.refl _ _) | (with_reducible exact kAB) | (with_reducible exact kAC) | (with_reducible refine bl_dw ?_) | (with_reducible refine bl_aw ?_ _)))) hbC) | skip); (first | (have dBC := bl_sz (show Below wB.heap.size wB _ from (by repeat' (first | (with_reducible exact Below.refl _ _) | (with_reducible exact kBA) | (with_reducible exact kBC) | (with_reducible refine bl_dw ?_) | (with_reducible refine bl_aw ?_ _)))) hbC; have kBC := bl_tr (show Below wB.heap.size wB _ from (by repeat' (first | (with_reducible exact Below.refl _ _) | (with_reducible exact kBA) | (with_reducible exact kBC) | (with_reducible refine bl_dw ?_) | (with_reducible refine bl_aw ?_ _)))) hbC) | skip)))
      all_goals
        go_wp2_with fail
        go_meet
        have hsA := HPS.out
        exact ⟨aA, nA, cA, aB, nB, cB, aC, nC, cC, finO (below_heap hPC (heap_lt HBX.out) HBX.out) (Nat.le_refl _) (HB0.out.trans ((HB2.out.trans (hPC.mono HB2.out.size)).mono HB0.out.size)) (Nat.le_refl _) hoA kAC hoB kBC hoC (Below.refl _ _) (Nat.lt_of_lt_of_le hsA hSA) (Nat.lt_of_lt_of_le hsA hSB) (Nat.lt_of_lt_of_le hsA hSC) dAB dAC dBC⟩
    obtain ⟨b1, m1, k1, b2, m2, k2, b3, m3, k3, hbox, how, hbf⟩ := hcut
    have HOW := Lib.hid how; have HBF := Lib.hid hbf; clear how hbf
    have fq0 := box_cell hbox (j := 0) rfl
    have fq1 := box_cell hbox (j := 1) rfl
    have fq2 := box_cell hbox (j := 2) rfl
    have fq3 := box_cell hbox (j := 3) rfl
    have fq4 := box_cell hbox (j := 4) rfl
    clear hbox
    go_wp2_with fail
    refine bodyPost_ret (v := .agg #[.bool true, .slice b1 m1 k1, .slice b2 m2 k2, .slice b3 m3 k3, .string (ofL N)]) (by simp [results, Tryd.results59, go_sem, fq0, fq1, fq2, fq3, fq4]) rfl ?_
    try rw [HRR.out]
    exact ⟨b1, m1, k1, b2, m2, k2, b3, m3, k3, rfl, HOW.out.low (Nat.le_succ _), HBF.out⟩
  · have HRR := Lib.hid (show rdI s = polZ by rw [HR.out]; exact rdL_no h3); clear HR
    try rw [HRR.out]
    obtain ⟨va, vc, rfl, _⟩ := ho.reads encS_len
    obtain ⟨m, hm⟩ : ∃ m, L.length = m := ⟨_, rfl⟩
    rw [hm] at h3 ⊢; clear hm ho
    have e3 : ((m : Int) != 3) = true := bne_iff_ne.2 (by omega)
    have e4 : ((m : Int) == 3) = false := beq_eq_false_iff_ne.2 (by omega)
    have y0 := box_cell HBX.out (j := 0) rfl; have x0 := box_frz HBX.out 0
    have y1 := box_cell HBX.out (j := 1) rfl; have x1 := box_frz HBX.out 1
    have y2 := box_cell HBX.out (j := 2) rfl; have x2 := box_frz HBX.out 2
    have y3 := box_cell HBX.out (j := 3) rfl; have x3 := box_frz HBX.out 3
    have y4 := box_cell HBX.out (j := 4) rfl; have x4 := box_frz HBX.out 4
    go_wp2_with fail
    obtain ⟨w9, hw9⟩ : ∃ x, (((((w2.setCell ⟨w.heap.size, 0, none⟩ (.bool false)).setCell ⟨w.heap.size, 1, none⟩ (.slice none 0 0)).setCell ⟨w.heap.size, 2, none⟩ (.slice none 0 0)).setCell ⟨w.heap.size, 3, none⟩ (.slice none 0 0)).setCell ⟨w.heap.size, 4, none⟩ (.string ⟨#[]⟩)) = x := ⟨_, rfl⟩
    rw [hw9]
    have hon : OnlyB [w.heap.size] w2 w9 := by rw [← hw9]; exact set5_only w2 (w.heap.size) _ _ _ _ _
    have hb9 := set5_box HBX.out (.bool false) (.slice none 0 0) (.slice none 0 0) (.slice none 0 0) (.string ⟨#[]⟩)
    rw [show set5 w2 (w.heap.size) (.bool false) (.slice none 0 0) (.slice none 0 0) (.slice none 0 0) (.string ⟨#[]⟩) = w9 from hw9] at hb9
    have r0 := box_cell hb9 (j := 0) rfl
    have r1 := box_cell hb9 (j := 1) rfl
    have r2 := box_cell hb9 (j := 2) rfl
    have r3 := box_cell hb9 (j := 3) rfl
    have r4 := box_cell hb9 (j := 4) rfl
    refine bodyPost_ret (v := .agg #[.bool false, .slice none 0 0, .slice none 0 0, .slice none 0 0, .string ⟨#[]⟩]) (by simp [results, Tryd.results59, go_sem, r0, r1, r2, r3, r4]) rfl ?_
    have hbl := HB0.out.trans (HB2.out.mono HB0.out.size)
    try unfold PrsNew
    try rw [HRR.out]
    refine ⟨none, 0, 0, none, 0, 0, none, 0, 0, rfl, own3O_zero _ _, ?_⟩
    exact hbl.trans (hon.below (fun i hi => by rw [List.mem_singleton] at hi; omega) hbl.size)


set_option maxRecDepth 100000 in
set_option maxHeartbeats 4000000 in
theorem prs_impl (s : ByteArray) (hz : s.size ≤ 1048576) (w : World) (hm : Max0 w) :
    Calls Tryd.prog 53 #[.string s] w (PrsNew (prsP s) w) := by
  obtain ⟨W0, hW0⟩ : ∃ x, w.alloc (.cells #[.bool false, .slice none 0 0, .slice none 0 0, .slice none 0 0, .string ⟨#[]⟩] 75) = x := ⟨_, rfl⟩
  have HB0 := Lib.hid (show Below w.heap.size w W0 by rw [← hW0]; exact bl_aw (Below.refl _ _) _)
  have H0 := Lib.hid (show W0.heap[w.heap.size]? = some (.cells #[.bool false, .slice none 0 0, .slice none 0 0, .slice none 0 0, .string ⟨#[]⟩] 75 (0, 0)) by rw [← hW0]; exact heap_alloc_new w _)
  have HW0 := Lib.hid hW0; clear hW0
  by_cases h0 : s.size = 0
  · have e1 : (s.toList == []) = true := by rw [empP_size, decide_eq_true h0]
    have HRR := Lib.hid (show prsP s = (polZ, true) by unfold prsP; rw [if_pos h0]); clear h0 hm hz
    go_enter Tryd.func53, Tryd.ntmps53
    go_upto_region 2 with (fail)
    rw [HW0.out]
    have y0 := box_cell H0.out (j := 0) rfl; have x0 := box_frz H0.out 0
    have y1 := box_cell H0.out (j := 1) rfl; have x1 := box_frz H0.out 1
    have y2 := box_cell H0.out (j := 2) rfl; have x2 := box_frz H0.out 2
    have y3 := box_cell H0.out (j := 3) rfl; have x3 := box_frz H0.out 3
    have y4 := box_cell H0.out (j := 4) rfl; have x4 := box_frz H0.out 4
    go_wp2_with fail
    obtain ⟨w9, hw9⟩ : ∃ x, (((((W0.setCell ⟨w.heap.size, 0, none⟩ (.bool false)).setCell ⟨w.heap.size, 1, none⟩ (.slice none 0 0)).setCell ⟨w.heap.size, 2, none⟩ (.slice none 0 0)).setCell ⟨w.heap.size, 3, none⟩ (.slice none 0 0)).setCell ⟨w.heap.size, 4, none⟩ (.string ⟨#[]⟩)) = x := ⟨_, rfl⟩
    rw [hw9]
    have hon : OnlyB [w.heap.size] W0 w9 := by rw [← hw9]; exact set5_only W0 (w.heap.size) _ _ _ _ _
    have hb9 := set5_box H0.out (.bool false) (.slice none 0 0) (.slice none 0 0) (.slice none 0 0) (.string ⟨#[]⟩)
    rw [show set5 W0 (w.heap.size) (.bool false) (.slice none 0 0) (.slice none 0 0) (.slice none 0 0) (.string ⟨#[]⟩) = w9 from hw9] at hb9
    have r0 := box_cell hb9 (j := 0) rfl
    have r1 := box_cell hb9 (j := 1) rfl
    have r2 := box_cell hb9 (j := 2) rfl
    have r3 := box_cell hb9 (j := 3) rfl
    have r4 := box_cell hb9 (j := 4) rfl
    refine bodyPost_ret (v := .tuple #[.agg #[.bool false, .slice none 0 0, .slice none 0 0, .slice none 0 0, .string ⟨#[]⟩], .bool true]) (by simp [results, Tryd.results53, go_sem, r0, r1, r2, r3, r4]) rfl ?_
    have hbl := HB0.out
    try unfold PrsNew
    try rw [HRR.out]
    refine ⟨none, 0, 0, none, 0, 0, none, 0, 0, rfl, own3O_zero _ _, ?_⟩
    exact hbl.trans (hon.below (fun i hi => by rw [List.mem_singleton] at hi; omega) hbl.size)
  · have e1 : (s.toList == []) = false := by rw [empP_size, decide_eq_false h0]
    have HPP := Lib.hid (show prsP s = if fmtP (rdI s) = s then (rdI s, true) else (polZ, false) by unfold prsP; rw [if_neg h0]); clear h0
    have HSM := Lib.hid (rdI_sm hz)
    have HRD := Lib.hid (readPolicy_any s hz W0 (hm.on HB0.out)); clear hm hz
    obtain ⟨⟨set, scr, sty, img, non⟩, hq⟩ : ∃ q, rdI s = q := ⟨_, rfl⟩
    rw [hq] at HPP HSM HRD; clear hq
    go_enter Tryd.func53, Tryd.ntmps53
    go_upto_region 3 with (fail)
    rw [HW0.out]
    go_wp2_with fail
    refine HRD.out.mono ?_
    rintro e w1 ⟨a1, n1, c1, a2, n2, c2, a3, n3, c3, rfl, how, hb⟩
    go_upto_region 4 with (fail)
    obtain ⟨W2, hW2⟩ : ∃ x, w1.alloc (.cells #[.bool set, .slice a1 n1 c1, .slice a2 n2 c2, .slice a3 n3 c3, .string non] 75) = x := ⟨_, rfl⟩
    rw [hW2]
    have hb2 : Below w1.heap.size w1 W2 := by rw [← hW2]; exact bl_aw (Below.refl _ _) _
    have hbx : W2.heap[w1.heap.size]? = some (.cells #[.bool set, .slice a1 n1 c1, .slice a2 n2 c2, .slice a3 n3 c3, .string non] 75 (0, 0)) := by rw [← hW2]; exact heap_alloc_new w1 _
    have HO2 := Lib.hid (how.later hb2); have HB2 := Lib.hid (bl_tr hb hb2); have HBX := Lib.hid hbx; clear how hb hb2 hW2
    have q0 := box_cell hbx (j := 0) rfl
    have q1 := box_cell hbx (j := 1) rfl
    have q2 := box_cell hbx (j := 2) rfl
    have q3 := box_cell hbx (j := 3) rfl
    have q4 := box_cell hbx (j := 4) rfl
    have HFM := Lib.hid (fmtPol_impl set scr sty img non a1 n1 c1 a2 n2 c2 a3 n3 c3 HSM.out W2 (HO2.out.reads (p := ⟨set, scr, sty, img, non⟩))); clear hbx
    obtain ⟨T, hT⟩ : ∃ x, fmtP ⟨set, scr, sty, img, non⟩ = x := ⟨_, rfl⟩
    rw [hT] at HPP HFM; clear hT
    have hsz1 : w.heap.size < W0.heap.size := heap_lt H0.out
    go_wp2_with fail
    refine HFM.out.mono ?_
    rintro e w3 ⟨rfl, hb3⟩
    have HO3 := Lib.hid (HO2.out.later hb3); have HB3 := Lib.hid (bl_tr HB2.out hb3); have HBX3 := Lib.hid (below_heap hb3 (heap_lt HBX.out) HBX.out); clear hb3
    have HRX := Lib.hid (below_heap HB3.out (heap_lt H0.out) H0.out)
    clear q0 q1 q2 q3 q4
    have q0 := box_cell HBX3.out (j := 0) rfl
    have q1 := box_cell HBX3.out (j := 1) rfl
    have q2 := box_cell HBX3.out (j := 2) rfl
    have q3 := box_cell HBX3.out (j := 3) rfl
    have q4 := box_cell HBX3.out (j := 4) rfl
    by_cases hts : T = s
    · have e2 : (T.toList == s.toList) = true := beqL_yes hts; have e3 : (T.toList != s.toList) = false := by rw [bne, e2]; rfl
      have HRR := Lib.hid (show prsP s = (⟨set, scr, sty, img, non⟩, true) by rw [HPP.out, if_pos hts]); clear hts HPP
      have y0 := box_cell HRX.out (j := 0) rfl; have x0 := box_frz HRX.out 0
      have y1 := box_cell HRX.out (j := 1) rfl; have x1 := box_frz HRX.out 1
      have y2 := box_cell HRX.out (j := 2) rfl; have x2 := box_frz HRX.out 2
      have y3 := box_cell HRX.out (j := 3) rfl; have x3 := box_frz HRX.out 3
      have y4 := box_cell HRX.out (j := 4) rfl; have x4 := box_frz HRX.out 4
      go_wp2_with fail
      obtain ⟨w9, hw9⟩ : ∃ x, (((((w3.setCell ⟨w.heap.size, 0, none⟩ (.bool set)).setCell ⟨w.heap.size, 1, none⟩ (.slice a1 n1 c1)).setCell ⟨w.heap.size, 2, none⟩ (.slice a2 n2 c2)).setCell ⟨w.heap.size, 3, none⟩ (.slice a3 n3 c3)).setCell ⟨w.heap.size, 4, none⟩ (.string non)) = x := ⟨_, rfl⟩
      rw [hw9]
      have hon : OnlyB [w.heap.size] w3 w9 := by rw [← hw9]; exact set5_only w3 (w.heap.size) _ _ _ _ _
      have hb9 := set5_box HRX.out (.bool set) (.slice a1 n1 c1) (.slice a2 n2 c2) (.slice a3 n3 c3) (.string non)
      rw [show set5 w3 (w.heap.size) (.bool set) (.slice a1 n1 c1) (.slice a2 n2 c2) (.slice a3 n3 c3) (.string non) = w9 from hw9] at hb9
      have r0 := box_cell hb9 (j := 0) rfl
      have r1 := box_cell hb9 (j := 1) rfl
      have r2 := box_cell hb9 (j := 2) rfl
      have r3 := box_cell hb9 (j := 3) rfl
      have r4 := box_cell hb9 (j := 4) rfl
      refine bodyPost_ret (v := .tuple #[.agg #[.bool set, .slice a1 n1 c1, .slice a2 n2 c2, .slice a3 n3 c3, .string non], .bool true]) (by simp [results, Tryd.results53, go_sem, r0, r1, r2, r3, r4]) rfl ?_
      have hbl := (HB0.out.trans (HB3.out.mono HB0.out.size))
      try unfold PrsNew
      try rw [HRR.out]
      refine ⟨a1, n1, c1, a2, n2, c2, a3, n3, c3, rfl, (HO3.out.only hon (fun b hb => by rw [List.mem_singleton] at hb; omega)).low HB0.out.size, ?_⟩
      exact hbl.trans (hon.below (fun i hi => by rw [List.mem_singleton] at hi; omega) hbl.size)
    · have e2 : (T.toList == s.toList) = false := beqL_no hts; have e3 : (T.toList != s.toList) = true := by rw [bne, e2]; rfl
      have HRR := Lib.hid (show prsP s = (polZ, false) by rw [HPP.out, if_neg hts]); clear hts HPP
      have y0 := box_cell HRX.out (j := 0) rfl; have x0 := box_frz HRX.out 0
      have y1 := box_cell HRX.out (j := 1) rfl; have x1 := box_frz HRX.out 1
      have y2 := box_cell HRX.out (j := 2) rfl; have x2 := box_frz HRX.out 2
      have y3 := box_cell HRX.out (j := 3) rfl; have x3 := box_frz HRX.out 3
      have y4 := box_cell HRX.out (j := 4) rfl; have x4 := box_frz HRX.out 4
      go_wp2_with fail
      obtain ⟨w9, hw9⟩ : ∃ x, (((((w3.setCell ⟨w.heap.size, 0, none⟩ (.bool false)).setCell ⟨w.heap.size, 1, none⟩ (.slice none 0 0)).setCell ⟨w.heap.size, 2, none⟩ (.slice none 0 0)).setCell ⟨w.heap.size, 3, none⟩ (.slice none 0 0)).setCell ⟨w.heap.size, 4, none⟩ (.string ⟨#[]⟩)) = x := ⟨_, rfl⟩
      rw [hw9]
      have hon : OnlyB [w.heap.size] w3 w9 := by rw [← hw9]; exact set5_only w3 (w.heap.size) _ _ _ _ _
      have hb9 := set5_box HRX.out (.bool false) (.slice none 0 0) (.slice none 0 0) (.slice none 0 0) (.string ⟨#[]⟩)
      rw [show set5 w3 (w.heap.size) (.bool false) (.slice none 0 0) (.slice none 0 0) (.slice none 0 0) (.string ⟨#[]⟩) = w9 from hw9] at hb9
      have r0 := box_cell hb9 (j := 0) rfl
      have r1 := box_cell hb9 (j := 1) rfl
      have r2 := box_cell hb9 (j := 2) rfl
      have r3 := box_cell hb9 (j := 3) rfl
      have r4 := box_cell hb9 (j := 4) rfl
      refine bodyPost_ret (v := .tuple #[.agg #[.bool false, .slice none 0 0, .slice none 0 0, .slice none 0 0, .string ⟨#[]⟩], .bool false]) (by simp [results, Tryd.results53, go_sem, r0, r1, r2, r3, r4]) rfl ?_
      have hbl := (HB0.out.trans (HB3.out.mono HB0.out.size))
      try unfold PrsNew
      try rw [HRR.out]
      refine ⟨none, 0, 0, none, 0, 0, none, 0, 0, rfl, own3O_zero _ _, ?_⟩
      exact hbl.trans (hon.below (fun i hi => by rw [List.mem_singleton] at hi; omega) hbl.size)

end Go.Proofs.YtpkicliimhflgaaDoor
namespace Go.Proofs.YtpkicliimhflgaaDoor
open Go.ChangeShapes Go.WideShapes Go.ChangeAt Go.RowKit

/-- The narrowed policy in its new box. -/
theorem fin6 {W Wc W1 W2 W3 : World} {p l1 h1 l2 h2 l3 h3 : Nat} {T : TypeId} {z0 z1 z2 z3 z4 u0 u4 v1 v2 v3 : Value} {xs ys zs : List ByteArray} (hp : Wc.heap[p]? = some (.cells #[z0, z1, z2, z3, z4] T (0, 0))) (hpW : W.heap.size ≤ p) (hb : Below W.heap.size W Wc)
    (o1 : OwnK encS 1 9 l1 h1 W1 v1 xs) (k1 : Below W1.heap.size W1 Wc) (o2 : OwnK encS 1 9 l2 h2 W2 v2 ys) (k2 : Below W2.heap.size W2 Wc) (o3 : OwnK encS 1 9 l3 h3 W3 v3 zs) (k3 : Below W3.heap.size W3 Wc)
    (p1 : W.heap.size ≤ l1) (p2 : W.heap.size ≤ l2) (p3 : W.heap.size ≤ l3) (e1 : p < l1 ∨ h1 ≤ p) (e2 : p < l2 ∨ h2 ≤ p) (e3 : p < l3 ∨ h3 ≤ p) (d12 : h1 ≤ l2 ∨ h2 ≤ l1) (d13 : h1 ≤ l3 ∨ h3 ≤ l1) (d23 : h2 ≤ l3 ∨ h3 ≤ l2) :
    W.heap.size ≤ p ∧ (set5 Wc p u0 v1 v2 v3 u4).heap[p]? = some (.cells #[u0, v1, v2, v3, u4] T (0, 0)) ∧ (∀ g, g ∈ blocksL [rwSs v1 xs, rwSs v2 ys, rwSs v3 zs] → g ≠ p) ∧ Own3 W.heap.size (set5 Wc p u0 v1 v2 v3 u4) v1 v2 v3 xs ys zs ∧ Below W.heap.size W (set5 Wc p u0 v1 v2 v3 u4) := by
  have ho := set5_only Wc p u0 v1 v2 v3 u4
  have n : ∀ {lo hi : Nat} {V : World} {v : Value} {us : List ByteArray}, OwnK encS 1 9 lo hi V v us → p < lo ∨ hi ≤ p → ∀ g, v.ownBlock = some g → g ≠ p := fun o he g hg e => by
    have h1 := (o.lt g hg).1; have h2 := o.2 g hg; omega
  have f : ∀ {lo hi : Nat} {V : World} {v : Value} {us : List ByteArray}, OwnK encS 1 9 lo hi V v us → Below V.heap.size V Wc → p < lo ∨ hi ≤ p → OwnK encS 1 9 lo hi (set5 Wc p u0 v1 v2 v3 u4) v us := fun o k he => ownK_only (o.later k) ho fun b hv hm => by
    rw [List.mem_singleton] at hm
    exact n o he b hv hm
  refine ⟨hpW, set5_box hp _ _ _ _ _, fun g hg => ?_, own3_of (f o1 k1 e1) (f o2 k2 e2) (f o3 k3 e3) p1 p2 p3 d12 d13 d23, hb.trans (ho.below (fun i hi => by rw [List.mem_singleton] at hi; omega) hb.size)⟩
  simp only [blocksL, List.append_nil, rwSs_blocks, List.mem_append] at hg
  rcases hg with hg | hg | hg
  · exact n o1 e1 g (by simpa using hg)
  · exact n o2 e2 g (by simpa using hg)
  · exact n o3 e3 g (by simpa using hg)
/-- The same where the box is laid last, with what it holds. -/
theorem fin7 {W Wc W1 W2 W3 : World} {l1 h1 l2 h2 l3 h3 : Nat} {T : TypeId} {u0 u4 v1 v2 v3 : Value} {xs ys zs : List ByteArray} (hb : Below W.heap.size W Wc)
    (o1 : OwnK encS 1 9 l1 h1 W1 v1 xs) (k1 : Below W1.heap.size W1 Wc) (o2 : OwnK encS 1 9 l2 h2 W2 v2 ys) (k2 : Below W2.heap.size W2 Wc) (o3 : OwnK encS 1 9 l3 h3 W3 v3 zs) (k3 : Below W3.heap.size W3 Wc)
    (p1 : W.heap.size ≤ l1) (p2 : W.heap.size ≤ l2) (p3 : W.heap.size ≤ l3) (d12 : h1 ≤ l2 ∨ h2 ≤ l1) (d13 : h1 ≤ l3 ∨ h3 ≤ l1) (d23 : h2 ≤ l3 ∨ h3 ≤ l2) :
    W.heap.size ≤ Wc.heap.size ∧ (Wc.alloc (.cells #[u0, v1, v2, v3, u4] T (0, 0))).heap[Wc.heap.size]? = some (.cells #[u0, v1, v2, v3, u4] T (0, 0)) ∧ (∀ g, g ∈ blocksL [rwSs v1 xs, rwSs v2 ys, rwSs v3 zs] → g ≠ Wc.heap.size) ∧ Own3 W.heap.size (Wc.alloc (.cells #[u0, v1, v2, v3, u4] T (0, 0))) v1 v2 v3 xs ys zs ∧ Below W.heap.size W (Wc.alloc (.cells #[u0, v1, v2, v3, u4] T (0, 0))) := by
  have hbl := (Below.refl Wc.heap.size Wc).alloc (Nat.le_refl _) (.cells #[u0, v1, v2, v3, u4] T (0, 0))
  have n : ∀ {lo hi : Nat} {V : World} {v : Value} {us : List ByteArray}, OwnK encS 1 9 lo hi V v us → Below V.heap.size V Wc → ∀ g, v.ownBlock = some g → g ≠ Wc.heap.size := fun o k g hg e => by
    have h1 := (o.lt g hg).2; have h2 := k.size; omega
  refine ⟨hb.size, hq_nw rfl, fun g hg => ?_, own3_of (o1.later (bl_tr k1 hbl)) (o2.later (bl_tr k2 hbl)) (o3.later (bl_tr k3 hbl)) p1 p2 p3 d12 d13 d23, bl_tr hb hbl⟩
  simp only [blocksL, List.append_nil, rwSs_blocks, List.mem_append] at hg
  rcases hg with hg | hg | hg
  · exact n o1 k1 g (by simpa using hg)
  · exact n o2 k2 g (by simpa using hg)
  · exact n o3 k3 g (by simpa using hg)
theorem lay9 {Q : Prop} {w : World} {c : Nat} (h : w.heap[c]? = some (.cells #[.bool false, .slice none 0 0, .slice none 0 0, .slice none 0 0, .string ⟨#[]⟩] 75 (0, 0)))
    (k : w.cell? ⟨c, 0, none⟩ = some (.bool false) → w.frozen? ⟨c, 0, none⟩ = false → w.cell? ⟨c, 1, none⟩ = some (.slice none 0 0) → w.frozen? ⟨c, 1, none⟩ = false → w.cell? ⟨c, 2, none⟩ = some (.slice none 0 0) → w.frozen? ⟨c, 2, none⟩ = false → w.cell? ⟨c, 3, none⟩ = some (.slice none 0 0) → w.frozen? ⟨c, 3, none⟩ = false → w.cell? ⟨c, 4, none⟩ = some (.string ⟨#[]⟩) → w.frozen? ⟨c, 4, none⟩ = false → Q) : Q :=
  k (box_cell h rfl) (box_frz h 0) (box_cell h rfl) (box_frz h 1) (box_cell h rfl) (box_frz h 2) (box_cell h rfl) (box_frz h 3) (box_cell h rfl) (box_frz h 4)

end Go.Proofs.YtpkicliimhflgaaDoor
