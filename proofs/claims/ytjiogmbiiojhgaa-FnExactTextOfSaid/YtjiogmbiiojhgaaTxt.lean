/- Helper contracts: TextOf of the program and of the model. Asked: the builder lies in memory as named, its texts are shorter than 2^40 bytes together. -/
import Derived.Test.YtjiogmbiiojhgaaCnt
import Derived.Test.YtjiogmbiiojhgaaShelfJ
import Derived.Test.YtjiogmbiiojhgaaTagP
import Derived.Lib.Join
namespace Go.Proofs.Ytjiogmbiiojhgaa
open Go.ChangeShapes Go.WideShapes Go.ChangeAt Go.RowKit

theorem joinE_append : ∀ (xs ys : List ByteArray), joinE (xs ++ ys) = joinE xs ++ joinE ys
  | [], ys => by rw [List.nil_append, joinE]; exact bytesEq (by rw [append_list]; rfl)
  | x :: xs, ys => by
    rw [List.cons_append, joinE, joinE, joinE_append xs ys]
    exact bytesEq (by simp only [append_list, List.append_assoc])
theorem joinE_one (x : ByteArray) : joinE [x] = x := by
  rw [joinE, joinE]; exact bytesEq (by rw [append_list]; simp)
theorem joinE_size : ∀ (xs : List ByteArray), (joinE xs).size = (xs.map ByteArray.size).sum
  | [] => rfl
  | x :: xs => by rw [joinE, ByteArray.size_append, joinE_size xs, List.map_cons, List.sum_cons]
theorem join_empty : ∀ (xs : List ByteArray), Lib.join (xs.map (·.data.toList)) [] = (joinE xs).data.toList
  | [] => rfl
  | x :: xs => by
    rw [List.map_cons, Lib.join_cons, joinE, append_list, ← join_empty xs]
    congr 1
    cases xs with
    | nil => rfl
    | cons y ys =>
      rw [List.map_cons, Lib.join_cons]
      unfold Lib.joinTail
      simp
theorem texts_more {ns : List Nd} {k : Int} {m : Nat} {x : Nd} (h : ns[m]? = some x) : textsOf (ns.take (m + 1)) k = textsOf (ns.take m) k ++ (if x.parent = k ∧ x.name.size = 0 then [x.text] else []) := by
  induction ns generalizing m with
  | nil => simp at h
  | cons y ns ih =>
    cases m with
    | zero =>
      have : y = x := by simpa using h
      subst this
      rw [List.take_succ_cons, List.take_zero, List.take_zero, textsOf, textsOf, List.nil_append]; rfl
    | succ m =>
      rw [List.take_succ_cons, List.take_succ_cons, textsOf, textsOf, ih (by simpa using h)]
      split <;> simp
theorem texts_len : ∀ (ns : List Nd) (k : Int), (textsOf ns k).length ≤ ns.length
  | [], _ => Nat.le_refl _
  | x :: ns, k => by
    have := texts_len ns k
    rw [textsOf, List.length_cons]; split <;> simp <;> omega
def sumT : List Nd → Nat
  | [] => 0
  | x :: ns => x.text.size + sumT ns
theorem texts_sum : ∀ (ns : List Nd) (k : Int), (joinE (textsOf ns k)).size ≤ sumT ns
  | [], _ => Nat.le_refl _
  | x :: ns, k => by
    have := texts_sum ns k
    rw [textsOf, sumT]; split
    · rw [joinE, ByteArray.size_append]; omega
    · omega
theorem sumT_take : ∀ (ns : List Nd) (m : Nat), sumT (ns.take m) ≤ sumT ns
  | [], m => by rw [List.take_nil]; exact Nat.le_refl _
  | x :: ns, 0 => Nat.zero_le _
  | x :: ns, m + 1 => by
    have := sumT_take ns m
    rw [List.take_succ_cons, sumT, sumT]; omega
theorem sumT_at : ∀ {ns : List Nd} {m : Nat} {x : Nd}, ns[m]? = some x → sumT (ns.take m) + x.text.size ≤ sumT ns
  | [], m, x, h => by simp at h
  | y :: ns, 0, x, h => by
    have : y = x := by simpa using h
    subst this; rw [List.take_zero, sumT, sumT]; omega
  | y :: ns, m + 1, x, h => by
    have := sumT_at (ns := ns) (m := m) (x := x) (by simpa using h)
    rw [List.take_succ_cons, sumT, sumT]; omega

theorem wpList_appS1 {w : World} {ops : Array Oper} {rest : List Oper} {o : Oper} {a : Act} {Q : Exit → Act → World → Prop} (hgd : o.guard = none) (s x : Operand)
    (ho : o.op = .call { callee := .builtin .append, args := #[s, x], argTypes := #[99, 99] })
    (B : Nat) (w0 : World) (v : Value) (xs : List ByteArray) (hs : a.eval s = v) (hM : MineK encS 1 9 B w0 w v xs) (hv : v ≠ .slice none 0 0) (vx : Value) (top : Nat) (ys : List ByteArray) (hx : a.eval x = vx) (hr : ReadsK encS 1 top w vx ys)
    (hlen : xs.length + ys.length ≤ 137438953472)
    (h : ∀ v' w', MineK encS 1 9 B w0 w' v' (xs ++ ys) → v' ≠ .slice none 0 0 → wpList Try.prog ops Q rest (a.put o.dst v') w') : wpList Try.prog ops Q (o :: rest) a w := by
  obtain ⟨i, hi, hz, hsize, hby⟩ := info_parts infoStr
  exact wpList_appK hgd s x _ ho encS_len encS_one (by decide) _ i _ 16 Try.underlying99 hi hz hsize hby (by rfl) B w0 v xs hs hM vx top ys hx hr (by omega) hlen fun v' w' hM' h2 => h v' w' hM' fun e => hv (h2.1 e).1
theorem OwnK.strAt0 {lo hi : Nat} {w : World} {v : Value} {xs : List ByteArray} (h : OwnK encS 1 9 lo hi w v xs) (h0 : v ≠ .slice none 0 0) :
    ∃ g cap, v = .slice (some ⟨g, 0, none⟩) xs.length cap ∧ g < w.heap.size ∧ xs.length ≤ cap ∧ ∀ (j : Nat) x, xs[j]? = some x → w.cell? ⟨g, 0 + j, none⟩ = some (.string x) := by
  have hr := h.reads encS_len
  rcases h.1.2 with ⟨e, _⟩ | ⟨g, cap, cur, rfl, hg, hh, hc, hm, _⟩
  · exact absurd e h0
  · refine ⟨g, cap, rfl, heap_lt hh, hc, fun j x hj => ?_⟩
    have := hr.news encS_len j (.string x) (by
      have := flat_at encS_len hj (show 0 < 1 by decide)
      simpa [encS] using this)
    rwa [add_off] at this

set_option maxRecDepth 100000 in
set_option maxHeartbeats 2000000 in
theorem text_spec (nv ov : Value) (b : Bd) (z : Int) (w : World) (hb : BdIn w.heap.size w nv ov b) (hS : sumT b.nodes ≤ 1099511627776) :
    Calls Try.prog 28 #[.agg #[nv, ov], .int .i64 z] w fun e w' => e = .returned (.string (textOf b z)) ∧ Grw w w' := by
  obtain ⟨ns, hns, hrn, hro⟩ := hb
  obtain ⟨oa, oc, rfl, _⟩ := reads_form hro
  obtain ⟨on, hon⟩ : ∃ n, b.opn.length = n := ⟨_, rfl⟩
  rw [hon]; clear hro hon
  obtain ⟨a, cap, rfl, hc1, hc2⟩ := hrn.form
  obtain ⟨n, hn⟩ : ∃ n, ns.length = n := ⟨_, rfl⟩
  rw [hn] at hc1 hrn ⊢
  have hnl : b.nodes.length = n := by rw [← hns, List.length_map, hn]
  have hg0 := (Grw.refl w).alloc (.cells #[.slice a n cap, .slice oa on oc] 27)
  have HR := Lib.hid (hrn.below hg0.below (Nat.le_refl _)); have HN := Lib.hid hn; have HNS := Lib.hid hns; have HNL := Lib.hid hnl
  obtain ⟨tx, htx⟩ : ∃ f : Nat → ByteArray, f = fun m => joinE (textsOf (b.nodes.take m) z) := ⟨_, rfl⟩
  have HTX := Lib.hid htx
  have HTS := Lib.hid (fun m => show (tx m).size ≤ sumT (b.nodes.take m) by rw [htx]; exact texts_sum _ _)
  have HSM := Lib.hid hS
  have q0 : (w.alloc (.cells #[.slice a n cap, .slice oa on oc] 27)).cell? ⟨w.heap.size, 0, none⟩ = some (.slice a n cap) := by simp
  have HQ := Lib.hid q0; have HG0 := Lib.hid hg0
  clear hrn hn hns hnl htx q0 hg0 hS
  go_enter Try.func28, Try.ntmps28
  go_wp2
  go_loopw [5, 6] (fun c i wr => ∃ (k : Nat), k ≤ n ∧ i = .int .i64 k ∧ c = .string (tx k) ∧ wr = w.alloc (.cells #[.slice a n cap, .slice oa on oc] 27))
    (fun _ i _ => n - (intOf i).toNat)
  case atStart => exact ⟨0, Nat.zero_le _, rfl, by rw [HTX.out]; rfl, rfl⟩
  case round =>
    obtain ⟨k, hk, rfl, rfl, rfl⟩ := hrel
    have q0 := HQ.out
    by_cases hlt : (k : Int) < (n : Int)
    · obtain ⟨p, hp⟩ := nd_at (ns := ns) (k := k) (by have := HN.out; omega)
      obtain ⟨g, off, rfl, hg, c0, c1, c2, _⟩ := HR.out.at hp
      have hm := texts_more (k := z) (map_fst_at HNS.out hp)
      have hz1 := HTS.out k
      have hz2 := sumT_at (map_fst_at HNS.out hp)
      have hz3 := HSM.out
      obtain ⟨⟨⟨nm, tt, pp, ats⟩, sl⟩, rfl⟩ : ∃ q : Nv, p = q := ⟨p, rfl⟩
      replace c0 : _ = some (Value.string nm) := c0
      replace c1 : _ = some (Value.string tt) := c1
      replace c2 : _ = some (Value.int .i64 pp) := c2
      replace hm : textsOf (b.nodes.take (k + 1)) z = textsOf (b.nodes.take k) z ++ (if pp = z ∧ nm.size = 0 then [tt] else []) := hm
      replace hz2 : sumT (b.nodes.take k) + tt.size ≤ sumT b.nodes := hz2
      have hy1 : (tx k).size ≤ 1099511627776 := by omega
      have hy2 : tt.size ≤ 1099511627776 := by omega
      have hy3 : (tx k).size + tt.size ≤ 1099511627776 := by omega
      clear hz1 hz2 hz3 hp
      by_cases h1 : pp = z
      · have e1 : (pp == z) = true := beq_iff_eq.2 h1
        by_cases h2 : nm.size = 0
        · have e2 : (nm.toList == []) = true := by rw [emp_size, decide_eq_true h2]
          rw [if_pos ⟨h1, h2⟩] at hm
          have HM := Lib.hid (show tx (k + 1) = tx k ++ tt by rw [HTX.out]; show joinE (textsOf (b.nodes.take (k + 1)) z) = _; rw [hm, joinE_append, joinE_one])
          clear hm h1 h2
          go_wp2
          go_roundw
          case rel => exact ⟨k + 1, by omega, by go_num, by first | (rw [HM.out]; done) | (rw [HM.out]; rfl), by first | trivial | rfl⟩
          case measure => simp [intOf]; omega
        · have e2 : (nm.toList == []) = false := by rw [emp_size, decide_eq_false h2]
          rw [if_neg (fun h => h2 h.2), List.append_nil] at hm
          have HM := Lib.hid (show tx (k + 1) = tx k by rw [HTX.out]; show joinE (textsOf (b.nodes.take (k + 1)) z) = _; rw [hm])
          clear hm h1 h2
          go_wp2
          go_roundw
          case rel => exact ⟨k + 1, by omega, by go_num, by first | (rw [HM.out]; done) | (rw [HM.out]; rfl), by first | trivial | rfl⟩
          case measure => simp [intOf]; omega
      · have e1 : (pp == z) = false := beq_eq_false_iff_ne.2 h1
        rw [if_neg (fun h => h1 h.1), List.append_nil] at hm
        have HM := Lib.hid (show tx (k + 1) = tx k by rw [HTX.out]; show joinE (textsOf (b.nodes.take (k + 1)) z) = _; rw [hm])
        clear hm h1
        go_wp2
        go_roundw
        case rel => exact ⟨k + 1, by omega, by go_num, by first | (rw [HM.out]; done) | (rw [HM.out]; rfl), by first | trivial | rfl⟩
        case measure => simp [intOf]; omega
    · have hkn : k = n := by omega
      subst hkn
      have HF := Lib.hid (show tx k = textOf b z by rw [HTX.out]; show joinE (textsOf (b.nodes.take k) z) = _; rw [List.take_of_length_le (by rw [HNL.out]; exact Nat.le_refl _)]; rfl)
      go_wp2
      go_ret
      exact ⟨by rw [← HF.out]; rfl, HG0.out⟩

set_option maxRecDepth 100000 in
set_option maxHeartbeats 4000000 in
theorem text_impl (nv ov : Value) (b : Bd) (z : Int) (w : World) (hb : BdIn w.heap.size w nv ov b) (hS : sumT b.nodes ≤ 1099511627776) (hL : b.nodes.length ≤ 1099511627) :
    Calls Try.prog 25 #[.agg #[nv, ov], .int .i64 z] w fun e w' => e = .returned (.string (textOf b z)) ∧ Below w.heap.size w w' := by
  obtain ⟨ns, hns, hrn, hro⟩ := hb
  obtain ⟨oa, oc, rfl, _⟩ := reads_form hro
  obtain ⟨on, hon⟩ : ∃ n, b.opn.length = n := ⟨_, rfl⟩
  rw [hon]; clear hro hon
  obtain ⟨a, cap, rfl, hc1, hc2⟩ := hrn.form
  obtain ⟨n, hn⟩ : ∃ n, ns.length = n := ⟨_, rfl⟩
  rw [hn] at hc1 hrn ⊢
  have hnl : b.nodes.length = n := by rw [← hns, List.length_map, hn]
  obtain ⟨W, hW⟩ : ∃ W, w.alloc (.cells #[.slice a n cap, .slice oa on oc] 27) = W := ⟨_, rfl⟩
  have hg0 : Grw w W := by rw [← hW]; exact (Grw.refl w).alloc _
  have HWS := Lib.hid (show W.heap.size = w.heap.size + 1 by rw [← hW, size_alloc])
  have HR := Lib.hid (hrn.below hg0.below (Nat.le_refl _)); have HN := Lib.hid hn; have HNS := Lib.hid hns; have HNL := Lib.hid hnl
  obtain ⟨tx, htx⟩ : ∃ f : Nat → List ByteArray, f = fun m => textsOf (b.nodes.take m) z := ⟨_, rfl⟩
  have HTX := Lib.hid htx
  have HTL := Lib.hid (fun m => show (tx m).length ≤ n by rw [htx]; have h1 := texts_len (b.nodes.take m) z; rw [List.length_take] at h1; show (textsOf (b.nodes.take m) z).length ≤ n; omega)
  have HSM := Lib.hid hS
  have q0 : W.cell? ⟨w.heap.size, 0, none⟩ = some (.slice a n cap) := by rw [← hW]; simp
  have HQ := Lib.hid q0; have HG0 := Lib.hid hg0; have HW := Lib.hid hW
  have hnL : n ≤ 1099511627 := by omega
  have HM0 := Lib.hid (show MineK encS 1 9 W.heap.size W (W.alloc (.cells #[] 9)) (.slice (some ⟨W.heap.size, 0, none⟩) 0 0) [] from MineK.empty _ _ _ W W _ (Below.refl _ _) (Nat.le_refl _))
  clear hrn hn hns hnl htx q0 hg0 hS hL hW
  go_enter Try.func25, Try.ntmps25
  go_wp2_with fail
  rw [HW.out]
  go_loopw [5, 12] (fun c i wr => ∃ (k : Nat), k ≤ n ∧ i = .int .i64 k ∧ MineK encS 1 9 W.heap.size W wr c (tx k) ∧ c ≠ .slice none 0 0)
    (fun _ i _ => n - (intOf i).toNat)
  case atStart => exact ⟨0, Nat.zero_le _, rfl, by rw [HTX.out]; show MineK encS 1 9 W.heap.size W _ (.slice (some ⟨w.heap.size + 1, 0, none⟩) 0 0) []; rw [← HWS.out]; exact HM0.out, fun h => by cases h⟩
  case round =>
    obtain ⟨k, hk, rfl, hM, hne⟩ := hrel
    have HM := Lib.hid hM; have HNE := Lib.hid hne
    have q0 : wr.cell? ⟨w.heap.size, 0, none⟩ = some (.slice a n cap) := by rw [hM.below.cell (show w.heap.size < _ by rw [HWS.out]; omega)]; exact HQ.out
    clear hM hne HM0
    by_cases hlt : (k : Int) < (n : Int)
    · obtain ⟨p, hp⟩ := nd_at (ns := ns) (k := k) (by have := HN.out; omega)
      obtain ⟨g, off, rfl, hg, c0, c1, c2, _⟩ := HR.out.at hp
      have hgW : g < W.heap.size := by rw [HWS.out]; omega
      replace c0 := (HM.out.below.cell (p := ⟨g, off + k * 4, none⟩) hgW).trans c0
      replace c1 := (HM.out.below.cell (p := ⟨g, off + k * 4 + 1, none⟩) hgW).trans c1
      replace c2 := (HM.out.below.cell (p := ⟨g, off + k * 4 + 2, none⟩) hgW).trans c2
      have hm := texts_more (k := z) (map_fst_at HNS.out hp)
      obtain ⟨⟨⟨nm, tt, pp, ats⟩, sl⟩, rfl⟩ : ∃ q : Nv, p = q := ⟨p, rfl⟩
      replace c0 : _ = some (Value.string nm) := c0
      replace c1 : _ = some (Value.string tt) := c1
      replace c2 : _ = some (Value.int .i64 pp) := c2
      replace hm : textsOf (b.nodes.take (k + 1)) z = textsOf (b.nodes.take k) z ++ (if pp = z ∧ nm.size = 0 then [tt] else []) := hm
      have HNA := Lib.hid (nodeAt_in w.heap.size g off n cap k _ q0 (by omega) (by omega))
      have HKL := Lib.hid (HTL.out k)
      clear hp
      by_cases h1 : pp = z
      · have e1 : (pp == z) = true := beq_iff_eq.2 h1
        by_cases h2 : nm.size = 0
        · have e2 : (nm.toList == []) = true := by rw [emp_size, decide_eq_true h2]
          rw [if_pos ⟨h1, h2⟩] at hm
          have HX := Lib.hid (show tx (k + 1) = tx k ++ [tt] by rw [HTX.out]; exact hm)
          clear hm h1 h2
          go_wp2_with (first | (go_at_call 62; refine HNA.out.mono ?_; rintro e w' ⟨rfl, rfl⟩) | (at_builtin; refine wpList_appS1 rfl _ _ rfl W.heap.size W _ (tx k) rfl (HM.out.alloc _) HNE.out _ _ [tt] rfl (readsS_one _ _) ?c3 ?_))
          case c3 => have := HKL.out; simp; omega
          intro v2 w2 hm2 hne2
          have HM2 := Lib.hid (show MineK encS 1 9 W.heap.size W w2 v2 (tx (k + 1)) by rw [HX.out]; exact hm2)
          have HNE2 := Lib.hid hne2
          clear hm2 hne2
          go_wp2
          go_roundw
          case rel => exact ⟨k + 1, by omega, by go_num, HM2.out, HNE2.out⟩
          case measure => simp [intOf] <;> omega
        · have e2 : (nm.toList == []) = false := by rw [emp_size, decide_eq_false h2]
          rw [if_neg (fun h => h2 h.2), List.append_nil] at hm
          have HX := Lib.hid (show tx (k + 1) = tx k by rw [HTX.out]; exact hm)
          clear hm h1 h2
          go_wp2_with (go_at_call 62; refine HNA.out.mono ?_; rintro e w' ⟨rfl, rfl⟩)
          go_roundw
          case rel => exact ⟨k + 1, by omega, by go_num, by rw [HX.out]; exact HM.out, HNE.out⟩
          case measure => simp [intOf] <;> omega
      · have e1 : (pp == z) = false := beq_eq_false_iff_ne.2 h1
        rw [if_neg (fun h => h1 h.1), List.append_nil] at hm
        have HX := Lib.hid (show tx (k + 1) = tx k by rw [HTX.out]; exact hm)
        clear hm h1
        go_wp2_with (go_at_call 62; refine HNA.out.mono ?_; rintro e w' ⟨rfl, rfl⟩)
        go_roundw
        case rel => exact ⟨k + 1, by omega, by go_num, by rw [HX.out]; exact HM.out, HNE.out⟩
        case measure => simp [intOf] <;> omega
    · have hkn : k = n := by omega
      subst hkn
      obtain ⟨bk, c, rfl, hbw, hcp, hcl⟩ := HM.out.own.strAt0 HNE.out
      have hF : tx k = textsOf b.nodes z := by rw [HTX.out]; show textsOf (b.nodes.take k) z = _; rw [List.take_of_length_le (by rw [HNL.out]; exact Nat.le_refl _)]
      have hjl : (Lib.join ((tx k).map (·.data.toList)) (⟨#[]⟩ : ByteArray).data.toList).length ≤ 1099511627776 := by
        rw [show (⟨#[]⟩ : ByteArray).data.toList = [] from rfl, join_empty, size_list, hF]
        exact Nat.le_trans (texts_sum b.nodes z) HSM.out
      have hJ := Try.strings_Join bk 0 c (tx k) ⟨#[]⟩ wr hcl hbw (by have := HTL.out k; omega) hcp (Nat.le_trans hjl (by decide))
      rw [show (⟨#[]⟩ : ByteArray).data.toList = [] from rfl, join_empty] at hJ
      have HE := Lib.hid (show (⟨(joinE (tx k)).data.toList.toArray⟩ : ByteArray) = textOf b z by rw [hF]; exact bytesEq rfl)
      rw [HE.out] at hJ
      have HJ := Lib.hid hJ
      obtain ⟨LW, hLW⟩ : ∃ l, (tx k).length = l := ⟨_, rfl⟩
      rw [hLW] at HJ ⊢
      have hsz : (textOf b z).size ≤ 1099511627776 := Nat.le_trans (texts_sum b.nodes z) HSM.out
      obtain ⟨R, hR⟩ : ∃ R, textOf b z = R := ⟨_, rfl⟩
      rw [hR] at HJ hsz
      have HRR := Lib.hid hR
      clear hJ hcl hcp hjl hF hLW hR HE
      go_wp2_with fail
      refine HJ.out.mono ?_
      rintro e w2 ⟨rfl, hb2⟩
      have HB2 := Lib.hid (HG0.out.below.trans ((HM.out.below.trans (hb2.mono HM.out.size)).mono HG0.out.below.size))
      clear hb2
      go_wp2_with fail
      go_ret
      exact ⟨by rw [HRR.out]; rfl, HB2.out⟩
end Go.Proofs.Ytjiogmbiiojhgaa
