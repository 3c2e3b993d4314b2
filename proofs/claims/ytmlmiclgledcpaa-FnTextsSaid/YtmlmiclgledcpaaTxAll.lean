/- TextOf, CountName of the program, and the walk of the law FnTexts: four texts in one. -/
import Derived.Test.YtmlmiclgledcpaaCnt
import Derived.Test.YtmlmiclgledcpaaShelfJ
import Derived.Test.YtmlmiclgledcpaaTagP
import Derived.Lib.Join
import Derived.Test.YtmlmiclgledcpaaDrawF
import Derived.Test.YtmlmiclgledcpaaLawT
import Derived.Test.YtmlmiclgledcpaaRowOf
import Derived.Test.YtmlmiclgledcpaaDrawAny
import Derived.Test.YtmlmiclgledcpaaBdAll
import Derived.Test.YtmlmiclgledcpaaTkAll
namespace Go.Proofs.Ytmlmiclgledcpaa
/- Txt -/
open Go.ChangeShapes Go.WideShapes Go.ChangeAt Go.RowKit

theorem joinE_append : ∀ (xs ys : List ByteArray), joinE (xs ++ ys) = joinE xs ++ joinE ys
  | [], ys => by rw [List.nil_append, joinE]; exact bytesEq (by rw [append_list]; rfl)
  | x :: xs, ys => by
    rw [List.cons_append, joinE, joinE, joinE_append xs ys]
    exact bytesEq (by simp only [append_list, List.append_assoc])
theorem joinE_one (x : ByteArray) : joinE [x] = x := by
  rw [joinE, joinE]; exact bytesEq (by rw [append_list]; simp)
theorem joinE_size : ∀ (xs : List ByteArray), (joinE xs).size = (xs.map ByteArray.size).sum
  | [] => rfl
  | x :: xs => by rw [joinE, ByteArray.size_append, joinE_size xs, List.map_cons, List.sum_cons]
theorem join_empty : ∀ (xs : List ByteArray), Lib.join (xs.map (·.data.toList)) [] = (joinE xs).data.toList
  | [] => rfl
  | x :: xs => by
    rw [List.map_cons, Lib.join_cons, joinE, append_list, ← join_empty xs]
    congr 1
    cases xs with
    | nil => rfl
    | cons y ys =>
      rw [List.map_cons, Lib.join_cons]
      unfold Lib.joinTail
      simp
theorem texts_more {ns : List Nd} {k : Int} {m : Nat} {x : Nd} (h : ns[m]? = some x) : textsOf (ns.take (m + 1)) k = textsOf (ns.take m) k ++ (if x.parent = k ∧ x.name.size = 0 then [x.text] else []) := by
  induction ns generalizing m with
  | nil => simp at h
  | cons y ns ih =>
    cases m with
    | zero =>
      have : y = x := by simpa using h
      subst this
      rw [List.take_succ_cons, List.take_zero, List.take_zero, textsOf, textsOf, List.nil_append]; rfl
    | succ m =>
      rw [List.take_succ_cons, List.take_succ_cons, textsOf, textsOf, ih (by simpa using h)]
      split <;> simp
theorem texts_len : ∀ (ns : List Nd) (k : Int), (textsOf ns k).length ≤ ns.length
  | [], _ => Nat.le_refl _
  | x :: ns, k => by
    have := texts_len ns k
    rw [textsOf, List.length_cons]; split <;> simp <;> omega
def sumT : List Nd → Nat
  | [] => 0
  | x :: ns => x.text.size + sumT ns
theorem texts_sum : ∀ (ns : List Nd) (k : Int), (joinE (textsOf ns k)).size ≤ sumT ns
  | [], _ => Nat.le_refl _
  | x :: ns, k => by
    have := texts_sum ns k
    rw [textsOf, sumT]; split
    · rw [joinE, ByteArray.size_append]; omega
    · omega
theorem sumT_take : ∀ (ns : List Nd) (m : Nat), sumT (ns.take m) ≤ sumT ns
  | [], m => by rw [List.take_nil]; exact Nat.le_refl _
  | x :: ns, 0 => Nat.zero_le _
  | x :: ns, m + 1 => by
    have := sumT_take ns m
    rw [List.take_succ_cons, sumT, sumT]; omega
theorem sumT_at : ∀ {ns : List Nd} {m : Nat} {x : Nd}, ns[m]? = some x → sumT (ns.take m) + x.text.size ≤ sumT ns
  | [], m, x, h => by simp at h
  | y :: ns, 0, x, h => by
    have : y = x := by simpa using h
    subst this; rw [List.take_zero, sumT, sumT]; omega
  | y :: ns, m + 1, x, h => by
    have := sumT_at (ns := ns) (m := m) (x := x) (by simpa using h)
    rw [List.take_succ_cons, sumT, sumT]; omega

theorem wpList_appS1 {w : World} {ops : Array Oper} {rest : List Oper} {o : Oper} {a : Act} {Q : Exit → Act → World → Prop} (hgd : o.guard = none) (s x : Operand)
    (ho : o.op = .call { callee := .builtin .append, args := #[s, x], argTypes := #[96, 96] })
    (B : Nat) (w0 : World) (v : Value) (xs : List ByteArray) (hs : a.eval s = v) (hM : MineK encS 1 9 B w0 w v xs) (hv : v ≠ .slice none 0 0) (vx : Value) (top : Nat) (ys : List ByteArray) (hx : a.eval x = vx) (hr : ReadsK encS 1 top w vx ys)
    (hlen : xs.length + ys.length ≤ 137438953472)
    (h : ∀ v' w', MineK encS 1 9 B w0 w' v' (xs ++ ys) → v' ≠ .slice none 0 0 → wpList Try.prog ops Q rest (a.put o.dst v') w') : wpList Try.prog ops Q (o :: rest) a w := by
  obtain ⟨i, hi, hz, hsize, hby⟩ := info_parts infoStr
  exact wpList_appK hgd s x _ ho encS_len encS_one (by decide) _ i _ 16 Try.underlying96 hi hz hsize hby (by rfl) B w0 v xs hs hM vx top ys hx hr (by omega) hlen fun v' w' hM' h2 => h v' w' hM' fun e => hv (h2.1 e).1
theorem OwnK.strAt0 {lo hi : Nat} {w : World} {v : Value} {xs : List ByteArray} (h : OwnK encS 1 9 lo hi w v xs) (h0 : v ≠ .slice none 0 0) :
    ∃ g cap, v = .slice (some ⟨g, 0, none⟩) xs.length cap ∧ g < w.heap.size ∧ xs.length ≤ cap ∧ ∀ (j : Nat) x, xs[j]? = some x → w.cell? ⟨g, 0 + j, none⟩ = some (.string x) := by
  have hr := h.reads encS_len
  rcases h.1.2 with ⟨e, _⟩ | ⟨g, cap, cur, rfl, hg, hh, hc, hm, _⟩
  · exact absurd e h0
  · refine ⟨g, cap, rfl, heap_lt hh, hc, fun j x hj => ?_⟩
    have := hr.news encS_len j (.string x) (by
      have := flat_at encS_len hj (show 0 < 1 by decide)
      simpa [encS] using this)
    rwa [add_off] at this

set_option maxRecDepth 100000 in
set_option maxHeartbeats 2000000 in
theorem text_spec (nv ov : Value) (b : Bd) (z : Int) (w : World) (hb : BdIn w.heap.size w nv ov b) (hS : sumT b.nodes ≤ 1099511627776) :
    Calls Try.prog 24 #[.agg #[nv, ov], .int .i64 z] w fun e w' => e = .returned (.string (textOf b z)) ∧ Grw w w' := by
  obtain ⟨ns, hns, hrn, hro⟩ := hb
  obtain ⟨oa, oc, rfl, _⟩ := reads_form hro
  obtain ⟨on, hon⟩ : ∃ n, b.opn.length = n := ⟨_, rfl⟩
  rw [hon]; clear hro hon
  obtain ⟨a, cap, rfl, hc1, hc2⟩ := hrn.form
  obtain ⟨n, hn⟩ : ∃ n, ns.length = n := ⟨_, rfl⟩
  rw [hn] at hc1 hrn ⊢
  have hnl : b.nodes.length = n := by rw [← hns, List.length_map, hn]
  have hg0 := (Grw.refl w).alloc (.cells #[.slice a n cap, .slice oa on oc] 27)
  have HR := Lib.hid (hrn.below hg0.below (Nat.le_refl _)); have HN := Lib.hid hn; have HNS := Lib.hid hns; have HNL := Lib.hid hnl
  obtain ⟨tx, htx⟩ : ∃ f : Nat → ByteArray, f = fun m => joinE (textsOf (b.nodes.take m) z) := ⟨_, rfl⟩
  have HTX := Lib.hid htx
  have HTS := Lib.hid (fun m => show (tx m).size ≤ sumT (b.nodes.take m) by rw [htx]; exact texts_sum _ _)
  have HSM := Lib.hid hS
  have q0 : (w.alloc (.cells #[.slice a n cap, .slice oa on oc] 27)).cell? ⟨w.heap.size, 0, none⟩ = some (.slice a n cap) := by simp
  have HQ := Lib.hid q0; have HG0 := Lib.hid hg0
  clear hrn hn hns hnl htx q0 hg0 hS
  go_enter Try.func24, Try.ntmps24
  go_wp2
  go_loopw [5, 6] (fun c i wr => ∃ (k : Nat), k ≤ n ∧ i = .int .i64 k ∧ c = .string (tx k) ∧ wr = w.alloc (.cells #[.slice a n cap, .slice oa on oc] 27))
    (fun _ i _ => n - (intOf i).toNat)
  case atStart => exact ⟨0, Nat.zero_le _, rfl, by rw [HTX.out]; rfl, rfl⟩
  case round =>
    obtain ⟨k, hk, rfl, rfl, rfl⟩ := hrel
    have q0 := HQ.out
    by_cases hlt : (k : Int) < (n : Int)
    · obtain ⟨p, hp⟩ := nd_at (ns := ns) (k := k) (by have := HN.out; omega)
      obtain ⟨g, off, rfl, hg, c0, c1, c2, _⟩ := HR.out.at hp
      have hm := texts_more (k := z) (map_fst_at HNS.out hp)
      have hz1 := HTS.out k
      have hz2 := sumT_at (map_fst_at HNS.out hp)
      have hz3 := HSM.out
      obtain ⟨⟨⟨nm, tt, pp, ats⟩, sl⟩, rfl⟩ : ∃ q : Nv, p = q := ⟨p, rfl⟩
      replace c0 : _ = some (Value.string nm) := c0
      replace c1 : _ = some (Value.string tt) := c1
      replace c2 : _ = some (Value.int .i64 pp) := c2
      replace hm : textsOf (b.nodes.take (k + 1)) z = textsOf (b.nodes.take k) z ++ (if pp = z ∧ nm.size = 0 then [tt] else []) := hm
      replace hz2 : sumT (b.nodes.take k) + tt.size ≤ sumT b.nodes := hz2
      have hy1 : (tx k).size ≤ 1099511627776 := by omega
      have hy2 : tt.size ≤ 1099511627776 := by omega
      have hy3 : (tx k).size + tt.size ≤ 1099511627776 := by omega
      clear hz1 hz2 hz3 hp
      by_cases h1 : pp = z
      · have e1 : (pp == z) = true := beq_iff_eq.2 h1
        by_cases h2 : nm.size = 0
        · have e2 : (nm.toList == []) = true := by rw [emp_size, decide_eq_true h2]
          rw [if_pos ⟨h1, h2⟩] at hm
          have HM := Lib.hid (show tx (k + 1) = tx k ++ tt by rw [HTX.out]; show joinE (textsOf (b.nodes.take (k + 1)) z) = _; rw [hm, joinE_append, joinE_one])
          clear hm h1 h2
          go_wp2
          go_roundw
          case rel => exact ⟨k + 1, by omega, by go_num, by first | (rw [HM.out]; done) | (rw [HM.out]; rfl), by first | trivial | rfl⟩
          case measure => simp [intOf]; omega
        · have e2 : (nm.toList == []) = false := by rw [emp_size, decide_eq_false h2]
          rw [if_neg (fun h => h2 h.2), List.append_nil] at hm
          have HM := Lib.hid (show tx (k + 1) = tx k by rw [HTX.out]; show joinE (textsOf (b.nodes.take (k + 1)) z) = _; rw [hm])
          clear hm h1 h2
          go_wp2
          go_roundw
          case rel => exact ⟨k + 1, by omega, by go_num, by first | (rw [HM.out]; done) | (rw [HM.out]; rfl), by first | trivial | rfl⟩
          case measure => simp [intOf]; omega
      · have e1 : (pp == z) = false := beq_eq_false_iff_ne.2 h1
        rw [if_neg (fun h => h1 h.1), List.append_nil] at hm
        have HM := Lib.hid (show tx (k + 1) = tx k by rw [HTX.out]; show joinE (textsOf (b.nodes.take (k + 1)) z) = _; rw [hm])
        clear hm h1
        go_wp2
        go_roundw
        case rel => exact ⟨k + 1, by omega, by go_num, by first | (rw [HM.out]; done) | (rw [HM.out]; rfl), by first | trivial | rfl⟩
        case measure => simp [intOf]; omega
    · have hkn : k = n := by omega
      subst hkn
      have HF := Lib.hid (show tx k = textOf b z by rw [HTX.out]; show joinE (textsOf (b.nodes.take k) z) = _; rw [List.take_of_length_le (by rw [HNL.out]; exact Nat.le_refl _)]; rfl)
      go_wp2
      go_ret
      exact ⟨by rw [← HF.out]; rfl, HG0.out⟩

set_option maxRecDepth 100000 in
set_option maxHeartbeats 4000000 in
theorem text_impl (nv ov : Value) (b : Bd) (z : Int) (w : World) (hb : BdIn w.heap.size w nv ov b) (hS : sumT b.nodes ≤ 1099511627776) (hL : b.nodes.length ≤ 1099511627) :
    Calls Try.prog 21 #[.agg #[nv, ov], .int .i64 z] w fun e w' => e = .returned (.string (textOf b z)) ∧ Below w.heap.size w w' := by
  obtain ⟨ns, hns, hrn, hro⟩ := hb
  obtain ⟨oa, oc, rfl, _⟩ := reads_form hro
  obtain ⟨on, hon⟩ : ∃ n, b.opn.length = n := ⟨_, rfl⟩
  rw [hon]; clear hro hon
  obtain ⟨a, cap, rfl, hc1, hc2⟩ := hrn.form
  obtain ⟨n, hn⟩ : ∃ n, ns.length = n := ⟨_, rfl⟩
  rw [hn] at hc1 hrn ⊢
  have hnl : b.nodes.length = n := by rw [← hns, List.length_map, hn]
  obtain ⟨W, hW⟩ : ∃ W, w.alloc (.cells #[.slice a n cap, .slice oa on oc] 27) = W := ⟨_, rfl⟩
  have hg0 : Grw w W := by rw [← hW]; exact (Grw.refl w).alloc _
  have HWS := Lib.hid (show W.heap.size = w.heap.size + 1 by rw [← hW, size_alloc])
  have HR := Lib.hid (hrn.below hg0.below (Nat.le_refl _)); have HN := Lib.hid hn; have HNS := Lib.hid hns; have HNL := Lib.hid hnl
  obtain ⟨tx, htx⟩ : ∃ f : Nat → List ByteArray, f = fun m => textsOf (b.nodes.take m) z := ⟨_, rfl⟩
  have HTX := Lib.hid htx
  have HTL := Lib.hid (fun m => show (tx m).length ≤ n by rw [htx]; have h1 := texts_len (b.nodes.take m) z; rw [List.length_take] at h1; show (textsOf (b.nodes.take m) z).length ≤ n; omega)
  have HSM := Lib.hid hS
  have q0 : W.cell? ⟨w.heap.size, 0, none⟩ = some (.slice a n cap) := by rw [← hW]; simp
  have HQ := Lib.hid q0; have HG0 := Lib.hid hg0; have HW := Lib.hid hW
  have hnL : n ≤ 1099511627 := by omega
  have HM0 := Lib.hid (show MineK encS 1 9 W.heap.size W (W.alloc (.cells #[] 9)) (.slice (some ⟨W.heap.size, 0, none⟩) 0 0) [] from MineK.empty _ _ _ W W _ (Below.refl _ _) (Nat.le_refl _))
  clear hrn hn hns hnl htx q0 hg0 hS hL hW
  go_enter Try.func21, Try.ntmps21
  go_wp2_with fail
  rw [HW.out]
  go_loopw [5, 12] (fun c i wr => ∃ (k : Nat), k ≤ n ∧ i = .int .i64 k ∧ MineK encS 1 9 W.heap.size W wr c (tx k) ∧ c ≠ .slice none 0 0)
    (fun _ i _ => n - (intOf i).toNat)
  case atStart => exact ⟨0, Nat.zero_le _, rfl, by rw [HTX.out]; show MineK encS 1 9 W.heap.size W _ (.slice (some ⟨w.heap.size + 1, 0, none⟩) 0 0) []; rw [← HWS.out]; exact HM0.out, fun h => by cases h⟩
  case round =>
    obtain ⟨k, hk, rfl, hM, hne⟩ := hrel
    have HM := Lib.hid hM; have HNE := Lib.hid hne
    have q0 : wr.cell? ⟨w.heap.size, 0, none⟩ = some (.slice a n cap) := by rw [hM.below.cell (show w.heap.size < _ by rw [HWS.out]; omega)]; exact HQ.out
    clear hM hne HM0
    by_cases hlt : (k : Int) < (n : Int)
    · obtain ⟨p, hp⟩ := nd_at (ns := ns) (k := k) (by have := HN.out; omega)
      obtain ⟨g, off, rfl, hg, c0, c1, c2, _⟩ := HR.out.at hp
      have hgW : g < W.heap.size := by rw [HWS.out]; omega
      replace c0 := (HM.out.below.cell (p := ⟨g, off + k * 4, none⟩) hgW).trans c0
      replace c1 := (HM.out.below.cell (p := ⟨g, off + k * 4 + 1, none⟩) hgW).trans c1
      replace c2 := (HM.out.below.cell (p := ⟨g, off + k * 4 + 2, none⟩) hgW).trans c2
      have hm := texts_more (k := z) (map_fst_at HNS.out hp)
      obtain ⟨⟨⟨nm, tt, pp, ats⟩, sl⟩, rfl⟩ : ∃ q : Nv, p = q := ⟨p, rfl⟩
      replace c0 : _ = some (Value.string nm) := c0
      replace c1 : _ = some (Value.string tt) := c1
      replace c2 : _ = some (Value.int .i64 pp) := c2
      replace hm : textsOf (b.nodes.take (k + 1)) z = textsOf (b.nodes.take k) z ++ (if pp = z ∧ nm.size = 0 then [tt] else []) := hm
      have HNA := Lib.hid (nodeAt_in w.heap.size g off n cap k _ q0 (by omega) (by omega))
      have HKL := Lib.hid (HTL.out k)
      clear hp
      by_cases h1 : pp = z
      · have e1 : (pp == z) = true := beq_iff_eq.2 h1
        by_cases h2 : nm.size = 0
        · have e2 : (nm.toList == []) = true := by rw [emp_size, decide_eq_true h2]
          rw [if_pos ⟨h1, h2⟩] at hm
          have HX := Lib.hid (show tx (k + 1) = tx k ++ [tt] by rw [HTX.out]; exact hm)
          clear hm h1 h2
          go_wp2_with (first | (go_at_call 59; refine HNA.out.mono ?_; rintro e w' ⟨rfl, rfl⟩) | (at_builtin; refine wpList_appS1 rfl _ _ rfl W.heap.size W _ (tx k) rfl (HM.out.alloc _) HNE.out _ _ [tt] rfl (readsS_one _ _) ?c3 ?_))
          case c3 => have := HKL.out; simp; omega
          intro v2 w2 hm2 hne2
          have HM2 := Lib.hid (show MineK encS 1 9 W.heap.size W w2 v2 (tx (k + 1)) by rw [HX.out]; exact hm2)
          have HNE2 := Lib.hid hne2
          clear hm2 hne2
          go_wp2
          go_roundw
          case rel => exact ⟨k + 1, by omega, by go_num, HM2.out, HNE2.out⟩
          case measure => simp [intOf] <;> omega
        · have e2 : (nm.toList == []) = false := by rw [emp_size, decide_eq_false h2]
          rw [if_neg (fun h => h2 h.2), List.append_nil] at hm
          have HX := Lib.hid (show tx (k + 1) = tx k by rw [HTX.out]; exact hm)
          clear hm h1 h2
          go_wp2_with (go_at_call 59; refine HNA.out.mono ?_; rintro e w' ⟨rfl, rfl⟩)
          go_roundw
          case rel => exact ⟨k + 1, by omega, by go_num, by rw [HX.out]; exact HM.out, HNE.out⟩
          case measure => simp [intOf] <;> omega
      · have e1 : (pp == z) = false := beq_eq_false_iff_ne.2 h1
        rw [if_neg (fun h => h1 h.1), List.append_nil] at hm
        have HX := Lib.hid (show tx (k + 1) = tx k by rw [HTX.out]; exact hm)
        clear hm h1
        go_wp2_with (go_at_call 59; refine HNA.out.mono ?_; rintro e w' ⟨rfl, rfl⟩)
        go_roundw
        case rel => exact ⟨k + 1, by omega, by go_num, by rw [HX.out]; exact HM.out, HNE.out⟩
        case measure => simp [intOf] <;> omega
    · have hkn : k = n := by omega
      subst hkn
      obtain ⟨bk, c, rfl, hbw, hcp, hcl⟩ := HM.out.own.strAt0 HNE.out
      have hF : tx k = textsOf b.nodes z := by rw [HTX.out]; show textsOf (b.nodes.take k) z = _; rw [List.take_of_length_le (by rw [HNL.out]; exact Nat.le_refl _)]
      have hjl : (Lib.join ((tx k).map (·.data.toList)) (⟨#[]⟩ : ByteArray).data.toList).length ≤ 1099511627776 := by
        rw [show (⟨#[]⟩ : ByteArray).data.toList = [] from rfl, join_empty, size_list, hF]
        exact Nat.le_trans (texts_sum b.nodes z) HSM.out
      have hJ := Try.strings_Join bk 0 c (tx k) ⟨#[]⟩ wr hcl hbw (by have := HTL.out k; omega) hcp (Nat.le_trans hjl (by decide))
      rw [show (⟨#[]⟩ : ByteArray).data.toList = [] from rfl, join_empty] at hJ
      have HE := Lib.hid (show (⟨(joinE (tx k)).data.toList.toArray⟩ : ByteArray) = textOf b z by rw [hF]; exact bytesEq rfl)
      rw [HE.out] at hJ
      have HJ := Lib.hid hJ
      obtain ⟨LW, hLW⟩ : ∃ l, (tx k).length = l := ⟨_, rfl⟩
      rw [hLW] at HJ ⊢
      have hsz : (textOf b z).size ≤ 1099511627776 := Nat.le_trans (texts_sum b.nodes z) HSM.out
      obtain ⟨R, hR⟩ : ∃ R, textOf b z = R := ⟨_, rfl⟩
      rw [hR] at HJ hsz
      have HRR := Lib.hid hR
      clear hJ hcl hcp hjl hF hLW hR HE
      go_wp2_with fail
      refine HJ.out.mono ?_
      rintro e w2 ⟨rfl, hb2⟩
      have HB2 := Lib.hid (HG0.out.below.trans ((HM.out.below.trans (hb2.mono HM.out.size)).mono HG0.out.below.size))
      clear hb2
      go_wp2_with fail
      go_ret
      exact ⟨by rw [HRR.out]; rfl, HB2.out⟩

/- CntI -/
open Go.ChangeShapes Go.WideShapes Go.ChangeAt Go.RowKit

set_option maxRecDepth 100000 in
set_option maxHeartbeats 2000000 in
theorem count_impl2 (nv ov : Value) (b : Bd) (s : ByteArray) (w : World) (hb : BdIn w.heap.size w nv ov b) :
    Calls Try.prog 25 #[.agg #[nv, ov], .string s] w fun e w' => e = .returned (.int .i64 (countName b.nodes s : Int)) ∧ Grw w w' := by
  obtain ⟨ns, hns, hrn, hro⟩ := hb
  obtain ⟨oa, oc, rfl, _⟩ := reads_form hro
  obtain ⟨on, hon⟩ : ∃ n, b.opn.length = n := ⟨_, rfl⟩
  rw [hon]; clear hro hon
  obtain ⟨a, cap, rfl, hc1, hc2⟩ := hrn.form
  obtain ⟨n, hn⟩ : ∃ n, ns.length = n := ⟨_, rfl⟩
  rw [hn] at hc1 hrn ⊢
  have hnl : b.nodes.length = n := by rw [← hns, List.length_map, hn]
  have hg0 := (Grw.refl w).alloc (.cells #[.slice a n cap, .slice oa on oc] 27)
  have HR := Lib.hid (hrn.below hg0.below (Nat.le_refl _)); have HN := Lib.hid hn; have HNS := Lib.hid hns; have HNL := Lib.hid hnl
  obtain ⟨cn, hcn⟩ : ∃ f : Nat → Nat, f = fun m => countName (b.nodes.take m) s := ⟨_, rfl⟩
  have HCN := Lib.hid hcn
  have HCL := Lib.hid (fun m => show cn m ≤ m by rw [hcn]; have h1 := count_le (b.nodes.take m) s; rw [List.length_take] at h1; show countName (b.nodes.take m) s ≤ m; omega)
  have q0 : (w.alloc (.cells #[.slice a n cap, .slice oa on oc] 27)).cell? ⟨w.heap.size, 0, none⟩ = some (.slice a n cap) := by simp
  have HQ := Lib.hid q0; have HG0 := Lib.hid hg0
  clear hrn hn hns hnl hcn q0 hg0
  go_enter Try.func25, Try.ntmps25
  go_wp2
  go_loopw [5, 10] (fun c i wr => ∃ (k : Nat), k ≤ n ∧ i = .int .i64 k ∧ c = .int .i64 (cn k : Int) ∧ wr = w.alloc (.cells #[.slice a n cap, .slice oa on oc] 27))
    (fun _ i _ => n - (intOf i).toNat)
  case atStart => exact ⟨0, Nat.zero_le _, rfl, by rw [HCN.out]; rfl, rfl⟩
  case round =>
    obtain ⟨k, hk, rfl, rfl, rfl⟩ := hrel
    have q0 := HQ.out
    by_cases hlt : (k : Int) < (n : Int)
    · obtain ⟨p, hp⟩ := nd_at (ns := ns) (k := k) (by have := HN.out; omega)
      obtain ⟨g, off, rfl, hg, c0, _⟩ := HR.out.at hp
      have hm := count_more (s := s) (map_fst_at HNS.out hp)
      have HM := Lib.hid (show cn (k + 1) = cn k + _ by rw [HCN.out]; exact hm)
      have hcl := HCL.out k
      clear hm hp
      obtain ⟨⟨nd, sl⟩, rfl⟩ : ∃ q : Nv, p = q := ⟨p, rfl⟩
      obtain ⟨x, hx⟩ : ∃ x, nd.name = x := ⟨_, rfl⟩
      replace c0 : _ = some (Value.string nd.name) := c0
      replace HM := Lib.hid (show cn (k + 1) = cn k + (if (nd.name.toList == s.toList) = true then 1 else 0) from HM.out)
      rw [hx] at c0 HM
      clear hx
      have HNA := Lib.hid (nodeAt_in w.heap.size g off n cap k _ q0 (by omega) (by omega))
      cases he : (x.toList == s.toList) with
      | true =>
        rw [he, if_pos rfl] at HM
        go_wp2_with (go_at_call 59; refine HNA.out.mono ?_; rintro e w' ⟨rfl, rfl⟩)
        go_roundw
        case rel => exact ⟨k + 1, by omega, by go_num, by rw [HM.out]; go_num, by first | trivial | rfl⟩
        case measure => simp [intOf]; omega
      | false =>
        rw [he, if_neg (by decide)] at HM
        go_wp2_with (go_at_call 59; refine HNA.out.mono ?_; rintro e w' ⟨rfl, rfl⟩)
        go_roundw
        case rel => exact ⟨k + 1, by omega, by go_num, by rw [HM.out]; rfl, by first | trivial | rfl⟩
        case measure => simp [intOf]; omega
    · have hkn : k = n := by omega
      subst hkn
      have HF := Lib.hid (show cn k = countName b.nodes s by rw [HCN.out]; show countName (b.nodes.take k) s = _; rw [List.take_of_length_le (by rw [HNL.out]; exact Nat.le_refl _)])
      go_wp2
      go_ret
      exact ⟨by rw [HF.out]; rfl, HG0.out⟩

/- TextsW -/
open Go.ChangeShapes Go.WideShapes Go.ChangeAt Go.RowKit

theorem sumT_few : ∀ ns : List Nd, (∀ x ∈ ns, x.text.size ≤ 6000) → sumT ns ≤ 6000 * ns.length
  | [], _ => Nat.le_refl _
  | x :: ns, h => by
    have h1 := h x List.mem_cons_self
    have h2 := sumT_few ns fun u hu => h u (List.mem_cons_of_mem _ hu)
    rw [sumT, List.length_cons]; omega
theorem texts_void (s : ByteArray) : ((s.toList == [105, 109, 103]) || (s.toList == [108, 105, 110, 107])) = isVoid s := rfl
set_option maxRecDepth 100000 in
set_option maxHeartbeats 8000000 in
theorem walkTextsW (HA : AnyS) (a_c : Option Addr) (len_c cap_c : Nat) (w : World) (r_c : CodeOk w.heap.size w (.slice a_c len_c cap_c) len_c) (hb_c : ¬ (1048576 : Int) < (len_c : Int)) :
    Calls Try.prog 4 #[.slice a_c len_c cap_c] w fun e w' => e = .returned (.bool true) ∧ Below w.heap.size w w' := by
  have HCO := Lib.hid r_c; have HAN := Lib.hid HA; clear r_c HA
  go_enter Try.func4, Try.ntmps4
  go_wp2_with fail
  refine (big_no a_c len_c cap_c _ (by omega)).mono ?_
  rintro e w1 ⟨rfl, rfl⟩
  go_wp2_with fail
  refine (drawTextOf_any HAN.out _ len_c _ HCO.out).mono ?_
  rintro e w2 ⟨na, nn, nc, oa, on, oc, ns, zs, r, rfl, ⟨z, rfl, hz0, hz1⟩, hfit, hm, hb2⟩
  have hnl : nn = ns.length := by obtain ⟨a, c', e⟩ := mineN_form hm.n; cases e; rfl
  have HNL := Lib.hid hnl
  have hnn : nn ≤ 41 := by
    have h := hfit.nodes
    rw [show (Bd.mk (ns.map Prod.fst) zs).nodes = ns.map Prod.fst from rfl, List.length_map] at h
    omega
  have HSM := Lib.hid (show sumT (ns.map Prod.fst) ≤ 300000 by
    have h1 : sumT (ns.map Prod.fst) ≤ 6000 * (ns.map Prod.fst).length := sumT_few _ hfit.text
    rw [List.length_map] at h1; omega)
  have HB2 := Lib.hid (hb2.alloc hb2.size (.cells #[.slice na nn nc, .slice oa on oc] 27))
  have HX2 := Lib.hid (Box2.new w2 (.slice na nn nc) (.slice oa on oc))
  have HM2 := Lib.hid (hm.later ((Below.refl _ w2).alloc (Nat.le_refl _) (.cells #[.slice na nn nc, .slice oa on oc] 27)))
  have HR2 := Lib.hid (HM2.out.reads (b := ⟨ns.map Prod.fst, zs⟩) rfl)
  clear hfit hm hb2 hnl
  obtain ⟨c, hc⟩ : ∃ c, w2.heap.size = c := ⟨_, rfl⟩
  go_wp2_with fail
  obtain ⟨W2, hW2⟩ : ∃ W, w2.alloc (.cells #[.slice na nn nc, .slice oa on oc] 27) = W := ⟨_, rfl⟩
  try simp only [hc]
  rw [hW2, hc] at HX2
  rw [hW2] at HB2 HR2 HM2 ⊢
  clear hc hW2
  refine (text_impl (.slice na nn nc) (.slice oa on oc) ⟨ns.map Prod.fst, zs⟩ z W2 HR2.out (by have := HSM.out; show sumT (ns.map Prod.fst) ≤ _; omega) (by show (ns.map Prod.fst).length ≤ _; rw [List.length_map, ← HNL.out]; omega)).mono ?_
  rintro e w3 ⟨rfl, hb3⟩
  obtain ⟨S, hS⟩ : ∃ S, textOf ⟨ns.map Prod.fst, zs⟩ z = S := ⟨_, rfl⟩
  rw [hS]
  obtain ⟨tx, htx⟩ : ∃ f : Nat → Nat, f = fun m => (joinE (textsOf ((ns.map Prod.fst).take m) z)).size := ⟨_, rfl⟩
  have HTX := Lib.hid htx
  have HTS := Lib.hid (fun m => show tx m ≤ 300000 by
    rw [htx]
    have h1 := texts_sum ((ns.map Prod.fst).take m) z
    have h2 := sumT_take (ns.map Prod.fst) m
    have h3 := HSM.out
    show (joinE (textsOf ((ns.map Prod.fst).take m) z)).size ≤ _
    omega)
  have HSE := Lib.hid (show tx nn = S.size by
    rw [htx, ← hS]
    show (joinE (textsOf ((ns.map Prod.fst).take nn) z)).size = (joinE (textsOf (ns.map Prod.fst) z)).size
    rw [List.take_of_length_le (by rw [List.length_map, ← HNL.out]; exact Nat.le_refl _)])
  have HS := Lib.hid hS
  have HX3 := Lib.hid (HX2.out.later hb3); have HR3 := Lib.hid ((HR2.out.below hb3 (Nat.le_refl _)).mono hb3.size)
  have HRN := Lib.hid ((HM2.out.later hb3).n.reads (Nat.le_refl _))
  have HB3 := Lib.hid (HB2.out.trans (hb3.mono HB2.out.size))
  clear hb3 htx hS
  obtain ⟨⟨c0, c1⟩, -, -⟩ := HX3.out.cells
  go_wp2_with fail
  go_loopw [6, 7] (fun s i wr => ∃ k : Nat, k ≤ nn ∧ i = .int .i64 k ∧ s = .int .i64 (tx k : Int) ∧ wr = w3) (fun _ i _ => nn - (intOf i).toNat)
  case atStart => exact ⟨0, Nat.zero_le _, rfl, by rw [HTX.out]; rfl, rfl⟩
  case round =>
    obtain ⟨k, hk, rfl, rfl, rfl⟩ := hrel
    by_cases hlt : (k : Int) < (nn : Int)
    · obtain ⟨p, hp⟩ := nd_at (ns := ns) (k := k) (by have := HNL.out; omega)
      have hrn := HRN.out
      obtain ⟨g, off, rfl, hg, e0, e1, e2, _⟩ := hrn.at hp
      have hm := texts_more (k := z) (map_fst_at rfl hp)
      have hy1 := HTS.out k
      have hy2 := HTS.out (k + 1)
      obtain ⟨⟨⟨nm, tt, pp, ats⟩, sl⟩, rfl⟩ : ∃ q : Nv, p = q := ⟨p, rfl⟩
      replace e0 : _ = some (Value.string nm) := e0
      replace e1 : _ = some (Value.string tt) := e1
      replace e2 : _ = some (Value.int .i64 pp) := e2
      replace hm : textsOf ((ns.map Prod.fst).take (k + 1)) z = textsOf ((ns.map Prod.fst).take k) z ++ (if pp = z ∧ nm.size = 0 then [tt] else []) := hm
      clear hrn hp
      by_cases h1 : pp = z
      · have q1 : (pp == z) = true := beq_iff_eq.2 h1
        by_cases h2 : nm.size = 0
        · have q2 : (nm.toList == []) = true := by rw [emp_size, decide_eq_true h2]
          rw [if_pos ⟨h1, h2⟩] at hm
          have HM := Lib.hid (show tx (k + 1) = tx k + tt.size by rw [HTX.out]; show (joinE (textsOf ((ns.map Prod.fst).take (k + 1)) z)).size = _; rw [hm, joinE_append, joinE_one, ByteArray.size_append])
          have hy3 := HM.out
          have hy4 : tx k + tt.size ≤ 300000 := by omega
          clear hm h1 h2 hy3 hy2
          go_wp2
          go_roundw
          case rel => exact ⟨k + 1, by omega, by go_num, by rw [HM.out]; go_num, by first | trivial | rfl⟩
          case measure => simp [intOf]; omega
        · have q2 : (nm.toList == []) = false := by rw [emp_size, decide_eq_false h2]
          rw [if_neg (fun h => h2 h.2), List.append_nil] at hm
          have HM := Lib.hid (show tx (k + 1) = tx k by rw [HTX.out]; show (joinE (textsOf ((ns.map Prod.fst).take (k + 1)) z)).size = _; rw [hm])
          clear hm h1 h2 hy2
          go_wp2
          go_roundw
          case rel => exact ⟨k + 1, by omega, by go_num, by first | (rw [HM.out]; done) | (rw [HM.out]; rfl), by first | trivial | rfl⟩
          case measure => simp [intOf]; omega
      · have q1 : (pp == z) = false := beq_eq_false_iff_ne.2 h1
        rw [if_neg (fun h => h1 h.1), List.append_nil] at hm
        have HM := Lib.hid (show tx (k + 1) = tx k by rw [HTX.out]; show (joinE (textsOf ((ns.map Prod.fst).take (k + 1)) z)).size = _; rw [hm])
        clear hm h1 hy2
        cases q2 : (nm.toList == []) with
        | true =>
          go_wp2
          go_roundw
          case rel => exact ⟨k + 1, by omega, by go_num, by first | (rw [HM.out]; done) | (rw [HM.out]; rfl), by first | trivial | rfl⟩
          case measure => simp [intOf]; omega
        | false =>
          go_wp2
          go_roundw
          case rel => exact ⟨k + 1, by omega, by go_num, by first | (rw [HM.out]; done) | (rw [HM.out]; rfl), by first | trivial | rfl⟩
          case measure => simp [intOf]; omega
    · obtain rfl : k = nn := by omega
      rw [HSE.out]
      go_wp2_with fail
      clear c0 c1
      refine (drawCount_any HAN.out _ len_c _ (codeOk_later HCO.out HB3.out)).mono ?_
      rintro e w4 ⟨ma, mn, mc, pa, pn, pc, ms, qs, r4, rfl, ⟨nm, rfl, hg4⟩, hfit, hm, hb4⟩
      clear hg4
      have hml : mn = ms.length := by obtain ⟨a, c', e⟩ := mineN_form hm.n; cases e; rfl
      have HML := Lib.hid hml
      have hmn : mn ≤ 41 := by
        have h := hfit.nodes
        rw [show (Bd.mk (ms.map Prod.fst) qs).nodes = ms.map Prod.fst from rfl, List.length_map] at h
        omega
      have HB4 := Lib.hid ((HB3.out.trans (hb4.mono HB3.out.size)).alloc (Nat.le_trans HB3.out.size hb4.size) (.cells #[.slice ma mn mc, .slice pa pn pc] 27))
      have HX4 := Lib.hid (Box2.new w4 (.slice ma mn mc) (.slice pa pn pc))
      have HY4 := Lib.hid ((HX3.out.later hb4).alloc (.cells #[.slice ma mn mc, .slice pa pn pc] 27))
      have HM4 := Lib.hid (hm.later ((Below.refl _ w4).alloc (Nat.le_refl _) (.cells #[.slice ma mn mc, .slice pa pn pc] 27)))
      have HR4 := Lib.hid (((HR3.out.below hb4 (Nat.le_refl _)).mono hb4.size).below ((Below.refl _ w4).alloc (Nat.le_refl _) (.cells #[.slice ma mn mc, .slice pa pn pc] 27)) (Nat.le_refl _))
      clear hfit hm hb4 hml
      obtain ⟨d, hd⟩ : ∃ d, w4.heap.size = d := ⟨_, rfl⟩
      go_wp2_with fail
      obtain ⟨W4, hW4⟩ : ∃ W, w4.alloc (.cells #[.slice ma mn mc, .slice pa pn pc] 27) = W := ⟨_, rfl⟩
      try simp only [hd]
      have HS4 := Lib.hid (show w4.heap.size ≤ W4.heap.size by rw [← hW4, size_alloc]; exact Nat.le_succ _)
      rw [hW4, hd] at HX4
      rw [hW4] at HB4 HR4 HM4 HY4
      simp only [hW4]
      replace HR4 := Lib.hid (HR4.out.mono HS4.out)
      have HRN4 := Lib.hid (HM4.out.n.reads (Nat.le_refl _))
      clear hd hW4
      obtain ⟨cn, hcn⟩ : ∃ f : Nat → Nat, f = fun m => countName ((ms.map Prod.fst).take m) nm := ⟨_, rfl⟩
      have HCN := Lib.hid hcn
      have HCL := Lib.hid (fun m => show cn m ≤ m by rw [hcn]; have h1 := count_le ((ms.map Prod.fst).take m) nm; rw [List.length_take] at h1; show countName ((ms.map Prod.fst).take m) nm ≤ m; omega)
      have HCE := Lib.hid (show cn mn = countName (ms.map Prod.fst) nm by
        rw [hcn]
        show countName ((ms.map Prod.fst).take mn) nm = _
        rw [List.take_of_length_le (by rw [List.length_map, ← HML.out]; exact Nat.le_refl _)])
      clear hcn
      obtain ⟨⟨c0, c1⟩, -, -⟩ := HX4.out.cells
      obtain ⟨⟨b0, b1⟩, -, -⟩ := HY4.out.cells
      go_loopw [10, 11] (fun s i wr => ∃ k : Nat, k ≤ mn ∧ i = .int .i64 k ∧ s = .int .i64 (cn k : Int) ∧ wr = W4) (fun _ i _ => mn - (intOf i).toNat)
      case atStart => exact ⟨0, Nat.zero_le _, rfl, by rw [HCN.out]; rfl, rfl⟩
      case round =>
        obtain ⟨j, hj, rfl, rfl, rfl⟩ := hrel
        by_cases hlt : (j : Int) < (mn : Int)
        · obtain ⟨p, hp⟩ := nd_at (ns := ms) (k := j) (by have := HML.out; omega)
          obtain ⟨g, off, rfl, hg, e0, _⟩ := HRN4.out.at hp
          have hm := count_more (s := nm) (map_fst_at rfl hp)
          have HM := Lib.hid (show cn (j + 1) = cn j + _ by rw [HCN.out]; exact hm)
          have hcl := HCL.out j
          clear hm hp
          obtain ⟨⟨nd, sl⟩, rfl⟩ : ∃ q : Nv, p = q := ⟨p, rfl⟩
          obtain ⟨x, hx⟩ : ∃ x, nd.name = x := ⟨_, rfl⟩
          replace e0 : _ = some (Value.string nd.name) := e0
          replace HM := Lib.hid (show cn (j + 1) = cn j + (if (nd.name.toList == nm.toList) = true then 1 else 0) from HM.out)
          rw [hx] at e0 HM
          clear hx
          cases he : (x.toList == nm.toList) with
          | true =>
            rw [he, if_pos rfl] at HM
            go_wp2
            go_roundw
            case rel => exact ⟨j + 1, by omega, by go_num, by rw [HM.out]; go_num, by first | trivial | rfl⟩
            case measure => simp [intOf]; omega
          | false =>
            rw [he, if_neg (by decide)] at HM
            go_wp2
            go_roundw
            case rel => exact ⟨j + 1, by omega, by go_num, by rw [HM.out]; rfl, by first | trivial | rfl⟩
            case measure => simp [intOf]; omega
        · obtain rfl : j = mn := by omega
          rw [HCE.out]
          go_wp2_with fail
          clear c0 c1 b0 b1
          refine (drawVoid_any _ len_c _ (codeOk_later HCO.out HB4.out)).mono ?_
          rintro e w5 ⟨v, rfl, hv, hb5⟩
          clear hv
          have HB5 := Lib.hid (HB4.out.trans (hb5.mono HB4.out.size))
          have HR5 := Lib.hid ((HR4.out.below hb5 (Nat.le_refl _)).mono hb5.size)
          have HQ5 := Lib.hid ((HM4.out.later hb5).reads (b := ⟨ms.map Prod.fst, qs⟩) rfl)
          have HX5 := Lib.hid (HX4.out.later hb5); have HY5 := Lib.hid (HY4.out.later hb5)
          clear hb5
          obtain ⟨⟨b0, b1⟩, -, -⟩ := HY5.out.cells
          obtain ⟨C, hC⟩ : ∃ C, countName (ms.map Prod.fst) nm = C := ⟨_, rfl⟩
          have HC := Lib.hid hC
          rw [hC]
          clear hC
          cases hv1 : (v.toList == [105, 109, 103]) with
          | true =>
            have HV := Lib.hid (show isVoid v = true by unfold isVoid; rw [hv1]; rfl)
            go_wp2_with fail
            refine (text_spec (.slice na k nc) (.slice oa on oc) ⟨ns.map Prod.fst, zs⟩ z _ HR5.out (by have := HSM.out; show sumT (ns.map Prod.fst) ≤ _; omega)).mono ?_
            rintro e w6 ⟨rfl, hg6⟩
            rw [HS.out]
            have HB6 := Lib.hid (HB5.out.trans (hg6.below.mono HB5.out.size))
            have HQ6 := Lib.hid ((HQ5.out.below hg6.below (Nat.le_refl _)).mono hg6.below.size)
            have HX6 := Lib.hid (HX5.out.later hg6.below)
            clear hg6 b0 b1
            obtain ⟨⟨b0, b1⟩, -, -⟩ := HX6.out.cells
            go_wp2_with fail
            refine (count_impl2 (.slice ma j mc) (.slice pa pn pc) ⟨ms.map Prod.fst, qs⟩ nm _ HQ6.out).mono ?_
            rintro e w7 ⟨rfl, hg7⟩
            rw [show countName (Bd.mk (ms.map Prod.fst) qs).nodes nm = C from HC.out]
            have HB7 := Lib.hid (HB6.out.trans (hg7.below.mono HB6.out.size))
            clear hg7
            go_wp2_with fail
            refine (void_impl _ _).mono ?_
            rintro e w8 ⟨rfl, rfl⟩
            rw [HV.out]
            go_wp2_with fail
            go_ret
            exact ⟨rfl, HB7.out⟩
          | false =>
            cases hv2 : (v.toList == [108, 105, 110, 107]) with
            | true =>
              have HV := Lib.hid (show isVoid v = true by unfold isVoid; rw [hv1, hv2]; rfl)
              go_wp2_with fail
              refine (text_spec (.slice na k nc) (.slice oa on oc) ⟨ns.map Prod.fst, zs⟩ z _ HR5.out (by have := HSM.out; show sumT (ns.map Prod.fst) ≤ _; omega)).mono ?_
              rintro e w6 ⟨rfl, hg6⟩
              rw [HS.out]
              have HB6 := Lib.hid (HB5.out.trans (hg6.below.mono HB5.out.size))
              have HQ6 := Lib.hid ((HQ5.out.below hg6.below (Nat.le_refl _)).mono hg6.below.size)
              have HX6 := Lib.hid (HX5.out.later hg6.below)
              clear hg6 b0 b1
              obtain ⟨⟨b0, b1⟩, -, -⟩ := HX6.out.cells
              go_wp2_with fail
              refine (count_impl2 (.slice ma j mc) (.slice pa pn pc) ⟨ms.map Prod.fst, qs⟩ nm _ HQ6.out).mono ?_
              rintro e w7 ⟨rfl, hg7⟩
              rw [show countName (Bd.mk (ms.map Prod.fst) qs).nodes nm = C from HC.out]
              have HB7 := Lib.hid (HB6.out.trans (hg7.below.mono HB6.out.size))
              clear hg7
              go_wp2_with fail
              refine (void_impl _ _).mono ?_
              rintro e w8 ⟨rfl, rfl⟩
              rw [HV.out]
              go_wp2_with fail
              go_ret
              exact ⟨rfl, HB7.out⟩
            | false =>
              have HV := Lib.hid (show isVoid v = false by unfold isVoid; rw [hv1, hv2]; rfl)
              go_wp2_with fail
              refine (text_spec (.slice na k nc) (.slice oa on oc) ⟨ns.map Prod.fst, zs⟩ z _ HR5.out (by have := HSM.out; show sumT (ns.map Prod.fst) ≤ _; omega)).mono ?_
              rintro e w6 ⟨rfl, hg6⟩
              rw [HS.out]
              have HB6 := Lib.hid (HB5.out.trans (hg6.below.mono HB5.out.size))
              have HQ6 := Lib.hid ((HQ5.out.below hg6.below (Nat.le_refl _)).mono hg6.below.size)
              have HX6 := Lib.hid (HX5.out.later hg6.below)
              clear hg6 b0 b1
              obtain ⟨⟨b0, b1⟩, -, -⟩ := HX6.out.cells
              go_wp2_with fail
              refine (count_impl2 (.slice ma j mc) (.slice pa pn pc) ⟨ms.map Prod.fst, qs⟩ nm _ HQ6.out).mono ?_
              rintro e w7 ⟨rfl, hg7⟩
              rw [show countName (Bd.mk (ms.map Prod.fst) qs).nodes nm = C from HC.out]
              have HB7 := Lib.hid (HB6.out.trans (hg7.below.mono HB6.out.size))
              clear hg7
              go_wp2_with fail
              refine (void_impl _ _).mono ?_
              rintro e w8 ⟨rfl, rfl⟩
              rw [HV.out]
              go_wp2_with fail
              go_ret
              exact ⟨rfl, HB7.out⟩
theorem texts_all (HA : AnyS) (a : Option Addr) (len cap : Nat) (zs : List Int) (w : World) (h : IsRow .u8 w a len cap zs) :
    Calls Try.prog 4 #[.slice a len cap] w fun e w' => e = .returned (.bool true) ∧ Below w.heap.size w w' := by
  by_cases hb : (1048576 : Int) < (len : Int)
  · go_enter Try.func4, Try.ntmps4
    go_wp2_with fail
    refine (big_yes a len cap _ hb).mono ?_
    rintro e w1 ⟨rfl, rfl⟩
    go_wp2
    go_ret
    exact ⟨rfl, Below.refl _ _⟩
  · exact walkTextsW HA a len cap w (code_of_row h (by omega)) hb

/- TextsE -/
open Go.ChangeShapes Go.WideShapes Go.ChangeAt Go.RowKit

theorem any_drawn : AnyS := fun b sv len w hc => any_any (fun b' sv' len' w' hc' => builder_any (fun s hs W => toks_spec s hs W) b' sv' len' w' hc') b sv len w hc
theorem texts_end (a : Option Addr) (len cap : Nat) (zs : List Int) (w : World) (h : IsRow .u8 w a len cap zs) :
    Calls Try.prog 4 #[.slice a len cap] w fun e w' => e = .returned (.bool true) ∧ Below w.heap.size w w' := texts_all any_drawn a len cap zs w h
end Go.Proofs.Ytmlmiclgledcpaa
