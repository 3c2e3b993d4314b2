/- Helper contracts: EqualBuilders of the program and of the model answer alike: whether the builders are equal. Asked: they lie in memory as named. -/
import Derived.Test.YtmlmiclgledcpaaCnt
import Derived.Test.YtmlmiclgledcpaaTagP
import Derived.Shelf.SlSortCmp.QuietGrown
namespace Go.Proofs.Ytmlmiclgledcpaa
open Go.ChangeShapes Go.WideShapes Go.ChangeAt Go.RowKit

theorem eq_pre {xs ys : List Int} (hl : xs.length = ys.length) (h : ∀ j, j < xs.length → xs.getD j 0 = ys.getD j 0) : xs = ys := by
  apply List.ext_getElem?
  intro j
  by_cases hj : j < xs.length
  · rw [getD_at hj, getD_at (by omega), h j hj]
  · rw [List.getElem?_eq_none (by omega), List.getElem?_eq_none (by omega)]
def Pre (xs ys : List Int) (k : Nat) : Prop := ∀ j, j < k → xs.getD j 0 = ys.getD j 0
theorem Pre.step {xs ys : List Int} {k : Nat} (h : Pre xs ys k) (e : xs.getD k 0 = ys.getD k 0) : Pre xs ys (k + 1) := by
  intro j hj
  by_cases hjk : j = k
  · subst hjk; exact e
  · exact h j (by omega)
/-- The first k elements are equal. -/
def PreL {α : Type} (xs ys : List α) (k : Nat) : Prop := ∀ j, j < k → xs[j]? = ys[j]?
theorem PreL.zero {α : Type} (xs ys : List α) : PreL xs ys 0 := fun _ h => absurd h (Nat.not_lt_zero _)
theorem PreL.step {α : Type} {xs ys : List α} {k : Nat} (h : PreL xs ys k) (e : xs[k]? = ys[k]?) : PreL xs ys (k + 1) := by
  intro j hj
  by_cases hjk : j = k
  · subst hjk; exact e
  · exact h j (by omega)
theorem PreL.full {α : Type} {xs ys : List α} {k : Nat} (h : PreL xs ys k) (hx : xs.length = k) (hy : ys.length = k) : xs = ys := by
  apply List.ext_getElem?
  intro j
  by_cases hj : j < k
  · exact h j hj
  · rw [List.getElem?_eq_none (by omega), List.getElem?_eq_none (by omega)]
theorem ret_d {p : Prop} [Decidable p] {b : Bool} (h : b = decide p) : Ending.returned (.bool b) = .returned (.bool (decide p)) := by rw [h]

set_option maxHeartbeats 1000000 in
theorem slicesEqI (v u : Value) (hi hi' : Nat) (xs ys : List Int) (w : World) (hv : Reads .i64 hi w v xs) (hu : Reads .i64 hi' w u ys) (hh : hi ≤ w.heap.size) (hh' : hi' ≤ w.heap.size) :
    Calls Try.prog 95 #[v, u] w fun e w' => e = .returned (.bool (decide (xs = ys))) ∧ Grw w w' := by
  obtain ⟨a, cap, rfl, hc1, hc2, _, hcells⟩ := hv
  obtain ⟨a', cap', rfl, hc1', hc2', _, hcells'⟩ := hu
  have HC := Lib.hid hcells; have HC' := Lib.hid hcells'; clear hcells hcells'
  by_cases hn : xs.length = ys.length
  · obtain ⟨n, hxn⟩ : ∃ n, xs.length = n := ⟨_, rfl⟩
    have hyn : ys.length = n := by omega
    rw [hxn] at hc1 HC ⊢
    rw [hyn] at hc1' HC' ⊢
    have HXN := Lib.hid hxn; have HYN := Lib.hid hyn; clear hxn hyn hn
    go_enter Try.func95, Try.ntmps95
    go_wp2
    go_loopw [13] (fun i wr => ∃ (k : Nat), k ≤ n ∧ i = .int .i64 k ∧ Pre xs ys k ∧ Grw w wr)
      (fun i _ => n - (intOf i).toNat)
    case atStart => exact ⟨0, Nat.zero_le _, rfl, fun _ h => absurd h (Nat.not_lt_zero _), Grw.refl _⟩
    case round =>
      obtain ⟨k, hk, rfl, hp, hs⟩ := hrel
      have HS := Lib.hid hs; have HP := Lib.hid hp
      clear hs hp
      by_cases hlt : (k : Int) < (n : Int)
      · rcases HC.out with h0 | ⟨g, off, rfl, hg, hcells⟩
        · omega
        · rcases HC'.out with h0 | ⟨g', off', rfl, hg', hcells'⟩
          · omega
          · have c1 : wr.cell? ⟨g, off + k, none⟩ = some (.int .i64 (xs.getD k 0)) := by rw [HS.out.below.cell (show g < _ by omega)]; exact hcells k (by omega)
            have c2 : wr.cell? ⟨g', off' + k, none⟩ = some (.int .i64 (ys.getD k 0)) := by rw [HS.out.below.cell (show g' < _ by omega)]; exact hcells' k (by omega)
            obtain ⟨x, hx⟩ : ∃ z, xs.getD k 0 = z := ⟨_, rfl⟩
            obtain ⟨y, hy⟩ : ∃ z, ys.getD k 0 = z := ⟨_, rfl⟩
            rw [hx] at c1; rw [hy] at c2
            have HX := Lib.hid hx; have HY := Lib.hid hy
            clear hcells hcells' hx hy
            by_cases hxy : x = y
            · subst hxy
              go_wp2
              go_quiet (fail)
              go_wp2
              go_roundw
              case rel => exact ⟨k + 1, by omega, by go_num, HP.out.step (by rw [HX.out, HY.out]), HS.out.drewN _⟩
              case measure => simp [intOf]; omega
            · go_wp2
              go_quiet (fail)
              go_wp2
              go_ret
              refine ⟨?_, HS.out.drewN _⟩
              have hne : xs ≠ ys := fun e => hxy (by rw [← HX.out, ← HY.out, e])
              exact congrArg (fun b => Ending.returned (.bool b)) (decide_eq_false hne).symm
      · have hkn : k = n := by omega
        subst hkn
        go_wp2
        go_ret
        refine ⟨?_, HS.out⟩
        have he : xs = ys := eq_pre (by rw [HXN.out, HYN.out]) (by rw [HXN.out]; exact HP.out)
        exact congrArg (fun b => Ending.returned (.bool b)) (decide_eq_true he).symm
  · have hne : xs ≠ ys := fun e => hn (by rw [e])
    have hni : (xs.length : Int) ≠ (ys.length : Int) := by omega
    have HNE := Lib.hid hne; clear hne hn
    go_enter Try.func95, Try.ntmps95
    go_wp2
    go_ret
    exact ⟨congrArg (fun b => Ending.returned (.bool b)) (decide_eq_false HNE.out).symm, Grw.refl _⟩

theorem eqI_impl (v u : Value) (hi hi' : Nat) (xs ys : List Int) (w : World) (hv : Reads .i64 hi w v xs) (hu : Reads .i64 hi' w u ys) (hh : hi ≤ w.heap.size) (hh' : hi' ≤ w.heap.size) :
    Calls Try.prog 57 #[v, u] w fun e w' => e = .returned (.bool (decide (xs = ys))) ∧ Grw w w' := by
  go_enter Try.func57, Try.ntmps57
  go_wp2_with fail
  refine (slicesEqI v u hi hi' xs ys _ hv hu hh hh').mono ?_
  rintro e w1 ⟨rfl, hs⟩
  have HS := Lib.hid hs; clear hs
  go_wp2
  go_ret
  exact ⟨rfl, HS.out⟩

set_option maxHeartbeats 2000000 in
theorem slicesEqA (v u : Value) (hi hi' : Nat) (xs ys : List At) (w : World) (hv : ReadsK encA 2 hi w v xs) (hu : ReadsK encA 2 hi' w u ys) (hh : hi ≤ w.heap.size) (hh' : hi' ≤ w.heap.size) :
    Calls Try.prog 96 #[v, u] w fun e w' => e = .returned (.bool (decide (xs = ys))) ∧ Grw w w' := by
  obtain ⟨a, cap, rfl, hc1, hc2, _, hcells⟩ := hv
  obtain ⟨a', cap', rfl, hc1', hc2', _, hcells'⟩ := hu
  have HC := Lib.hid hcells; have HC' := Lib.hid hcells'; clear hcells hcells'
  by_cases hn : xs.length = ys.length
  · obtain ⟨n, hxn⟩ : ∃ n, xs.length = n := ⟨_, rfl⟩
    have hyn : ys.length = n := by omega
    rw [hxn] at hc1 HC ⊢
    rw [hyn] at hc1' HC' ⊢
    have HXN := Lib.hid hxn; have HYN := Lib.hid hyn; clear hxn hyn hn
    go_enter Try.func96, Try.ntmps96
    go_wp2
    go_loopw [13] (fun i wr => ∃ (k : Nat), k ≤ n ∧ i = .int .i64 k ∧ PreL xs ys k ∧ Grw w wr)
      (fun i _ => n - (intOf i).toNat)
    case atStart => exact ⟨0, Nat.zero_le _, rfl, PreL.zero _ _, Grw.refl _⟩
    case round =>
      obtain ⟨k, hk, rfl, hp, hs⟩ := hrel
      have HS := Lib.hid hs; have HP := Lib.hid hp
      clear hs hp
      by_cases hlt : (k : Int) < (n : Int)
      · rcases HC.out with h0 | ⟨g, off, rfl, hg, hcells⟩
        · omega
        · rcases HC'.out with h0 | ⟨g', off', rfl, hg', hcells'⟩
          · omega
          · obtain ⟨x, y, hx⟩ := at_at (xs := xs) (j := k) (by have := HXN.out; omega)
            obtain ⟨x', y', hx'⟩ := at_at (xs := ys) (j := k) (by have := HYN.out; omega)
            have c1 : wr.cell? ⟨g, off + k * 2, none⟩ = some (.string x) := by rw [HS.out.below.cell (show g < _ by omega)]; exact hcells k _ hx 0 (by omega)
            have c2 : wr.cell? ⟨g, off + k * 2 + 1, none⟩ = some (.string y) := by rw [HS.out.below.cell (show g < _ by omega)]; exact hcells k _ hx 1 (by omega)
            have c3 : wr.cell? ⟨g', off' + k * 2, none⟩ = some (.string x') := by rw [HS.out.below.cell (show g' < _ by omega)]; exact hcells' k _ hx' 0 (by omega)
            have c4 : wr.cell? ⟨g', off' + k * 2 + 1, none⟩ = some (.string y') := by rw [HS.out.below.cell (show g' < _ by omega)]; exact hcells' k _ hx' 1 (by omega)
            have HX := Lib.hid hx; have HX' := Lib.hid hx'
            clear hcells hcells' hx hx'
            by_cases e1 : x = x'
            · have e3 : (x.toList == x'.toList) = true := beqL_yes e1
              by_cases e2 : y = y'
              · have e4 : (y.toList == y'.toList) = true := beqL_yes e2
                have HQ := Lib.hid (HP.out.step (by rw [HX.out, HX'.out, e1, e2]))
                clear e1 e2
                go_wp2
                go_quiet (fail)
                go_wp2
                go_roundw
                case rel => exact ⟨k + 1, by omega, by go_num, HQ.out, HS.out.drewN _⟩
                case measure => simp [intOf]; omega
              · have e4 : (y.toList == y'.toList) = false := beqL_no e2
                have HNE := Lib.hid (show xs ≠ ys from fun e => e2 (by have h := HX.out; rw [e, HX'.out] at h; exact (Prod.mk.inj (Option.some.inj h)).2.symm))
                clear e1 e2
                go_wp2
                go_quiet (fail)
                go_wp2
                go_ret
                exact ⟨ret_d (decide_eq_false HNE.out).symm, HS.out.drewN _⟩
            · have e3 : (x.toList == x'.toList) = false := beqL_no e1
              have HNE := Lib.hid (show xs ≠ ys from fun e => e1 (by have h := HX.out; rw [e, HX'.out] at h; exact (Prod.mk.inj (Option.some.inj h)).1.symm))
              clear e1
              go_wp2
              go_quiet (fail)
              go_wp2
              go_ret
              exact ⟨ret_d (decide_eq_false HNE.out).symm, HS.out.drewN _⟩
      · have hkn : k = n := by omega
        subst hkn
        have HE := Lib.hid (HP.out.full HXN.out HYN.out)
        go_wp2
        go_ret
        exact ⟨ret_d (decide_eq_true HE.out).symm, HS.out⟩
  · have HNE := Lib.hid (show xs ≠ ys from fun e => hn (by rw [e]))
    have hni : (xs.length : Int) ≠ (ys.length : Int) := by omega
    clear hn
    go_enter Try.func96, Try.ntmps96
    go_wp2
    go_ret
    exact ⟨ret_d (decide_eq_false HNE.out).symm, Grw.refl _⟩

theorem nd_ne {x y : Nd} (h : x.name ≠ y.name ∨ x.text ≠ y.text ∨ x.parent ≠ y.parent ∨ x.attrs ≠ y.attrs) : x ≠ y := by
  rintro rfl
  rcases h with h | h | h | h <;> exact h rfl
theorem nd_eq {x y : Nd} (h1 : x.name = y.name) (h2 : x.text = y.text) (h3 : x.parent = y.parent) : decide (x = y) = decide (x.attrs = y.attrs) := by
  cases x; cases y
  simp only at h1 h2 h3
  subst h1; subst h2; subst h3
  exact decide_eq_decide.2 ⟨fun h => congrArg Nd.attrs h, fun h => by cases h; rfl⟩
set_option maxRecDepth 100000 in
set_option maxHeartbeats 4000000 in
theorem eqN_impl (g o g' o' : Nat) (p q : Nv) (w : World) (hg : g < w.heap.size) (hg' : g' < w.heap.size)
    (c0 : w.cell? ⟨g, o, none⟩ = some (.string p.1.name)) (c1 : w.cell? ⟨g, o + 1, none⟩ = some (.string p.1.text)) (c2 : w.cell? ⟨g, o + 2, none⟩ = some (.int .i64 p.1.parent)) (c3 : w.cell? ⟨g, o + 3, none⟩ = some (sv p.2))
    (d0 : w.cell? ⟨g', o', none⟩ = some (.string q.1.name)) (d1 : w.cell? ⟨g', o' + 1, none⟩ = some (.string q.1.text)) (d2 : w.cell? ⟨g', o' + 2, none⟩ = some (.int .i64 q.1.parent)) (d3 : w.cell? ⟨g', o' + 3, none⟩ = some (sv q.2))
    (hp : ReadsK encA 2 w.heap.size w (sv p.2) p.1.attrs) (hq : ReadsK encA 2 w.heap.size w (sv q.2) q.1.attrs) :
    Calls Try.prog 58 #[.pointer (some ⟨g, o, none⟩), .pointer (some ⟨g', o', none⟩)] w fun e w' => e = .returned (.bool (decide (p.1 = q.1))) ∧ Grw w w' := by
  have mixed : Try.prog.follows .mixedOrders = true := by kernel_rfl
  obtain ⟨⟨nm, tx, pa, ats⟩, ⟨sa, sn, sc⟩⟩ := p
  obtain ⟨⟨nm', tx', pa', ats'⟩, ⟨sa', sn', sc'⟩⟩ := q
  replace c3 : w.cell? ⟨g, o + 3, none⟩ = some (.slice sa sn sc) := c3
  replace d3 : w.cell? ⟨g', o' + 3, none⟩ = some (.slice sa' sn' sc') := d3
  have C0 := cell_grown hg c0; have C1 := cell_grown hg c1; have C2 := cell_grown hg c2; have C3 := cell_grown hg c3
  have D0 := cell_grown hg' d0; have D1 := cell_grown hg' d1; have D2 := cell_grown hg' d2; have D3 := cell_grown hg' d3
  have HE := Lib.hid (fun (n : Nat) (os : Array Obj) => slicesEqA (sv (sa, sn, sc)) (sv (sa', sn', sc')) _ _ ats ats' (Sort.grow (w.drewN n) os) (readsK_grown hp (Nat.le_refl _) n os) (readsK_grown hq (Nat.le_refl _) n os) (size_grown (Nat.le_refl _) n os) (size_grown (Nat.le_refl _) n os))
  clear c0 c1 c2 c3 d0 d1 d2 d3 hp hq
  by_cases h1 : nm = nm'
  · have e1 : (nm.toList == nm'.toList) = true := beqL_yes h1
    by_cases h2 : tx = tx'
    · have e2 : (tx.toList == tx'.toList) = true := beqL_yes h2
      by_cases h3 : pa = pa'
      · have e3 : (pa == pa') = true := beq_iff_eq.2 h3
        have HR := Lib.hid (nd_eq (x := ⟨nm, tx, pa, ats⟩) (y := ⟨nm', tx', pa', ats'⟩) h1 h2 h3)
        obtain ⟨r, hr⟩ : ∃ r, decide (ats = ats') = r := ⟨_, rfl⟩
        rw [hr] at HE
        have HRR := Lib.hid hr
        clear h1 h2 h3 hr
        go_enter Try.func58, Try.ntmps58
        go_wp2_with fail
        refine wp_region_quiet_grown mixed (by kernel_rfl) ?_
        repeat (go_big_quiet_step (first | (go_at_call 96; refine Calls.grown_of (HE.out _ _))))
        refine wpQuiet_nil ?_; intro _ hw'; obtain ⟨⟨nq, osq⟩, hw''⟩ := hw'; subst hw''
        go_wp2_with fail
        go_ret
        exact ⟨by rw [HR.out]; show _ = Ending.returned (.bool (decide (ats = ats'))); rw [HRR.out]; rfl, ⟨nq, osq, rfl⟩⟩
      · have e3 : (pa == pa') = false := beq_eq_false_iff_ne.2 h3
        have HN := Lib.hid (nd_ne (x := ⟨nm, tx, pa, ats⟩) (y := ⟨nm', tx', pa', ats'⟩) (Or.inr (Or.inr (Or.inl h3))))
        clear h1 h2 h3 HE
        go_enter Try.func58, Try.ntmps58
        go_wp2_with fail
        refine wp_region_quiet_grown mixed (by kernel_rfl) ?_
        repeat (go_big_quiet_step (fail))
        refine wpQuiet_nil ?_; intro _ hw'; obtain ⟨⟨nq, osq⟩, hw''⟩ := hw'; subst hw''
        go_wp2_with fail
        go_ret
        exact ⟨ret_d (decide_eq_false HN.out).symm, ⟨nq, osq, rfl⟩⟩
    · have e2 : (tx.toList == tx'.toList) = false := beqL_no h2
      have HN := Lib.hid (nd_ne (x := ⟨nm, tx, pa, ats⟩) (y := ⟨nm', tx', pa', ats'⟩) (Or.inr (Or.inl h2)))
      clear h1 h2 HE
      go_enter Try.func58, Try.ntmps58
      go_wp2_with fail
      refine wp_region_quiet_grown mixed (by kernel_rfl) ?_
      repeat (go_big_quiet_step (fail))
      refine wpQuiet_nil ?_; intro _ hw'; obtain ⟨⟨nq, osq⟩, hw''⟩ := hw'; subst hw''
      go_wp2_with fail
      go_ret
      exact ⟨ret_d (decide_eq_false HN.out).symm, ⟨nq, osq, rfl⟩⟩
  · have e1 : (nm.toList == nm'.toList) = false := beqL_no h1
    have HN := Lib.hid (nd_ne (x := ⟨nm, tx, pa, ats⟩) (y := ⟨nm', tx', pa', ats'⟩) (Or.inl h1))
    clear h1 HE
    go_enter Try.func58, Try.ntmps58
    go_wp2_with fail
    refine wp_region_quiet_grown mixed (by kernel_rfl) ?_
    repeat (go_big_quiet_step (fail))
    refine wpQuiet_nil ?_; intro _ hw'; obtain ⟨⟨nq, osq⟩, hw''⟩ := hw'; subst hw''
    go_wp2_with fail
    go_ret
    exact ⟨ret_d (decide_eq_false HN.out).symm, ⟨nq, osq, rfl⟩⟩
end Go.Proofs.Ytmlmiclgledcpaa
