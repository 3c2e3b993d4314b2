/- Helper contracts: SortAddrs of the program and of the model: each hands back a new slice that holds the argument's members in strict order. Asked: the slice reads as the list named. -/
import Derived.Test.YtojpbdhkcpfeaaaSortP
namespace Go.Proofs.Ytojpbdhkcpfeaaa
open Go.ChangeShapes Go.WideShapes Go.ChangeAt Go.RowKit

/-- A new slice of the call's own with the members in strict order. -/
def SortedOut (xs : List Ad) (w : World) (en : Ending) (w' : World) : Prop :=
  ∃ v ys, en = .returned v ∧ SortedOf xs ys ∧ OwnK encA 2 25 w.heap.size w'.heap.size w' v ys ∧ Below w.heap.size w w'
theorem alloc_size (w : World) (o : Obj) : (w.alloc o).heap.size = w.heap.size + 1 := by show (w.heap.push o).size = _; simp

set_option maxRecDepth 100000 in
set_option maxHeartbeats 2000000 in
theorem sortImpl_any (v : Value) (hi : Nat) (xs : List Ad) (w : World) (hr : ReadsK encA 2 hi w v xs) (hh : hi ≤ w.heap.size) (hl : xs.length ≤ 68719476736) :
    Calls Try.prog 19 #[v] w (SortedOut xs w) := by
  obtain ⟨i0, hi0, hz0, hz1, hz2⟩ := info_parts infoA
  have HM := Lib.hid (MineK.empty encA 2 25 w w w.heap.size (Below.refl _ _) (Nat.le_refl _))
  have HR := Lib.hid (hr.below ((Below.refl w.heap.size w).alloc (Nat.le_refl _) (.cells #[] 25)) hh)
  have HZ2 := Lib.hid hz2
  clear hr hz2
  go_enter Try.func19, Try.ntmps19
  go_wp2_with (at_builtin; refine wpList_appK rfl _ _ 33 rfl encA_len encA_one (by decide) 25 i0 zA 32 Try.underlying33 hi0 hz0 hz1 HZ2.out rfl w.heap.size w _ [] rfl HM.out _ hi xs rfl HR.out (by decide) ?c1 ?_)
  case c1 => simp; omega
  intro v1 w1 hm1 hnil
  have hv1 : ∃ g cap, v1 = .slice (some ⟨g, 0, none⟩) xs.length cap := by
    rcases hm1.row.2 with ⟨h1, _⟩ | ⟨g, cap, cur, h1, _⟩
    · exact (hnil h1).elim
    · exact ⟨g, cap, h1⟩
  obtain ⟨g, cap, hv1⟩ := hv1
  rw [hv1] at hm1 ⊢
  have HM1 := Lib.hid hm1
  clear hm1 hnil hv1
  go_wp2_with fail
  refine (sort_any w.heap.size g cap xs w1 HM1.out.row (by omega)).mono ?_
  rintro e w2 ⟨rfl, ys, hp, ha, hrow, hg2⟩
  have hlen : ys.length = xs.length := hp.length_eq
  have HC := Lib.hid (sortedOf_perm (comp_sorted ha) hp)
  rw [← hlen] at hrow ⊢
  have HROW := Lib.hid hrow
  have HB2 := Lib.hid (HM1.out.below.grown hg2 HM1.out.size (fun k hk => by cases hk; exact (HM1.out.row.lt g rfl).1))
  clear hp ha hrow hg2 hlen
  go_wp2_with fail
  refine (compact_any w.heap.size g cap ys w2 HROW.out).mono ?_
  rintro e w3 ⟨v3, rfl, hrow3, hblk, hg3⟩
  have HR3 := Lib.hid hrow3
  have HB3 := Lib.hid (HB2.out.grown hg3 HB2.out.size (fun k hk => by cases hk; exact (HROW.out.lt g rfl).1))
  clear hrow3 hblk hg3
  go_wp2_with fail
  go_ret
  exact ⟨_, _, rfl, HC.out, ⟨HR3.out, fun g hg => (HR3.out.lt g hg).2⟩, HB3.out⟩

theorem readsK_take {α : Type} {enc : α → List Value} {k hi : Nat} {w : World} {g n cap m : Nat} {xs : List α} (h : ReadsK enc k hi w (.slice (some ⟨g, 0, none⟩) n cap) xs) (hm : m ≤ xs.length) : ReadsK enc k hi w (.slice (some ⟨g, 0, none⟩) m cap) (xs.take m) := by
  obtain ⟨a, cap', e, h1, h2, hnil, h3⟩ := h
  cases e
  have hl : (xs.take m).length = m := by rw [List.length_take]; omega
  refine ⟨_, cap, by rw [hl], by omega, h2, (fun h => by cases h), ?_⟩
  rw [hl]
  rcases h3 with h3 | ⟨g', off, e2, hg, hc⟩
  · exact Or.inl (by omega)
  · cases e2
    refine Or.inr ⟨g, 0, rfl, hg, fun j x hj i hi' => hc j x ?_ i hi'⟩
    rw [List.getElem?_take] at hj
    split at hj
    · exact hj
    · cases hj
theorem readsK_drop {α : Type} {enc : α → List Value} {k hi : Nat} {w : World} {g n cap m : Nat} {xs : List α} (h : ReadsK enc k hi w (.slice (some ⟨g, 0, none⟩) n cap) xs) (hm : m ≤ xs.length) : ReadsK enc k hi w (.slice (some ⟨g, m * k, none⟩) (n - m) (cap - m)) (xs.drop m) := by
  obtain ⟨a, cap', e, h1, h2, hnil, h3⟩ := h
  cases e
  have hl : (xs.drop m).length = xs.length - m := List.length_drop
  refine ⟨_, cap - m, by rw [hl], by omega, by omega, (fun h => by cases h), ?_⟩
  rcases h3 with h3 | ⟨g', off, e2, hg, hc⟩
  · exact Or.inl (by omega)
  · cases e2
    refine Or.inr ⟨g, m * k, rfl, hg, fun j x hj i hi' => ?_⟩
    rw [List.getElem?_drop] at hj
    have := hc (m + j) x hj i hi'
    rw [← this]
    congr 2
    rw [Nat.add_mul]; omega

theorem behind_less {a : Ad} {ys : List Ad} {m : Nat} (h : behind a ys m) (hm : m - 1 < ys.length) (h1 : cmpA a ys[m - 1] < 0) : behind a ys (m - 1) := by
  intro j hj hmj
  by_cases e : j = m - 1
  · subst e; exact h1
  · exact h j hj (by omega)
theorem readsK_end (w w4 : World) (g : Nat) {m : Nat} {ys : List Ad} (hm : ys.length = m) : ReadsK encA 2 w.heap.size w4 (.slice (some ⟨g, 0, none⟩) 0 0) (ys.drop m) := by
  have e1 : ys.drop m = [] := List.drop_eq_nil_of_le (by omega)
  rw [e1]
  exact ⟨_, 0, rfl, Nat.le_refl _, by omega, (fun h => by cases h), Or.inl rfl⟩
theorem mine_lift {w w2 w5 : World} {v v5 : Value} {ys zs : List Ad} {e : TypeId} (h : MineK encA 2 e w.heap.size w w2 v ys) (h5 : MineK encA 2 e w2.heap.size w2 w5 v5 zs) : MineK encA 2 e w.heap.size w w5 v5 zs := by
  refine ⟨?_, h.below.trans (h5.below.mono h.size), Nat.le_trans h.size h5.size⟩
  refine ⟨h5.row.1, ?_⟩
  rcases h5.row.2 with h1 | ⟨g, cap, cur, h1, h2, h3⟩
  · exact Or.inl h1
  · exact Or.inr ⟨g, cap, cur, h1, Nat.le_trans h.size h2, h3⟩

set_option maxRecDepth 100000 in
set_option maxHeartbeats 8000000 in
theorem sortSpec_any (v : Value) (hi : Nat) (xs : List Ad) (w : World) (hr : ReadsK encA 2 hi w v xs) (hh : hi ≤ w.heap.size) (hl : xs.length ≤ 1048576) :
    Calls Try.prog 32 #[v] w (SortedOut xs w) := by
  have mixed : Try.prog.follows .mixedOrders = true := by kernel_rfl
  obtain ⟨i0, hi0, hz0, hz1, hz2⟩ := info_parts infoA
  have HZ2 := Lib.hid hz2
  obtain ⟨a, cap, rfl, hc1, hc2, _, hcells⟩ := hr
  have HC := Lib.hid hcells; clear hcells hz2
  obtain ⟨n, hn⟩ : ∃ n, xs.length = n := ⟨_, rfl⟩
  rw [hn] at hc1 hl HC ⊢
  have HN := Lib.hid hn; clear hn
  have HM := Lib.hid (MineK.empty encA 2 25 w w w.heap.size (Below.refl _ _) (Nat.le_refl _))
  go_enter Try.func32, Try.ntmps32
  go_wp2
  go_loopw [3, 4] (fun out i wr => ∃ (k g c : Nat) (ys : List Ad), k ≤ n ∧ i = .int .i64 k ∧ out = .slice (some ⟨g, 0, none⟩) ys.length c ∧ ys.length ≤ k ∧ SortedOf (xs.take k) ys ∧ MineK encA 2 25 w.heap.size w wr (.slice (some ⟨g, 0, none⟩) ys.length c) ys)
    (fun _ i _ => n - (intOf i).toNat)
  case atStart => exact ⟨0, _, 0, [], Nat.zero_le _, rfl, rfl, Nat.le_refl _, ⟨List.Pairwise.nil, by simp⟩, HM.out⟩
  case round =>
    obtain ⟨k, g, c, ys, hk, rfl, rfl, hyk, hso, hmine⟩ := hrel
    have HSO := Lib.hid hso; have HMI := Lib.hid hmine
    clear hso hmine HM
    by_cases hlt : (k : Int) < (n : Int)
    · rcases HC.out with h0 | ⟨gl, off, rfl, hg, hcells⟩
      · omega
      · obtain ⟨x, y, hx⟩ := ad_at (xs := xs) (j := k) (by have := HN.out; omega)
        have hgw : gl < w.heap.size := by omega
        have c0 : wr.cell? ⟨gl, off + k * 2, none⟩ = some (.string x) := by rw [HMI.out.below.cell (show gl < _ by omega)]; exact hcells k _ hx 0 (by omega)
        have c1 : wr.cell? ⟨gl, off + k * 2 + 1, none⟩ = some (.string y) := by rw [HMI.out.below.cell (show gl < _ by omega)]; exact hcells k _ hx 1 (by omega)
        have HX := Lib.hid hx
        have HCL := Lib.hid hcells
        have hcc : ys.length ≤ c ∧ c ≤ 9223372036854775807 := by
          rcases HMI.out.row.2 with ⟨h', _⟩ | ⟨g', cap', cur, h', hb, hg, hnc, hcm, hcs, htake⟩
          · simp at h'
          · simp only [Value.slice.injEq] at h'
            unfold maxLen at hcm
            omega
        obtain ⟨hcc1, hcc2⟩ := hcc
        clear hcells hx
        by_cases hin : hasA ys (x, y) = true
        · have HIN := Lib.hid (show SortedOf (xs.take (k + 1)) ys from by rw [take_snoc HX.out]; exact keep_sorted HSO.out (hasA_iff.1 hin))
          go_wp2_with fail
          refine (has_spec _ wr.heap.size ys x y _ (HMI.out.own.reads encA_len) (Nat.le_refl _)).mono ?_
          rintro e w1 ⟨rfl, hg1⟩
          rw [hin]
          have HM1 := Lib.hid (HMI.out.later hg1.below)
          clear hg1 hin c0 c1
          go_wp2_with fail
          go_roundw
          case rel => exact ⟨k + 1, g, c, ys, by omega, by go_num, rfl, by omega, HIN.out, HM1.out⟩
          case measure => simp [intOf]; omega
        · have hin : hasA ys (x, y) = false := Bool.eq_false_iff.2 hin
          have HNO := Lib.hid (show (x, y) ∉ ys from fun h => by rw [hasA_iff.2 h] at hin; cases hin)
          go_wp2_with fail
          refine (has_spec _ wr.heap.size ys x y _ (HMI.out.own.reads encA_len) (Nat.le_refl _)).mono ?_
          rintro e w1 ⟨rfl, hg1⟩
          rw [hin]
          have HM1 := Lib.hid (HMI.out.later hg1.below)
          have d0 : w1.cell? ⟨gl, off + k * 2, none⟩ = some (.string x) := by rw [hg1.below.cell (show gl < _ by have := HMI.out.size; omega)]; exact c0
          have d1 : w1.cell? ⟨gl, off + k * 2 + 1, none⟩ = some (.string y) := by rw [hg1.below.cell (show gl < _ by have := HMI.out.size; omega)]; exact c1
          have hgw1 : gl < w1.heap.size := by have := HM1.out.size; omega
          clear hg1 hin c0 c1
          go_wp2_with fail
          have DD0 := Lib.hid d0; have DD1 := Lib.hid d1
          go_loopw [5] (fun at' wr => ∃ (m : Nat), m ≤ ys.length ∧ at' = .int .i64 m ∧ behind (x, y) ys m ∧ Grw w1 wr)
            (fun at' _ => (intOf at').toNat)
          case atStart => exact ⟨ys.length, Nat.le_refl _, rfl, (fun j h1 h2 => absurd h1 (by omega)), Grw.refl _⟩
          case round =>
            obtain ⟨m, hm, rfl, hbeh, hgr⟩ := hrel
            have HBH := Lib.hid hbeh; have HG := Lib.hid hgr
            clear hbeh hgr
            by_cases h0 : (0 : Int) < (m : Int)
            · have hml : m - 1 < ys.length := by omega
              have hg0 : decide (0 < m) = true := decide_eq_true (by omega)
              have hgw3 : gl < wr.heap.size := by have := HG.out.below.size; omega
              have hrd := (HM1.out.later HG.out.below).own.reads encA_len
              obtain ⟨p, q, hpq⟩ := ad_at (xs := ys) (j := m - 1) hml
              have hpq' : ys[m - 1] = (p, q) := by
                have := List.getElem?_eq_getElem hml
                rw [hpq] at this
                exact (Option.some.inj this).symm
              have hgy : g < wr.heap.size := ((HM1.out.later HG.out.below).row.lt g rfl).2
              have k0 : wr.cell? ⟨g, (m - 1) * 2, none⟩ = some (.string p) ∧ wr.cell? ⟨g, (m - 1) * 2 + 1, none⟩ = some (.string q) := by
                obtain ⟨a, cap', e, _, _, _, h3⟩ := hrd
                cases e
                rcases h3 with h3 | ⟨g', off', e2, hg', hc'⟩
                · omega
                · cases e2
                  have q0 := hc' (m - 1) (p, q) hpq 0 (by omega)
                  have q1 := hc' (m - 1) (p, q) hpq 1 (by omega)
                  rw [Nat.zero_add] at q0 q1
                  exact ⟨q0, q1⟩
              obtain ⟨k0, k1⟩ := k0
              have l0 : wr.cell? ⟨gl, off + k * 2, none⟩ = some (.string x) := by rw [HG.out.below.cell hgw1]; exact d0
              have l1 : wr.cell? ⟨gl, off + k * 2 + 1, none⟩ = some (.string y) := by rw [HG.out.below.cell hgw1]; exact d1
              have a0 := cell_grown (w := wr) (show (⟨g, (m - 1) * 2, none⟩ : Addr).block < wr.heap.size from hgy) k0
              have a1 := cell_grown (w := wr) (show (⟨g, (m - 1) * 2 + 1, none⟩ : Addr).block < wr.heap.size from hgy) k1
              have b0 := cell_grown (w := wr) (show (⟨gl, off + k * 2, none⟩ : Addr).block < wr.heap.size from hgw3) l0
              have b1 := cell_grown (w := wr) (show (⟨gl, off + k * 2 + 1, none⟩ : Addr).block < wr.heap.size from hgw3) l1
              have hi0' : (0 : Int) ≤ (m : Int) - 1 := by omega
              have hi1' : (m : Int) - 1 < (ys.length : Int) := by omega
              have HPQ := Lib.hid hpq'
              clear hrd hpq hpq' k0 k1 l0 l1
              obtain ⟨r, hr⟩ : ∃ r, cmpA (x, y) (p, q) = r := ⟨_, rfl⟩
              have HCMP := Lib.hid (fun W => cmp_spec x y p q W)
              rw [hr] at HCMP
              have HRR := Lib.hid hr; clear hr
              by_cases hneg : r < 0
              · go_wp2_with fail
                refine wp_region_quiet_grown mixed (by kernel_rfl) ?_
                repeat (go_big_quiet_step (first | (go_at_call 30; refine Calls.grown_of (HCMP.out _))))
                refine wpQuiet_nil ?_
                intro _ hw'
                obtain ⟨⟨nq, osq⟩, hw''⟩ := hw'
                subst hw''
                clear a0 a1 b0 b1
                go_wp2
                go_roundw
                case rel => exact ⟨m - 1, by omega, by go_num, behind_less HBH.out hml (by rw [HPQ.out, HRR.out]; exact hneg), HG.out.trans ⟨_, _, rfl⟩⟩
                case measure => simp [intOf]; omega
              · have hneg' : decide (r < 0) = false := decide_eq_false hneg
                have HFR := Lib.hid (show m = 0 ∨ ∃ h : m - 1 < ys.length, 0 ≤ cmpA (x, y) ys[m - 1] from Or.inr ⟨hml, by rw [HPQ.out, HRR.out]; omega⟩)
                go_wp2_with fail
                refine wp_region_quiet_grown mixed (by kernel_rfl) ?_
                repeat (go_big_quiet_step (first | (go_at_call 30; refine Calls.grown_of (HCMP.out _))))
                refine wpQuiet_nil ?_
                intro _ hw'
                obtain ⟨⟨nq, osq⟩, hw''⟩ := hw'
                subst hw''
                clear a0 a1 b0 b1 hi0' hi1'
                obtain ⟨w2, hw2⟩ : ∃ w2, Sort.grow (wr.drewN nq) osq = w2 := ⟨_, rfl⟩
                have HG2 := Lib.hid (HG.out.trans ⟨nq, osq, rfl⟩)
                rw [hw2] at HG2 ⊢
                clear hw2
                have HM2 := Lib.hid (HM1.out.later HG2.out.below)
                have e0 : w2.cell? ⟨gl, off + k * 2, none⟩ = some (.string x) := by rw [HG2.out.below.cell hgw1]; exact d0
                have e1 : w2.cell? ⟨gl, off + k * 2 + 1, none⟩ = some (.string y) := by rw [HG2.out.below.cell hgw1]; exact d1
                have E0 := Lib.hid e0; have E1 := Lib.hid e1
                have hgw2 : gl < w2.heap.size := by have := HG2.out.below.size; omega
                have HT := Lib.hid ((readsK_take (HM2.out.own.reads encA_len) hm).below ((Below.refl w2.heap.size w2).alloc (Nat.le_refl _) (.cells #[] 25)) (Nat.le_refl _))
                have HE := Lib.hid (MineK.empty encA 2 25 w2 w2 w2.heap.size (Below.refl _ _) (Nat.le_refl _))
                clear e0 e1 d0 d1 DD0 DD1
                have htl : (ys.take m).length = m := by rw [List.length_take]; omega
                have hdl : (ys.drop m).length = ys.length - m := List.length_drop
                have hm' : (m : Int) ≤ (ys.length : Int) := by omega
                have HLA := Lib.hid (show ([] : List Ad).length + (ys.take m).length ≤ 137438953472 by rw [htl]; simp; omega)
                have HLB := Lib.hid (show (ys.take m).length + [(x, y)].length ≤ 137438953472 by rw [htl]; simp; omega)
                have HLC := Lib.hid (show (ys.take m ++ [(x, y)]).length + (ys.drop m).length ≤ 137438953472 by rw [List.length_append, htl, hdl]; simp; omega)
                go_wp2_with (at_builtin; refine wpList_appK rfl _ _ 33 rfl encA_len encA_one (by decide) 25 i0 zA 32 Try.underlying33 hi0 hz0 hz1 HZ2.out rfl w2.heap.size w2 _ [] rfl HE.out _ w2.heap.size (ys.take m) rfl HT.out (by decide) HLA.out ?_)
                intro v3 w3 hm3 hnil3
                have HM3 := Lib.hid (show MineK encA 2 25 w2.heap.size w2 w3 v3 (ys.take m) from hm3)
                have g0 : w3.cell? ⟨gl, off + k * 2, none⟩ = some (.string x) := by rw [HM3.out.below.cell hgw2]; exact E0.out
                have g1 : w3.cell? ⟨gl, off + k * 2 + 1, none⟩ = some (.string y) := by rw [HM3.out.below.cell hgw2]; exact E1.out
                clear hm3 hnil3
                go_wp2_with (at_builtin; refine wpList_appK rfl _ _ 33 rfl encA_len encA_one (by decide) 25 i0 zA 32 Try.underlying33 hi0 hz0 hz1 HZ2.out rfl w2.heap.size w2 _ (ys.take m) rfl (HM3.out.alloc _) _ (w3.heap.size + 1) [(x, y)] rfl (readsK_one2 encA 25 w3 (x := (x, y)) rfl) (by decide) HLB.out ?_)
                intro v4 w4 hm4 hnil4
                have HM4 := Lib.hid (show MineK encA 2 25 w2.heap.size w2 w4 v4 (ys.take m ++ [(x, y)]) from hm4)
                clear hm4 hnil4 g0 g1
                by_cases hcm : c = m
                · have hym : ys.length = m := by omega
                  have HD := Lib.hid (readsK_end w2 w4 g hym)
                  clear hym
                  have hcm := hcm.symm
                  subst hcm
                  go_wp2_with (at_builtin; refine wpList_appK rfl _ _ 33 rfl encA_len encA_one (by decide) 25 i0 zA 32 Try.underlying33 hi0 hz0 hz1 HZ2.out rfl w2.heap.size w2 _ (ys.take m ++ [(x, y)]) rfl HM4.out _ w2.heap.size (ys.drop m) rfl HD.out (by decide) HLC.out ?_)
                  intro v5 w5 hm5 hnil5
                  have hm5 : MineK encA 2 25 w2.heap.size w2 w5 v5 (ys.take m ++ ((x, y) :: ys.drop m)) := hm5
                  have hv5 : ∃ g5 c5, v5 = .slice (some ⟨g5, 0, none⟩) (ys.take m ++ ((x, y) :: ys.drop m)).length c5 := by
                    rcases hm5.row.2 with ⟨_, h0⟩ | ⟨g5, c5, cur, h1, _⟩
                    · simp at h0
                    · exact ⟨g5, c5, h1⟩
                  obtain ⟨g5, c5, hv5⟩ := hv5
                  have HM5 := Lib.hid hm5
                  have HV5 := Lib.hid hv5
                  clear hm5 hnil5 hv5
                  go_wp2_with fail
                  go_roundw
                  case rel => exact ⟨k + 1, g5, c5, ys.take m ++ ((x, y) :: ys.drop m), by omega, by go_num, HV5.out, by rw [List.length_append, List.length_cons, htl, hdl]; omega, by rw [take_snoc HX.out]; exact insert_sorted HSO.out hm HNO.out HBH.out HFR.out, by rw [← HV5.out]; exact mine_lift HM2.out HM5.out⟩
                  case measure => simp [intOf]; omega
                · have HD := Lib.hid ((readsK_drop (HM2.out.own.reads encA_len) hm).below HM4.out.below (Nat.le_refl _))
                  go_wp2_with (at_builtin; refine wpList_appK rfl _ _ 33 rfl encA_len encA_one (by decide) 25 i0 zA 32 Try.underlying33 hi0 hz0 hz1 HZ2.out rfl w2.heap.size w2 _ (ys.take m ++ [(x, y)]) rfl HM4.out _ w2.heap.size (ys.drop m) rfl HD.out (by decide) HLC.out ?_)
                  intro v5 w5 hm5 hnil5
                  have hm5 : MineK encA 2 25 w2.heap.size w2 w5 v5 (ys.take m ++ ((x, y) :: ys.drop m)) := hm5
                  have hv5 : ∃ g5 c5, v5 = .slice (some ⟨g5, 0, none⟩) (ys.take m ++ ((x, y) :: ys.drop m)).length c5 := by
                    rcases hm5.row.2 with ⟨_, h0⟩ | ⟨g5, c5, cur, h1, _⟩
                    · simp at h0
                    · exact ⟨g5, c5, h1⟩
                  obtain ⟨g5, c5, hv5⟩ := hv5
                  have HM5 := Lib.hid hm5
                  have HV5 := Lib.hid hv5
                  clear hm5 hnil5 hv5
                  go_wp2_with fail
                  go_roundw
                  case rel => exact ⟨k + 1, g5, c5, ys.take m ++ ((x, y) :: ys.drop m), by omega, by go_num, HV5.out, by rw [List.length_append, List.length_cons, htl, hdl]; omega, by rw [take_snoc HX.out]; exact insert_sorted HSO.out hm HNO.out HBH.out HFR.out, by rw [← HV5.out]; exact mine_lift HM2.out HM5.out⟩
                  case measure => simp [intOf]; omega
            · have hmz : m = 0 := by omega
              have h0' : decide (0 < m) = false := decide_eq_false (by omega)
              have HFR := Lib.hid (show m = 0 ∨ ∃ h : m - 1 < ys.length, 0 ≤ cmpA (x, y) ys[m - 1] from Or.inl hmz)
              clear hmz
              go_wp2_with fail
              go_quiet (fail)
              obtain ⟨w2, hw2⟩ : ∃ w2, wr.drewN nq = w2 := ⟨_, rfl⟩
              have HG2 := Lib.hid (HG.out.drewN nq)
              rw [hw2] at HG2 ⊢
              clear hw2
              have HM2 := Lib.hid (HM1.out.later HG2.out.below)
              have e0 : w2.cell? ⟨gl, off + k * 2, none⟩ = some (.string x) := by rw [HG2.out.below.cell hgw1]; exact d0
              have e1 : w2.cell? ⟨gl, off + k * 2 + 1, none⟩ = some (.string y) := by rw [HG2.out.below.cell hgw1]; exact d1
              have E0 := Lib.hid e0; have E1 := Lib.hid e1
              have hgw2 : gl < w2.heap.size := by have := HG2.out.below.size; omega
              have HT := Lib.hid ((readsK_take (HM2.out.own.reads encA_len) hm).below ((Below.refl w2.heap.size w2).alloc (Nat.le_refl _) (.cells #[] 25)) (Nat.le_refl _))
              have HE := Lib.hid (MineK.empty encA 2 25 w2 w2 w2.heap.size (Below.refl _ _) (Nat.le_refl _))
              clear e0 e1 d0 d1 DD0 DD1
              have htl : (ys.take m).length = m := by rw [List.length_take]; omega
              have hdl : (ys.drop m).length = ys.length - m := List.length_drop
              have hm' : (m : Int) ≤ (ys.length : Int) := by omega
              have HLA := Lib.hid (show ([] : List Ad).length + (ys.take m).length ≤ 137438953472 by rw [htl]; simp; omega)
              have HLB := Lib.hid (show (ys.take m).length + [(x, y)].length ≤ 137438953472 by rw [htl]; simp; omega)
              have HLC := Lib.hid (show (ys.take m ++ [(x, y)]).length + (ys.drop m).length ≤ 137438953472 by rw [List.length_append, htl, hdl]; simp; omega)
              go_wp2_with (at_builtin; refine wpList_appK rfl _ _ 33 rfl encA_len encA_one (by decide) 25 i0 zA 32 Try.underlying33 hi0 hz0 hz1 HZ2.out rfl w2.heap.size w2 _ [] rfl HE.out _ w2.heap.size (ys.take m) rfl HT.out (by decide) HLA.out ?_)
              intro v3 w3 hm3 hnil3
              have HM3 := Lib.hid (show MineK encA 2 25 w2.heap.size w2 w3 v3 (ys.take m) from hm3)
              have g0 : w3.cell? ⟨gl, off + k * 2, none⟩ = some (.string x) := by rw [HM3.out.below.cell hgw2]; exact E0.out
              have g1 : w3.cell? ⟨gl, off + k * 2 + 1, none⟩ = some (.string y) := by rw [HM3.out.below.cell hgw2]; exact E1.out
              clear hm3 hnil3
              go_wp2_with (at_builtin; refine wpList_appK rfl _ _ 33 rfl encA_len encA_one (by decide) 25 i0 zA 32 Try.underlying33 hi0 hz0 hz1 HZ2.out rfl w2.heap.size w2 _ (ys.take m) rfl (HM3.out.alloc _) _ (w3.heap.size + 1) [(x, y)] rfl (readsK_one2 encA 25 w3 (x := (x, y)) rfl) (by decide) HLB.out ?_)
              intro v4 w4 hm4 hnil4
              have HM4 := Lib.hid (show MineK encA 2 25 w2.heap.size w2 w4 v4 (ys.take m ++ [(x, y)]) from hm4)
              clear hm4 hnil4 g0 g1
              by_cases hcm : c = m
              · have hym : ys.length = m := by omega
                have HD := Lib.hid (readsK_end w2 w4 g hym)
                clear hym
                have hcm := hcm.symm
                subst hcm
                go_wp2_with (at_builtin; refine wpList_appK rfl _ _ 33 rfl encA_len encA_one (by decide) 25 i0 zA 32 Try.underlying33 hi0 hz0 hz1 HZ2.out rfl w2.heap.size w2 _ (ys.take m ++ [(x, y)]) rfl HM4.out _ w2.heap.size (ys.drop m) rfl HD.out (by decide) HLC.out ?_)
                intro v5 w5 hm5 hnil5
                have hm5 : MineK encA 2 25 w2.heap.size w2 w5 v5 (ys.take m ++ ((x, y) :: ys.drop m)) := hm5
                have hv5 : ∃ g5 c5, v5 = .slice (some ⟨g5, 0, none⟩) (ys.take m ++ ((x, y) :: ys.drop m)).length c5 := by
                  rcases hm5.row.2 with ⟨_, h0⟩ | ⟨g5, c5, cur, h1, _⟩
                  · simp at h0
                  · exact ⟨g5, c5, h1⟩
                obtain ⟨g5, c5, hv5⟩ := hv5
                have HM5 := Lib.hid hm5
                have HV5 := Lib.hid hv5
                clear hm5 hnil5 hv5
                go_wp2_with fail
                go_roundw
                case rel => exact ⟨k + 1, g5, c5, ys.take m ++ ((x, y) :: ys.drop m), by omega, by go_num, HV5.out, by rw [List.length_append, List.length_cons, htl, hdl]; omega, by rw [take_snoc HX.out]; exact insert_sorted HSO.out hm HNO.out HBH.out HFR.out, by rw [← HV5.out]; exact mine_lift HM2.out HM5.out⟩
                case measure => simp [intOf]; omega
              · have HD := Lib.hid ((readsK_drop (HM2.out.own.reads encA_len) hm).below HM4.out.below (Nat.le_refl _))
                go_wp2_with (at_builtin; refine wpList_appK rfl _ _ 33 rfl encA_len encA_one (by decide) 25 i0 zA 32 Try.underlying33 hi0 hz0 hz1 HZ2.out rfl w2.heap.size w2 _ (ys.take m ++ [(x, y)]) rfl HM4.out _ w2.heap.size (ys.drop m) rfl HD.out (by decide) HLC.out ?_)
                intro v5 w5 hm5 hnil5
                have hm5 : MineK encA 2 25 w2.heap.size w2 w5 v5 (ys.take m ++ ((x, y) :: ys.drop m)) := hm5
                have hv5 : ∃ g5 c5, v5 = .slice (some ⟨g5, 0, none⟩) (ys.take m ++ ((x, y) :: ys.drop m)).length c5 := by
                  rcases hm5.row.2 with ⟨_, h0⟩ | ⟨g5, c5, cur, h1, _⟩
                  · simp at h0
                  · exact ⟨g5, c5, h1⟩
                obtain ⟨g5, c5, hv5⟩ := hv5
                have HM5 := Lib.hid hm5
                have HV5 := Lib.hid hv5
                clear hm5 hnil5 hv5
                go_wp2_with fail
                go_roundw
                case rel => exact ⟨k + 1, g5, c5, ys.take m ++ ((x, y) :: ys.drop m), by omega, by go_num, HV5.out, by rw [List.length_append, List.length_cons, htl, hdl]; omega, by rw [take_snoc HX.out]; exact insert_sorted HSO.out hm HNO.out HBH.out HFR.out, by rw [← HV5.out]; exact mine_lift HM2.out HM5.out⟩
                case measure => simp [intOf]; omega
    · have hkn : k = n := by omega
      subst hkn
      go_wp2
      go_ret
      have hs := HSO.out
      rw [List.take_of_length_le (by rw [HN.out]; exact Nat.le_refl _)] at hs
      exact ⟨_, ys, rfl, hs, HMI.out.own, HMI.out.below⟩
end Go.Proofs.Ytojpbdhkcpfeaaa
