/- Helper contracts: ColorAt of the model and of the program answer alike. Asked: the sheets and the builder lie in memory as named. -/
import Derived.Test.YtmlmiclgledcpaaColM
import Derived.Test.YtmlmiclgledcpaaRowS
import Derived.Test.YtmlmiclgledcpaaCnt
import Derived.Test.YtmlmiclgledcpaaAdd0
namespace Go.Proofs.Ytmlmiclgledcpaa
open Go.ChangeShapes Go.WideShapes Go.ChangeAt Go.RowKit Go.Maps

/-- The color of node n, or of the next node above it that has one: k nodes are looked at. -/
def colAt (rs : List Ru) (ns : List Nd) : Nat → Int → Int
  | 0, _ => 0
  | k + 1, n => if 0 ≤ n ∧ n < (ns.length : Int) then
      match ns[n.toNat]? with
      | some x => if colOf rs x.name ≠ 0 then colOf rs x.name else colAt rs ns k x.parent
      | none => 0
    else 0
theorem colAt_out {rs : List Ru} {ns : List Nd} {k : Nat} {n : Int} (h : n < 0 ∨ (ns.length : Int) ≤ n) : colAt rs ns k n = 0 := by
  cases k with
  | zero => rfl
  | succ k => rw [colAt, if_neg (by omega)]
theorem colAt_in {rs : List Ru} {ns : List Nd} {k j : Nat} {x : Nd} (h : ns[j]? = some x) : colAt rs ns (k + 1) (j : Int) = if colOf rs x.name ≠ 0 then colOf rs x.name else colAt rs ns k x.parent := by
  have hj := (List.getElem?_eq_some_iff.1 h).1
  rw [colAt, if_pos (by omega), Int.toNat_natCast, h]

set_option maxRecDepth 100000 in
set_option maxHeartbeats 4000000 in
theorem colorAt_spec (v nv ov : Value) (ss : List Shv) (b : Bd) (z : Int) (w : World) (h : ReadH w.heap.size w v ss) (hs : ShsOk ss) (hb : BdIn w.heap.size w nv ov b) :
    Calls Try.prog 33 #[v, .agg #[nv, ov], .int .i64 z] w fun e w' => e = .returned (.int .i64 (colAt (flatR ss) b.nodes 40 z)) ∧ Below w.heap.size w w' := by
  obtain ⟨a, cap, rfl, hc1, hc2⟩ := h.form
  obtain ⟨ns, hns, hrn, hro⟩ := hb
  obtain ⟨na, nc, rfl, hd1, hd2⟩ := hrn.form
  obtain ⟨oa, oc, rfl, _⟩ := reads_form hro
  obtain ⟨n, hn⟩ : ∃ n, ns.length = n := ⟨_, rfl⟩
  obtain ⟨on, hon⟩ : ∃ n, b.opn.length = n := ⟨_, rfl⟩
  rw [hn] at hrn hd1 ⊢; rw [hon]
  have hnl : b.nodes.length = n := by rw [← hns, List.length_map, hn]
  obtain ⟨C, hC⟩ : ∃ C, colAt (flatR ss) b.nodes 40 z = C := ⟨_, rfl⟩
  rw [hC]
  obtain ⟨W, hW⟩ : ∃ W, w.alloc (.cells #[.slice na n nc, .slice oa on oc] 27) = W := ⟨_, rfl⟩
  have hbw : Below w.heap.size w W := by rw [← hW]; exact (Below.refl _ _).alloc (Nat.le_refl _) _
  have q0 : W.cell? ⟨w.heap.size, 0, none⟩ = some (.slice na n nc) := by rw [← hW]; simp
  have HCO := Lib.hid (fun nm => colorOf_spec _ ss nm W (h.up hbw) (Nat.le_trans hs.len (by decide)) hs.each)
  have HRN := Lib.hid (hrn.below hbw (Nat.le_refl _)); have HNS := Lib.hid hns; have HN := Lib.hid hn; have HNL := Lib.hid hnl; have HC := Lib.hid hC; have HB := Lib.hid hbw; have HW := Lib.hid hW
  clear h hrn hro hns hn hon hnl hC hbw hW
  go_enter Try.func33, Try.ntmps33
  go_wp2
  rw [HW.out]
  go_loopw [7, 2] (fun i q wr => ∃ (j : Nat) (y : Int), j ≤ 40 ∧ i = .int .i64 j ∧ q = .int .i64 y ∧ colAt (flatR ss) b.nodes (40 - j) y = C ∧ W = wr)
    (fun i _ _ => 40 - (intOf i).toNat)
  case atStart => exact ⟨0, z, by omega, rfl, rfl, HC.out, rfl⟩
  case round =>
    obtain ⟨j, y, hj, rfl, rfl, hcj, rfl⟩ := hrel
    have HCJ := Lib.hid hcj; clear hcj
    by_cases hlt : (j : Int) < 40
    · have hlt2 : decide ((j : Int) < 40) = true := decide_eq_true hlt
      by_cases hin : 0 ≤ y ∧ y < (n : Int)
      · obtain ⟨k, rfl⟩ : ∃ k : Nat, y = (k : Int) := ⟨y.toNat, by omega⟩
        have hkn : k < n := by omega
        have hib : inB (k : Int) 0 ((n : Int) - 1) = true := inB_yes (by omega) (by omega)
        obtain ⟨p, hp⟩ := nd_at (ns := ns) (k := k) (by rw [HN.out]; omega)
        obtain ⟨g, off, rfl, hg, c0, c1, c2, c3⟩ := HRN.out.at hp
        have hpn := map_fst_at HNS.out hp
        obtain ⟨⟨nm, tx, pa, ats⟩, ⟨sa, sn, sc⟩⟩ := p
        replace c0 : W.cell? ⟨g, off + k * 4, none⟩ = some (.string nm) := c0
        replace c2 : W.cell? ⟨g, off + k * 4 + 2, none⟩ = some (.int .i64 pa) := c2
        clear c1 c3
        obtain ⟨c, hc⟩ : ∃ c, colOf (flatR ss) nm = c := ⟨_, rfl⟩
        have HX := Lib.hid (show (if c ≠ 0 then c else colAt (flatR ss) b.nodes (40 - (j + 1)) pa) = C by
          have h1 := HCJ.out
          rw [show 40 - j = (40 - (j + 1)) + 1 by omega, colAt_in hpn] at h1
          rw [← hc]; exact h1)
        have HCN := Lib.hid (show Calls Try.prog 28 #[.slice a ss.length cap, .string nm] W fun e w' => e = .returned (.int .i64 c) ∧ W = w' from by rw [← hc]; exact HCO.out nm)
        clear hp hpn hc hin
        by_cases h0 : c = 0
        · subst h0
          have HY := Lib.hid (show colAt (flatR ss) b.nodes (40 - (j + 1)) pa = C by have := HX.out; rwa [if_neg (by simp)] at this)
          go_wp2_with (first | (go_at_call 64; refine (lin_any _ _ _ _).mono ?_; rintro e w' ⟨rfl, rfl⟩) | (go_at_call 28; refine HCN.out.mono ?_; rintro e w' ⟨rfl, rfl⟩))
          go_roundw
          case rel => exact ⟨j + 1, pa, by omega, by go_num, rfl, HY.out, by first | trivial | rfl⟩
          case measure => simp [intOf]; omega
        · have HY := Lib.hid (show c = C by have := HX.out; rwa [if_pos h0] at this)
          have hc0 : (c == 0) = false := beq_eq_false_iff_ne.2 h0; have hc1 : (c != 0) = true := by rw [bne, hc0]; rfl
          go_wp2_with (first | (go_at_call 64; refine (lin_any _ _ _ _).mono ?_; rintro e w' ⟨rfl, rfl⟩) | (go_at_call 28; refine HCN.out.mono ?_; rintro e w' ⟨rfl, rfl⟩))
          go_ret
          exact ⟨by rw [HY.out]; rfl, HB.out⟩
      · have hib : inB y 0 ((n : Int) - 1) = false := inB_no (by omega)
        have HY := Lib.hid (show (0 : Int) = C by rw [← HCJ.out, colAt_out (by rw [HNL.out]; omega)])
        clear hin
        go_wp2_with (go_at_call 64; refine (lin_any _ _ _ _).mono ?_; rintro e w' ⟨rfl, rfl⟩)
        go_ret
        exact ⟨by rw [← HY.out]; rfl, HB.out⟩
    · have hj40 : j = 40 := by omega
      subst hj40
      have HY := Lib.hid (show (0 : Int) = C from HCJ.out)
      go_wp2_with fail
      go_ret
      exact ⟨by rw [← HY.out]; rfl, HB.out⟩

set_option maxRecDepth 100000 in
set_option maxHeartbeats 4000000 in
theorem colorAt_impl (v nv ov : Value) (ss : List Shv) (b : Bd) (z : Int) (w : World) (h : ReadH w.heap.size w v ss) (hs : ShsOk ss) (hb : BdIn w.heap.size w nv ov b) (hnm : ∀ x ∈ b.nodes, x.name.size ≤ 9223372036854775807) :
    Calls Try.prog 35 #[v, .agg #[nv, ov], .int .i64 z] w fun e w' => e = .returned (.int .i64 (colAt (flatR ss) b.nodes 40 z)) ∧ Below w.heap.size w w' := by
  obtain ⟨a, cap, rfl, hc1, hc2⟩ := h.form
  obtain ⟨ns, hns, hrn, hro⟩ := hb
  obtain ⟨na, nc, rfl, hd1, hd2⟩ := hrn.form
  obtain ⟨oa, oc, rfl, _⟩ := reads_form hro
  obtain ⟨n, hn⟩ : ∃ n, ns.length = n := ⟨_, rfl⟩
  obtain ⟨on, hon⟩ : ∃ n, b.opn.length = n := ⟨_, rfl⟩
  rw [hn] at hrn hd1 ⊢; rw [hon]
  have hnl : b.nodes.length = n := by rw [← hns, List.length_map, hn]
  obtain ⟨C, hC⟩ : ∃ C, colAt (flatR ss) b.nodes 40 z = C := ⟨_, rfl⟩
  rw [hC]
  obtain ⟨W0, hW⟩ : ∃ W, w.alloc (.cells #[.slice na n nc, .slice oa on oc] 27) = W := ⟨_, rfl⟩
  have hbw : Below w.heap.size w W0 := by rw [← hW]; exact (Below.refl _ _).alloc (Nat.le_refl _) _
  have q0 : W0.cell? ⟨w.heap.size, 0, none⟩ = some (.slice na n nc) := by rw [← hW]; simp
  have HCM := Lib.hid (colors_any _ ss W0 (h.up hbw) (Nat.le_trans hs.len (by decide)) hs.each hs.ok (Nat.le_trans hs.tot (by decide)))
  have HR0 := Lib.hid (hrn.below hbw (Nat.le_refl _)); have HNS := Lib.hid hns; have HN := Lib.hid hn; have HNL := Lib.hid hnl; have HC := Lib.hid hC; have HB0 := Lib.hid hbw; have HW := Lib.hid hW; have HNM := Lib.hid hnm
  clear h hrn hro hns hn hon hnl hC hbw hW hnm
  go_enter Try.func35, Try.ntmps35
  go_wp2_with fail
  rw [HW.out]
  refine HCM.out.mono ?_
  rintro e W ⟨rfl, hcol, hb1⟩
  have c00 : W.cell? ⟨w.heap.size, 0, none⟩ = some (.slice na n nc) := (hb1.cell (World.block_lt_of_cell? _ _ q0)).trans q0
  have HCOL := Lib.hid hcol
  have HRN := Lib.hid (HR0.out.below hb1 HB0.out.size)
  have HB := Lib.hid (HB0.out.trans (hb1.mono HB0.out.size))
  clear hcol hb1 q0
  go_wp2_with fail
  go_loopw [12, 2] (fun i q wr => ∃ (j : Nat) (y : Int), j ≤ 40 ∧ i = .int .i64 j ∧ q = .int .i64 y ∧ colAt (flatR ss) b.nodes (40 - j) y = C ∧ W = wr)
    (fun i _ _ => 40 - (intOf i).toNat)
  case atStart => exact ⟨0, z, by omega, rfl, rfl, HC.out, rfl⟩
  case round =>
    obtain ⟨j, y, hj, rfl, rfl, hcj, rfl⟩ := hrel
    have HCJ := Lib.hid hcj; clear hcj
    by_cases hlt : (j : Int) < 40
    · by_cases hin : 0 ≤ y ∧ y < (n : Int)
      · obtain ⟨k, rfl⟩ : ∃ k : Nat, y = (k : Int) := ⟨y.toNat, by omega⟩
        have hkn : k < n := by omega
        obtain ⟨p, hp⟩ := nd_at (ns := ns) (k := k) (by rw [HN.out]; omega)
        obtain ⟨g, off, rfl, hg, c0, c1, c2, c3⟩ := HRN.out.at hp
        have hpn := map_fst_at HNS.out hp
        have HNA := Lib.hid (nodeAt_in w.heap.size g off n nc k W c00 (by omega) (by omega))
        obtain ⟨⟨nm, tx, pa, ats⟩, ⟨sa, sn, sc⟩⟩ := p
        replace c0 : W.cell? ⟨g, off + k * 4, none⟩ = some (.string nm) := c0
        replace c2 : W.cell? ⟨g, off + k * 4 + 2, none⟩ = some (.int .i64 pa) := c2
        have hkey : keyOf Try.prog 9 (.string nm) = some (keyS nm) := keyS_of (HNM.out _ (List.mem_of_getElem? hpn))
        clear c1 c3
        obtain ⟨c, hc⟩ : ∃ c, colOf (flatR ss) nm = c := ⟨_, rfl⟩
        have HX := Lib.hid (show (if c ≠ 0 then c else colAt (flatR ss) b.nodes (40 - (j + 1)) pa) = C by
          have h1 := HCJ.out
          rw [show 40 - j = (40 - (j + 1)) + 1 by omega, colAt_in hpn] at h1
          rw [← hc]; exact h1)
        have HAT := Lib.hid (show (colD (flatR ss)).atKey (keyS nm) (numS 0) = numS c by rw [← hc]; exact colD_at _ _)
        clear hp hpn hc hin
        by_cases h0 : c = 0
        · subst h0
          have HY := Lib.hid (show colAt (flatR ss) b.nodes (40 - (j + 1)) pa = C by have := HX.out; rwa [if_neg (by simp)] at this)
          go_wp2_with (first | (go_at_call 59; refine HNA.out.mono ?_; rintro e w' ⟨rfl, rfl⟩) | (at_lookup; refine wpList_lookup_own_int _ rfl _ _ 106 rfl 9 3 .i64 lawStr Try.underlying106 Try.underlying3 (zeroInt _) _ _ _ rfl HCOL.out _ _ rfl hkey ?_; intro c hat hwc; obtain rfl := numS_inj (HAT.out.symm.trans hat)))
          go_roundw
          case rel => exact ⟨j + 1, pa, by omega, by go_num, rfl, HY.out, by first | trivial | rfl⟩
          case measure => simp [intOf]; omega
        · have HY := Lib.hid (show c = C by have := HX.out; rwa [if_pos h0] at this)
          have hc0 : (c == 0) = false := beq_eq_false_iff_ne.2 h0; have hc1 : (c != 0) = true := by rw [bne, hc0]; rfl
          go_wp2_with (first | (go_at_call 59; refine HNA.out.mono ?_; rintro e w' ⟨rfl, rfl⟩) | (at_lookup; refine wpList_lookup_own_int _ rfl _ _ 106 rfl 9 3 .i64 lawStr Try.underlying106 Try.underlying3 (zeroInt _) _ _ _ rfl HCOL.out _ _ rfl hkey ?_; intro c' hat hwc; obtain rfl := numS_inj (HAT.out.symm.trans hat)))
          go_ret
          exact ⟨by rw [HY.out]; rfl, HB.out⟩
      · have HNA := Lib.hid (nodeAt_out w.heap.size n nc na y W c00 (by omega) (by omega))
        have HY := Lib.hid (show (0 : Int) = C by rw [← HCJ.out, colAt_out (by rw [HNL.out]; omega)])
        clear hin
        go_wp2_with (go_at_call 59; refine HNA.out.mono ?_; rintro e w' ⟨rfl, rfl⟩)
        go_ret
        exact ⟨by rw [← HY.out]; rfl, HB.out⟩
    · have hj40 : j = 40 := by omega
      subst hj40
      have HY := Lib.hid (show (0 : Int) = C from HCJ.out)
      go_wp2_with fail
      go_ret
      exact ⟨by rw [← HY.out]; rfl, HB.out⟩
end Go.Proofs.Ytmlmiclgledcpaa
