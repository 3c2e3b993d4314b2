/- Helper contracts: isRoot, hasValidNodes, hasValidOpen and IsBuilder of the program. Asked: the builder lies in memory as named. -/
import Derived.Test.YtjiogmbiiojhgaaAddS
import Derived.Test.YtjiogmbiiojhgaaBdV
import Derived.Test.YtjiogmbiiojhgaaEqn
import Derived.BigQuiet
import Derived.Deep.RegionWith
import Derived.Deep.CutRange
namespace Go.Proofs.Ytjiogmbiiojhgaa
open Go.ChangeShapes Go.WideShapes Go.ChangeAt Go.RowKit

def rootB (x : Nd) : Bool := (x.name.toList == [112, 97, 103, 101]) && decide (x.text.size = 0) && decide (x.parent = -1) && decide (x.attrs = [])
theorem attrs_n {hi n c : Nat} {w : World} {a : Option Addr} {ats : List At} (h : ReadsK encA 2 hi w (.slice a n c) ats) : ats.length = n := by
  obtain ⟨_, _, e, _⟩ := h
  cases e; rfl
theorem root_impl (g o : Nat) (nm tx : ByteArray) (pa : Int) (ats : List At) (a : Option Addr) (n c : Nat) (w : World) (c0 : w.cell? ⟨g, o, none⟩ = some (.string nm)) (c1 : w.cell? ⟨g, o + 1, none⟩ = some (.string tx)) (c2 : w.cell? ⟨g, o + 2, none⟩ = some (.int .i64 pa)) (c3 : w.cell? ⟨g, o + 3, none⟩ = some (.slice a n c)) (hn : ats.length = n) :
    Calls Try.prog 64 #[.pointer (some ⟨g, o, none⟩)] w fun e w' => e = .returned (.bool (rootB ⟨nm, tx, pa, ats⟩)) ∧ w' = w := by
  unfold rootB
  rw [nil_size]
  dsimp only
  rw [hn, ← emp_size]
  clear hn
  cases h1 : (nm.toList == [112, 97, 103, 101]) with
  | false =>
    rw [Bool.false_and, Bool.false_and, Bool.false_and]
    go_enter Try.func64, Try.ntmps64
    go_wp2
    go_ret
    exact ⟨rfl, rfl⟩
  | true =>
    cases h2 : (tx.toList == ([] : List UInt8)) with
    | false =>
      rw [Bool.true_and, Bool.false_and, Bool.false_and]
      go_enter Try.func64, Try.ntmps64
      go_wp2
      go_ret
      exact ⟨rfl, rfl⟩
    | true =>
      by_cases h3 : pa = -1
      · have e3 : (pa == -1) = true := beq_iff_eq.2 h3
        rw [decide_eq_true h3, Bool.true_and, Bool.true_and]
        clear h3
        by_cases h4 : n = 0
        · subst h4
          go_enter Try.func64, Try.ntmps64
          go_wp2
          go_ret
          exact ⟨rfl, rfl⟩
        · have e4 : ((n : Int) == 0) = false := beq_eq_false_iff_ne.2 (by omega)
          rw [decide_eq_false h4, Bool.and_false]
          clear h4
          go_enter Try.func64, Try.ntmps64
          go_wp2
          go_ret
          exact ⟨rfl, rfl⟩
      · have e3 : (pa == -1) = false := beq_eq_false_iff_ne.2 h3
        rw [decide_eq_false h3, Bool.and_false, Bool.false_and]
        clear h3
        go_enter Try.func64, Try.ntmps64
        go_wp2
        go_ret
        exact ⟨rfl, rfl⟩

def goodN (x : Nd) : Bool := (if x.name.size = 0 then decide (x.text.size ≠ 0) && decide (x.attrs = []) else isNm x.name && decide (x.text.size = 0))
/-- What makes a node an element or a text, as the program asks it. -/
theorem goodN_eq (nm tx : ByteArray) (pa : Int) (ats : List At) (n : Nat) (hn : ats.length = n) : goodN ⟨nm, tx, pa, ats⟩ = ((isNm nm && decide (tx.size = 0)) || (decide (nm.size = 0) && (decide (tx.size ≠ 0) && decide (n = 0)))) := by
  unfold goodN
  rw [nil_size]
  dsimp only
  rw [hn]
  by_cases h : nm.size = 0
  · have : isNm nm = false := by cases e : isNm nm; rfl; have := isNm_pos e; omega
    rw [if_pos h, this, decide_eq_true h]; simp
  · rw [if_neg h, decide_eq_false h]; simp
theorem okNode_at {ns : List Nd} {i : Nat} {x : Nd} (h : ns[i]? = some x) : okNode ns i = (decide (x.parent < (i : Int)) && canOpen ns x.parent && goodN x) := by
  unfold okNode; rw [h]; rfl
theorem canOpen_at {ns : List Nd} {j : Nat} {x : Nd} (h : ns[j]? = some x) : canOpen ns (j : Int) = (decide (x.name.size ≠ 0) && !isVoid x.name) := by
  unfold canOpen; rw [decide_eq_true (by omega), Int.toNat_natCast, h]; rfl
theorem canOpen_out {ns : List Nd} {z : Int} (h : z < 0 ∨ (ns.length : Int) ≤ z) : canOpen ns z = false := by
  unfold canOpen
  by_cases hz : 0 ≤ z
  · rw [List.getElem?_eq_none (by omega)]; simp
  · rw [decide_eq_false hz, Bool.false_and]

set_option maxRecDepth 100000 in
set_option maxHeartbeats 4000000 in
theorem nodes_impl (b : Nat) (nv : Value) (ns : List Nv) (hi : Nat) (w : World) (hr : ReadN hi w nv ns) (c0 : w.cell? ⟨b, 0, none⟩ = some nv) (hok : ∀ p ∈ ns, p.1.name.size ≤ 9223372036854775807) :
    Calls Try.prog 65 #[.pointer (some ⟨b, 0, none⟩)] w fun e w' => e = .returned (.bool (allFrom (okNode (ns.map Prod.fst)) ns.length)) ∧ w' = w := by
  obtain ⟨na, nc, rfl, hc1, hc2⟩ := hr.form
  obtain ⟨n, hn⟩ : ∃ n, ns.length = n := ⟨_, rfl⟩
  rw [hn] at hr c0 hc1 ⊢
  obtain ⟨NS, hNS⟩ : ∃ l, ns.map Prod.fst = l := ⟨_, rfl⟩
  have hnl : NS.length = n := by rw [← hNS, List.length_map, hn]
  rw [hNS]
  obtain ⟨D, hD⟩ : ∃ D, allFrom (okNode NS) n = D := ⟨_, rfl⟩
  rw [hD]
  have HD := Lib.hid hD; have HR := Lib.hid hr; have HN := Lib.hid hn; have HNS := Lib.hid hNS; have HNL := Lib.hid hnl; have HOK := Lib.hid hok
  clear hr hn hNS hnl hD hok
  go_enter Try.func65, Try.ntmps65
  go_wp2
  go_loopw [3] (fun i wr => ∃ (k : Nat), 1 ≤ k ∧ (k ≤ n ∨ k = 1) ∧ i = .int .i64 k ∧ (∀ i, 1 ≤ i → i < k → okNode NS i = true) ∧ wr = w)
    (fun i _ => n - (intOf i).toNat)
  case atStart => exact ⟨1, Nat.le_refl _, Or.inr rfl, rfl, fun i h1 h2 => by omega, rfl⟩
  case round =>
    obtain ⟨k, hk1, hk, rfl, hpre, rfl⟩ := hrel
    have HP := Lib.hid hpre; clear hpre
    by_cases hlt : (k : Int) < (n : Int)
    · obtain ⟨p, hp⟩ := nd_at (ns := ns) (k := k) (by rw [HN.out]; omega)
      obtain ⟨g, off, rfl, hg, n0, n1, n2, n3⟩ := HR.out.at hp
      have hat : p.1.attrs.length = p.2.2.1 := attrs_n (a := p.2.1) (c := p.2.2.2) (HR.out.2 p (List.mem_of_getElem? hp))
      have hpn := map_fst_at HNS.out hp
      have hnm := HOK.out p (List.mem_of_getElem? hp)
      obtain ⟨⟨⟨nm, tx, pa, ats⟩, ⟨sa, sn, sc⟩⟩, rfl⟩ : ∃ q : Nv, p = q := ⟨p, rfl⟩
      replace n0 : _ = some (Value.string nm) := n0
      replace n1 : _ = some (Value.string tx) := n1
      replace n2 : _ = some (Value.int .i64 pa) := n2
      replace n3 : _ = some (Value.slice sa sn sc) := n3
      replace hat : ats.length = sn := hat
      have HNA := Lib.hid (nodeAt_in b g off n nc k wr c0 (by omega) (by omega))
      have hok := okNode_at hpn
      dsimp only at hok
      have HVE := Lib.hid (vel_any g (off + k * 4) nm tx wr n0 n1 hnm)
      have HVT := Lib.hid (vtx_any g (off + k * 4) nm tx sa sn sc wr n0 n1 n3)
      rw [goodN_eq nm tx pa ats sn hat] at hok
      have HOK2 := Lib.hid hok
      clear hok hpn hp hat hnm n0 n1 n3
      -- no good node: the answer
      have HBAD := Lib.hid (fun (h : okNode NS k = false) => show D = false by
        rw [← HD.out]
        cases e : allFrom (okNode NS) n
        · rfl
        · have := (allFrom_iff _ n).1 e k hk1 (by omega)
          rw [h] at this; cases this)
      by_cases h1 : (k : Int) ≤ pa
      · have HDF := Lib.hid (HBAD.out (by rw [HOK2.out, decide_eq_false (show ¬ pa < (k : Int) by omega)]; rfl))
        go_wp2_with (first | (go_at_call 62; refine HNA.out.mono ?_; rintro e w' ⟨rfl, rfl⟩))
        go_ret
        exact ⟨ret_b HDF.out.symm, rfl⟩
      · have hd1 : decide ((k : Int) ≤ pa) = false := decide_eq_false h1
        -- the parent
        obtain ⟨cv, hcv⟩ : ∃ v, canOpen NS pa = v := ⟨_, rfl⟩
        have HCB : ∃ pv : Option Addr, RowKit.Hid (Calls Try.prog 62 #[.pointer (some ⟨b, 0, none⟩), .int .i64 pa] wr fun e w' => e = .returned (.pointer pv) ∧ w' = wr) ∧ RowKit.Hid (Calls Try.prog 101 #[.pointer pv] wr fun e w' => e = .returned (.bool cv) ∧ w' = wr) := by
          by_cases hin : 0 ≤ pa
          · obtain ⟨j, rfl⟩ : ∃ j : Nat, pa = j := ⟨pa.toNat, by omega⟩
            obtain ⟨q, hq⟩ := nd_at (ns := ns) (k := j) (by rw [HN.out]; omega)
            obtain ⟨g', off', e', _, m0, _⟩ := HR.out.at hq
            cases e'
            refine ⟨_, Lib.hid (nodeAt_in b g off n nc j wr c0 (by omega) (by omega)), Lib.hid ?_⟩
            rw [← hcv, canOpen_at (map_fst_at HNS.out hq)]
            exact can_some g (off + j * 4) q.1.name wr m0
          · refine ⟨none, Lib.hid (nodeAt_out b n nc _ pa wr c0 (Or.inl (by omega)) (by omega)), Lib.hid ?_⟩
            rw [← hcv, canOpen_out (Or.inl (by omega))]
            exact can_none wr
        obtain ⟨pv, HN2, HCO⟩ := HCB
        rw [hcv, decide_eq_true (show pa < (k : Int) by omega), Bool.true_and] at HOK2
        clear hcv
        cases cv with
        | false =>
          have HDF := Lib.hid (HBAD.out (by rw [HOK2.out]; rfl))
          go_wp2_with (first | (go_at_call 62; with_reducible refine HNA.out.mono ?_; rintro e w' ⟨rfl, rfl⟩) | (go_at_call 62; with_reducible refine HN2.out.mono ?_; rintro e w' ⟨rfl, rfl⟩) | (go_at_call 101; refine HCO.out.mono ?_; rintro e w' ⟨rfl, rfl⟩))
          go_ret
          exact ⟨ret_b HDF.out.symm, rfl⟩
        | true =>
          rw [Bool.true_and] at HOK2
          obtain ⟨v1, hv1⟩ : ∃ v, (isNm nm && decide (tx.size = 0)) = v := ⟨_, rfl⟩
          obtain ⟨v2, hv2⟩ : ∃ v, (decide (nm.size = 0) && (decide (tx.size ≠ 0) && decide (sn = 0))) = v := ⟨_, rfl⟩
          rw [hv1] at HVE; rw [hv2] at HVT; rw [hv1, hv2] at HOK2
          clear hv1 hv2
          cases v1 with
          | true =>
            have HPN := Lib.hid (show ∀ i, 1 ≤ i → i < k + 1 → okNode NS i = true from fun i h1 h2 => by
              by_cases e : i = k
              · rw [e, HOK2.out]; rfl
              · exact HP.out i h1 (by omega))
            go_wp2_with (first | (go_at_call 62; with_reducible refine HNA.out.mono ?_; rintro e w' ⟨rfl, rfl⟩) | (go_at_call 62; with_reducible refine HN2.out.mono ?_; rintro e w' ⟨rfl, rfl⟩) | (go_at_call 101; refine HCO.out.mono ?_; rintro e w' ⟨rfl, rfl⟩) | (go_at_call 102; refine HVE.out.mono ?_; rintro e w' ⟨rfl, rfl⟩))
            go_roundw
            case rel => exact ⟨k + 1, by omega, by omega, by go_num, HPN.out, by first | trivial | rfl⟩
            case measure => simp [intOf]; omega
          | false =>
            cases v2 with
            | true =>
              have HPN := Lib.hid (show ∀ i, 1 ≤ i → i < k + 1 → okNode NS i = true from fun i h1 h2 => by
                by_cases e : i = k
                · rw [e, HOK2.out]; rfl
                · exact HP.out i h1 (by omega))
              go_wp2_with (first | (go_at_call 62; with_reducible refine HNA.out.mono ?_; rintro e w' ⟨rfl, rfl⟩) | (go_at_call 62; with_reducible refine HN2.out.mono ?_; rintro e w' ⟨rfl, rfl⟩) | (go_at_call 101; refine HCO.out.mono ?_; rintro e w' ⟨rfl, rfl⟩) | (go_at_call 102; refine HVE.out.mono ?_; rintro e w' ⟨rfl, rfl⟩) | (go_at_call 103; refine HVT.out.mono ?_; rintro e w' ⟨rfl, rfl⟩))
              go_roundw
              case rel => exact ⟨k + 1, by omega, by omega, by go_num, HPN.out, by first | trivial | rfl⟩
              case measure => simp [intOf]; omega
            | false =>
              have HDF := Lib.hid (HBAD.out (by rw [HOK2.out]; rfl))
              go_wp2_with (first | (go_at_call 62; with_reducible refine HNA.out.mono ?_; rintro e w' ⟨rfl, rfl⟩) | (go_at_call 62; with_reducible refine HN2.out.mono ?_; rintro e w' ⟨rfl, rfl⟩) | (go_at_call 101; refine HCO.out.mono ?_; rintro e w' ⟨rfl, rfl⟩) | (go_at_call 102; refine HVE.out.mono ?_; rintro e w' ⟨rfl, rfl⟩) | (go_at_call 103; refine HVT.out.mono ?_; rintro e w' ⟨rfl, rfl⟩))
              go_ret
              exact ⟨ret_b HDF.out.symm, rfl⟩
    · have HDT := Lib.hid (show D = true by
        rw [← HD.out]
        exact (allFrom_iff _ n).2 fun i h1 h2 => HP.out i h1 (by omega))
      go_wp2
      go_ret
      exact ⟨ret_b HDT.out.symm, rfl⟩
end Go.Proofs.Ytjiogmbiiojhgaa
