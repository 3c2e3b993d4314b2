/- 5 texts in one. -/
import Derived.Test.YtiginllbfjekeaaAddS
import Derived.Test.YtiginllbfjekeaaBdV
import Derived.Test.YtiginllbfjekeaaDrwAll
import Derived.BigQuiet
import Derived.Deep.RegionWith
import Derived.Deep.CutRange
import Derived.Shelf.SlSortCmp.QuietGrown
namespace Go.Proofs.Ytiginllbfjekeaa
/- IsBd -/
open Go.ChangeShapes Go.WideShapes Go.ChangeAt Go.RowKit

def rootB (x : Nd) : Bool := (x.name.toList == [112, 97, 103, 101]) && decide (x.text.size = 0) && decide (x.parent = -1) && decide (x.attrs = [])
theorem attrs_n {hi n c : Nat} {w : World} {a : Option Addr} {ats : List At} (h : ReadsK encA 2 hi w (.slice a n c) ats) : ats.length = n := by
  obtain ⟨_, _, e, _⟩ := h
  cases e; rfl
theorem root_impl (g o : Nat) (nm tx : ByteArray) (pa : Int) (ats : List At) (a : Option Addr) (n c : Nat) (w : World) (c0 : w.cell? ⟨g, o, none⟩ = some (.string nm)) (c1 : w.cell? ⟨g, o + 1, none⟩ = some (.string tx)) (c2 : w.cell? ⟨g, o + 2, none⟩ = some (.int .i64 pa)) (c3 : w.cell? ⟨g, o + 3, none⟩ = some (.slice a n c)) (hn : ats.length = n) :
    Calls Try.prog 37 #[.pointer (some ⟨g, o, none⟩)] w fun e w' => e = .returned (.bool (rootB ⟨nm, tx, pa, ats⟩)) ∧ w' = w := by
  unfold rootB
  rw [nil_size]
  dsimp only
  rw [hn, ← emp_size]
  clear hn
  cases h1 : (nm.toList == [112, 97, 103, 101]) with
  | false =>
    rw [Bool.false_and, Bool.false_and, Bool.false_and]
    go_enter Try.func37, Try.ntmps37
    go_wp2
    go_ret
    exact ⟨rfl, rfl⟩
  | true =>
    cases h2 : (tx.toList == ([] : List UInt8)) with
    | false =>
      rw [Bool.true_and, Bool.false_and, Bool.false_and]
      go_enter Try.func37, Try.ntmps37
      go_wp2
      go_ret
      exact ⟨rfl, rfl⟩
    | true =>
      by_cases h3 : pa = -1
      · have e3 : (pa == -1) = true := beq_iff_eq.2 h3
        rw [decide_eq_true h3, Bool.true_and, Bool.true_and]
        clear h3
        by_cases h4 : n = 0
        · subst h4
          go_enter Try.func37, Try.ntmps37
          go_wp2
          go_ret
          exact ⟨rfl, rfl⟩
        · have e4 : ((n : Int) == 0) = false := beq_eq_false_iff_ne.2 (by omega)
          rw [decide_eq_false h4, Bool.and_false]
          clear h4
          go_enter Try.func37, Try.ntmps37
          go_wp2
          go_ret
          exact ⟨rfl, rfl⟩
      · have e3 : (pa == -1) = false := beq_eq_false_iff_ne.2 h3
        rw [decide_eq_false h3, Bool.and_false, Bool.false_and]
        clear h3
        go_enter Try.func37, Try.ntmps37
        go_wp2
        go_ret
        exact ⟨rfl, rfl⟩

def goodN (x : Nd) : Bool := (if x.name.size = 0 then decide (x.text.size ≠ 0) && decide (x.attrs = []) else isNm x.name && decide (x.text.size = 0))
/-- What makes a node an element or a text, as the program asks it. -/
theorem goodN_eq (nm tx : ByteArray) (pa : Int) (ats : List At) (n : Nat) (hn : ats.length = n) : goodN ⟨nm, tx, pa, ats⟩ = ((isNm nm && decide (tx.size = 0)) || (decide (nm.size = 0) && (decide (tx.size ≠ 0) && decide (n = 0)))) := by
  unfold goodN
  rw [nil_size]
  dsimp only
  rw [hn]
  by_cases h : nm.size = 0
  · have : isNm nm = false := by cases e : isNm nm; rfl; have := isNm_pos e; omega
    rw [if_pos h, this, decide_eq_true h]; simp
  · rw [if_neg h, decide_eq_false h]; simp
theorem okNode_at {ns : List Nd} {i : Nat} {x : Nd} (h : ns[i]? = some x) : okNode ns i = (decide (x.parent < (i : Int)) && canOpen ns x.parent && goodN x) := by
  unfold okNode; rw [h]; rfl
theorem canOpen_at {ns : List Nd} {j : Nat} {x : Nd} (h : ns[j]? = some x) : canOpen ns (j : Int) = (decide (x.name.size ≠ 0) && !isVoid x.name) := by
  unfold canOpen; rw [decide_eq_true (by omega), Int.toNat_natCast, h]; rfl
theorem canOpen_out {ns : List Nd} {z : Int} (h : z < 0 ∨ (ns.length : Int) ≤ z) : canOpen ns z = false := by
  unfold canOpen
  by_cases hz : 0 ≤ z
  · rw [List.getElem?_eq_none (by omega)]; simp
  · rw [decide_eq_false hz, Bool.false_and]

set_option maxRecDepth 100000 in
set_option maxHeartbeats 4000000 in
theorem nodes_impl (b : Nat) (nv : Value) (ns : List Nv) (hi : Nat) (w : World) (hr : ReadN hi w nv ns) (c0 : w.cell? ⟨b, 0, none⟩ = some nv) (hok : ∀ p ∈ ns, p.1.name.size ≤ 9223372036854775807) :
    Calls Try.prog 38 #[.pointer (some ⟨b, 0, none⟩)] w fun e w' => e = .returned (.bool (allFrom (okNode (ns.map Prod.fst)) ns.length)) ∧ w' = w := by
  obtain ⟨na, nc, rfl, hc1, hc2⟩ := hr.form
  obtain ⟨n, hn⟩ : ∃ n, ns.length = n := ⟨_, rfl⟩
  rw [hn] at hr c0 hc1 ⊢
  obtain ⟨NS, hNS⟩ : ∃ l, ns.map Prod.fst = l := ⟨_, rfl⟩
  have hnl : NS.length = n := by rw [← hNS, List.length_map, hn]
  rw [hNS]
  obtain ⟨D, hD⟩ : ∃ D, allFrom (okNode NS) n = D := ⟨_, rfl⟩
  rw [hD]
  have HD := Lib.hid hD; have HR := Lib.hid hr; have HN := Lib.hid hn; have HNS := Lib.hid hNS; have HNL := Lib.hid hnl; have HOK := Lib.hid hok
  clear hr hn hNS hnl hD hok
  go_enter Try.func38, Try.ntmps38
  go_wp2
  go_loopw [3] (fun i wr => ∃ (k : Nat), 1 ≤ k ∧ (k ≤ n ∨ k = 1) ∧ i = .int .i64 k ∧ (∀ i, 1 ≤ i → i < k → okNode NS i = true) ∧ wr = w)
    (fun i _ => n - (intOf i).toNat)
  case atStart => exact ⟨1, Nat.le_refl _, Or.inr rfl, rfl, fun i h1 h2 => by omega, rfl⟩
  case round =>
    obtain ⟨k, hk1, hk, rfl, hpre, rfl⟩ := hrel
    have HP := Lib.hid hpre; clear hpre
    by_cases hlt : (k : Int) < (n : Int)
    · obtain ⟨p, hp⟩ := nd_at (ns := ns) (k := k) (by rw [HN.out]; omega)
      obtain ⟨g, off, rfl, hg, n0, n1, n2, n3⟩ := HR.out.at hp
      have hat : p.1.attrs.length = p.2.2.1 := attrs_n (a := p.2.1) (c := p.2.2.2) (HR.out.2 p (List.mem_of_getElem? hp))
      have hpn := map_fst_at HNS.out hp
      have hnm := HOK.out p (List.mem_of_getElem? hp)
      obtain ⟨⟨⟨nm, tx, pa, ats⟩, ⟨sa, sn, sc⟩⟩, rfl⟩ : ∃ q : Nv, p = q := ⟨p, rfl⟩
      replace n0 : _ = some (Value.string nm) := n0
      replace n1 : _ = some (Value.string tx) := n1
      replace n2 : _ = some (Value.int .i64 pa) := n2
      replace n3 : _ = some (Value.slice sa sn sc) := n3
      replace hat : ats.length = sn := hat
      have HNA := Lib.hid (nodeAt_in b g off n nc k wr c0 (by omega) (by omega))
      have hok := okNode_at hpn
      dsimp only at hok
      have HVE := Lib.hid (vel_any g (off + k * 4) nm tx wr n0 n1 hnm)
      have HVT := Lib.hid (vtx_any g (off + k * 4) nm tx sa sn sc wr n0 n1 n3)
      rw [goodN_eq nm tx pa ats sn hat] at hok
      have HOK2 := Lib.hid hok
      clear hok hpn hp hat hnm n0 n1 n3
      -- no good node: the answer
      have HBAD := Lib.hid (fun (h : okNode NS k = false) => show D = false by
        rw [← HD.out]
        cases e : allFrom (okNode NS) n
        · rfl
        · have := (allFrom_iff _ n).1 e k hk1 (by omega)
          rw [h] at this; cases this)
      by_cases h1 : (k : Int) ≤ pa
      · have HDF := Lib.hid (HBAD.out (by rw [HOK2.out, decide_eq_false (show ¬ pa < (k : Int) by omega)]; rfl))
        go_wp2_with (first | (go_at_call 35; refine HNA.out.mono ?_; rintro e w' ⟨rfl, rfl⟩))
        go_ret
        exact ⟨ret_b HDF.out.symm, rfl⟩
      · have hd1 : decide ((k : Int) ≤ pa) = false := decide_eq_false h1
        -- the parent
        obtain ⟨cv, hcv⟩ : ∃ v, canOpen NS pa = v := ⟨_, rfl⟩
        have HCB : ∃ pv : Option Addr, RowKit.Hid (Calls Try.prog 35 #[.pointer (some ⟨b, 0, none⟩), .int .i64 pa] wr fun e w' => e = .returned (.pointer pv) ∧ w' = wr) ∧ RowKit.Hid (Calls Try.prog 59 #[.pointer pv] wr fun e w' => e = .returned (.bool cv) ∧ w' = wr) := by
          by_cases hin : 0 ≤ pa
          · obtain ⟨j, rfl⟩ : ∃ j : Nat, pa = j := ⟨pa.toNat, by omega⟩
            obtain ⟨q, hq⟩ := nd_at (ns := ns) (k := j) (by rw [HN.out]; omega)
            obtain ⟨g', off', e', _, m0, _⟩ := HR.out.at hq
            cases e'
            refine ⟨_, Lib.hid (nodeAt_in b g off n nc j wr c0 (by omega) (by omega)), Lib.hid ?_⟩
            rw [← hcv, canOpen_at (map_fst_at HNS.out hq)]
            exact can_some g (off + j * 4) q.1.name wr m0
          · refine ⟨none, Lib.hid (nodeAt_out b n nc _ pa wr c0 (Or.inl (by omega)) (by omega)), Lib.hid ?_⟩
            rw [← hcv, canOpen_out (Or.inl (by omega))]
            exact can_none wr
        obtain ⟨pv, HN2, HCO⟩ := HCB
        rw [hcv, decide_eq_true (show pa < (k : Int) by omega), Bool.true_and] at HOK2
        clear hcv
        cases cv with
        | false =>
          have HDF := Lib.hid (HBAD.out (by rw [HOK2.out]; rfl))
          go_wp2_with (first | (go_at_call 35; with_reducible refine HNA.out.mono ?_; rintro e w' ⟨rfl, rfl⟩) | (go_at_call 35; with_reducible refine HN2.out.mono ?_; rintro e w' ⟨rfl, rfl⟩) | (go_at_call 59; refine HCO.out.mono ?_; rintro e w' ⟨rfl, rfl⟩))
          go_ret
          exact ⟨ret_b HDF.out.symm, rfl⟩
        | true =>
          rw [Bool.true_and] at HOK2
          obtain ⟨v1, hv1⟩ : ∃ v, (isNm nm && decide (tx.size = 0)) = v := ⟨_, rfl⟩
          obtain ⟨v2, hv2⟩ : ∃ v, (decide (nm.size = 0) && (decide (tx.size ≠ 0) && decide (sn = 0))) = v := ⟨_, rfl⟩
          rw [hv1] at HVE; rw [hv2] at HVT; rw [hv1, hv2] at HOK2
          clear hv1 hv2
          cases v1 with
          | true =>
            have HPN := Lib.hid (show ∀ i, 1 ≤ i → i < k + 1 → okNode NS i = true from fun i h1 h2 => by
              by_cases e : i = k
              · rw [e, HOK2.out]; rfl
              · exact HP.out i h1 (by omega))
            go_wp2_with (first | (go_at_call 35; with_reducible refine HNA.out.mono ?_; rintro e w' ⟨rfl, rfl⟩) | (go_at_call 35; with_reducible refine HN2.out.mono ?_; rintro e w' ⟨rfl, rfl⟩) | (go_at_call 59; refine HCO.out.mono ?_; rintro e w' ⟨rfl, rfl⟩) | (go_at_call 60; refine HVE.out.mono ?_; rintro e w' ⟨rfl, rfl⟩))
            go_roundw
            case rel => exact ⟨k + 1, by omega, by omega, by go_num, HPN.out, by first | trivial | rfl⟩
            case measure => simp [intOf]; omega
          | false =>
            cases v2 with
            | true =>
              have HPN := Lib.hid (show ∀ i, 1 ≤ i → i < k + 1 → okNode NS i = true from fun i h1 h2 => by
                by_cases e : i = k
                · rw [e, HOK2.out]; rfl
                · exact HP.out i h1 (by omega))
              go_wp2_with (first | (go_at_call 35; with_reducible refine HNA.out.mono ?_; rintro e w' ⟨rfl, rfl⟩) | (go_at_call 35; with_reducible refine HN2.out.mono ?_; rintro e w' ⟨rfl, rfl⟩) | (go_at_call 59; refine HCO.out.mono ?_; rintro e w' ⟨rfl, rfl⟩) | (go_at_call 60; refine HVE.out.mono ?_; rintro e w' ⟨rfl, rfl⟩) | (go_at_call 61; refine HVT.out.mono ?_; rintro e w' ⟨rfl, rfl⟩))
              go_roundw
              case rel => exact ⟨k + 1, by omega, by omega, by go_num, HPN.out, by first | trivial | rfl⟩
              case measure => simp [intOf]; omega
            | false =>
              have HDF := Lib.hid (HBAD.out (by rw [HOK2.out]; rfl))
              go_wp2_with (first | (go_at_call 35; with_reducible refine HNA.out.mono ?_; rintro e w' ⟨rfl, rfl⟩) | (go_at_call 35; with_reducible refine HN2.out.mono ?_; rintro e w' ⟨rfl, rfl⟩) | (go_at_call 59; refine HCO.out.mono ?_; rintro e w' ⟨rfl, rfl⟩) | (go_at_call 60; refine HVE.out.mono ?_; rintro e w' ⟨rfl, rfl⟩) | (go_at_call 61; refine HVT.out.mono ?_; rintro e w' ⟨rfl, rfl⟩))
              go_ret
              exact ⟨ret_b HDF.out.symm, rfl⟩
    · have HDT := Lib.hid (show D = true by
        rw [← HD.out]
        exact (allFrom_iff _ n).2 fun i h1 h2 => HP.out i h1 (by omega))
      go_wp2
      go_ret
      exact ⟨ret_b HDT.out.symm, rfl⟩

/- IsBo -/
open Go.ChangeShapes Go.WideShapes Go.ChangeAt Go.RowKit

def openAll (b : Bd) : Bool := decide (1 ≤ b.opn.length ∧ b.opn.length ≤ 8) && (decide (b.opn.getD 0 0 = 0) && allFrom (okOpen b) b.opn.length)
theorem root_parent {ns : List Nd} (h : okRoot ns = true) : parentOf ns 0 = -1 := by
  unfold okRoot at h
  unfold parentOf
  cases e : ns[0]? with
  | none => rw [e] at h; exact absurd h (by simp)
  | some x =>
    rw [e] at h
    simp only [Bool.and_eq_true, decide_eq_true_eq] at h
    show (ns[(0 : Int).toNat]?.map Nd.parent).getD 0 = -1
    rw [show (0 : Int).toNat = 0 from rfl, e]
    exact h.1.2
theorem parent_at {ns : List Nd} {j : Nat} {x : Nd} (h : ns[j]? = some x) : parentOf ns (j : Int) = x.parent := by
  unfold parentOf; rw [Int.toNat_natCast, h]; rfl
/-- Given that all ahead are open as they should be, the node's own test says so of it too. -/
theorem okOpen_step {b : Bd} {k : Nat} (hroot : okRoot b.nodes = true) (h0 : b.opn.getD 0 0 = 0) (hpre : ∀ i, 1 ≤ i → i < k → okOpen b i = true) (hk : 1 ≤ k) :
    okOpen b k = (canOpen b.nodes (b.opn.getD k 0) && decide (parentOf b.nodes (b.opn.getD k 0) = b.opn.getD (k - 1) 0)) := by
  unfold okOpen
  by_cases h : parentOf b.nodes (b.opn.getD k 0) = b.opn.getD (k - 1) 0
  · cases hc : canOpen b.nodes (b.opn.getD k 0) with
    | false => rfl
    | true =>
      have h1 := (canOpen_lt hc).1
      have h2 : 0 ≤ b.opn.getD (k - 1) 0 := by
        by_cases e : k = 1
        · rw [e, h0]; decide
        · have := hpre (k - 1) (by omega) (by omega)
          unfold okOpen at this
          simp only [Bool.and_eq_true, decide_eq_true_eq] at this
          omega
      have h3 : 1 ≤ b.opn.getD k 0 := by
        rcases (show b.opn.getD k 0 = 0 ∨ 1 ≤ b.opn.getD k 0 by omega) with e | e
        · rw [e, root_parent hroot] at h; omega
        · exact e
      rw [decide_eq_true h3, Bool.and_true]
  · rw [decide_eq_false h, Bool.and_false, Bool.and_false]

set_option maxRecDepth 100000 in
set_option maxHeartbeats 4000000 in
theorem open_impl2 (c : Nat) (nv ov : Value) (ns : List Nv) (b : Bd) (w : World) (hns : ns.map Prod.fst = b.nodes) (hr : ReadN w.heap.size w nv ns) (ho : Reads .i64 w.heap.size w ov b.opn) (c0 : w.cell? ⟨c, 0, none⟩ = some nv) (c1 : w.cell? ⟨c, 1, none⟩ = some ov) (hc : c < w.heap.size) (hroot : okRoot b.nodes = true) :
    Calls Try.prog 39 #[.pointer (some ⟨c, 0, none⟩)] w fun e w' => e = .returned (.bool (openAll b)) ∧ Grw w w' := by
  have mixed : Try.prog.follows .mixedOrders = true := by kernel_rfl
  obtain ⟨na, nc, rfl, hc1, hc2⟩ := hr.form
  obtain ⟨oa, oc, rfl, hd1, hd2⟩ := reads_form ho
  obtain ⟨n, hn⟩ : ∃ n, ns.length = n := ⟨_, rfl⟩
  obtain ⟨on, hon⟩ : ∃ n, b.opn.length = n := ⟨_, rfl⟩
  rw [hn] at hr c0 hc1; rw [hon] at ho c1 hd1
  obtain ⟨D, hD⟩ : ∃ D, openAll b = D := ⟨_, rfl⟩
  rw [hD]
  have hD2 : D = (decide (1 ≤ on ∧ on ≤ 8) && (decide (b.opn.getD 0 0 = 0) && allFrom (okOpen b) on)) := by rw [← hD, ← hon]; rfl
  have HD := Lib.hid hD2; have HR := Lib.hid hr; have HO := Lib.hid ho; have HN := Lib.hid hn; have HON := Lib.hid hon; have HNS := Lib.hid hns; have HRT := Lib.hid hroot
  have hnl : b.nodes.length = n := by rw [← hns, List.length_map, hn]
  have HNL := Lib.hid hnl
  clear hr ho hn hon hns hroot hD hD2 hnl
  by_cases h1 : 1 ≤ on ∧ on ≤ 8
  · obtain ⟨h1a, h1b⟩ := h1
    have hin : inB (on : Int) 1 8 = true := inB_yes (by omega) (by omega)
    obtain ⟨go, oo, rfl, hgo, k0⟩ := reads_at HO.out (k := 0) (by rw [HON.out]; omega)
    rw [Nat.add_zero] at k0
    by_cases h2 : b.opn.getD 0 0 = 0
    · rw [h2] at k0
      have H2 := Lib.hid h2; clear h2
      have HD2 := Lib.hid (show D = allFrom (okOpen b) on by rw [HD.out, decide_eq_true ⟨h1a, h1b⟩, decide_eq_true H2.out]; rfl)
      go_enter Try.func39, Try.ntmps39
      go_wp2_with (go_at_call 36; refine (rin_any _ _ _ _).mono ?_; rintro e w' ⟨rfl, rfl⟩)
      go_loopw [3] (fun i wr => ∃ (k : Nat), 1 ≤ k ∧ k ≤ on ∧ i = .int .i64 k ∧ (∀ i, 1 ≤ i → i < k → okOpen b i = true) ∧ Grw w wr)
        (fun i _ => on - (intOf i).toNat)
      case atStart => exact ⟨1, Nat.le_refl _, h1a, rfl, fun i h1 h2 => by omega, Grw.refl _⟩
      case round =>
        obtain ⟨k, hk1, hk, rfl, hpre, hs⟩ := hrel
        have HP := Lib.hid hpre; have HS := Lib.hid hs
        have d0 : wr.cell? ⟨c, 0, none⟩ = some (.slice na n nc) := (hs.below.cell hc).trans c0
        have d1 : wr.cell? ⟨c, 1, none⟩ = some (.slice (some ⟨go, oo, none⟩) on oc) := (hs.below.cell hc).trans c1
        have hcr : c < wr.heap.size := Nat.lt_of_lt_of_le hc hs.below.size
        have hsz := hs.below.size
        clear hpre hs
        by_cases hlt : (k : Int) < (on : Int)
        · have hro := HO.out.below HS.out.below (Nat.le_refl _)
          obtain ⟨go', oo', e', _, kk⟩ := reads_at hro (k := k) (by rw [HON.out]; omega)
          cases e'
          obtain ⟨go', oo', e', _, km⟩ := reads_at hro (k := k - 1) (by rw [HON.out]; omega)
          cases e'
          obtain ⟨m, rfl⟩ : ∃ m, k = m + 1 := ⟨k - 1, by omega⟩
          rw [Nat.add_sub_cancel] at km
          obtain ⟨z, hz⟩ : ∃ z, b.opn.getD (m + 1) 0 = z := ⟨_, rfl⟩
          obtain ⟨y, hy⟩ : ∃ y, b.opn.getD m 0 = y := ⟨_, rfl⟩
          have hstep := okOpen_step HRT.out H2.out HP.out (k := m + 1) (by omega)
          rw [hz, Nat.add_sub_cancel, hy] at hstep
          rw [hz] at kk; rw [hy] at km
          have HST := Lib.hid hstep
          have HBAD := Lib.hid (fun (h : okOpen b (m + 1) = false) => show D = false by
            rw [HD2.out]
            cases e : allFrom (okOpen b) on
            · rfl
            · have := (allFrom_iff _ on).1 e (m + 1) (by omega) (by omega)
              rw [h] at this; cases this)
          have hgw : go < wr.heap.size := by omega
          clear hstep hro hz hy
          by_cases hin2 : 0 ≤ z ∧ z < (n : Int)
          · obtain ⟨hz0, hz1⟩ := hin2
            obtain ⟨j, rfl⟩ : ∃ j : Nat, z = j := ⟨z.toNat, by omega⟩
            obtain ⟨q, hq⟩ := nd_at (ns := ns) (k := j) (by rw [HN.out]; omega)
            obtain ⟨gn, off, rfl, hgn, m0, _, m2, _⟩ := (HR.out.below HS.out.below (Nat.le_refl _)).at hq
            have hqn := map_fst_at HNS.out hq
            obtain ⟨⟨⟨nm, tx, pa, ats⟩, sl⟩, rfl⟩ : ∃ r : Nv, q = r := ⟨q, rfl⟩
            replace m0 : _ = some (Value.string nm) := m0
            replace m2 : _ = some (Value.int .i64 pa) := m2
            have hgnw : gn < wr.heap.size := by omega
            have HNA := Lib.hid (nodeAt_in c gn off n nc j wr d0 (by omega) (by omega))
            have M0 := cell_grown hgnw m0; have M2 := cell_grown hgnw m2; have KM := cell_grown hgw km; have D1 := cell_grown hcr d1
            obtain ⟨cv, hcv⟩ : ∃ v, (decide (nm.size ≠ 0) && !isVoid nm) = v := ⟨_, rfl⟩
            have HCO := Lib.hid (fun (m' : Nat) (os : Array Obj) => (can_some gn (off + j * 4) nm (Sort.grow (wr.drewN m') os) (M0 m' os)).mono (R' := fun e w' => e = .returned (.bool cv) ∧ Grw (Sort.grow (wr.drewN m') os) w') fun e w' h => ⟨by rw [h.1, hcv], by rw [h.2]; exact Grw.refl _⟩)
            rw [canOpen_at hqn, parent_at hqn] at HST
            dsimp only at HST
            rw [hcv] at HST
            clear hcv hq hqn m0 m2 km
            cases cv with
            | false =>
              have HDF := Lib.hid (HBAD.out (by rw [HST.out]; rfl))
              go_wp2_with (go_at_call 35; refine HNA.out.mono ?_; rintro e w' ⟨rfl, rfl⟩)
              refine wp_region_quiet_grown mixed (by kernel_rfl) ?_
              repeat (go_big_quiet_step (first | (go_at_call 59; refine Calls.grown_of (HCO.out _ _))))
              refine wpQuiet_nil ?_; intro _ hw'; obtain ⟨⟨nq, osq⟩, hw''⟩ := hw'; subst hw''
              go_wp2_with fail
              go_ret
              exact ⟨ret_b HDF.out.symm, HS.out.trans ⟨nq, osq, rfl⟩⟩
            | true =>
              by_cases hpy : pa = y
              · have e5 : (pa != y) = false := by rw [bne, beq_iff_eq.2 hpy]; rfl
                have HPN := Lib.hid (show ∀ i, 1 ≤ i → i < m + 1 + 1 → okOpen b i = true from fun i h1 h2 => by
                  by_cases e : i = m + 1
                  · rw [e, HST.out, decide_eq_true hpy]; rfl
                  · exact HP.out i h1 (by omega))
                clear hpy
                go_wp2_with (go_at_call 35; refine HNA.out.mono ?_; rintro e w' ⟨rfl, rfl⟩)
                refine wp_region_quiet_grown mixed (by kernel_rfl) ?_
                repeat (go_big_quiet_step (first | (go_at_call 59; refine Calls.grown_of (HCO.out _ _))))
                refine wpQuiet_nil ?_; intro _ hw'; obtain ⟨⟨nq, osq⟩, hw''⟩ := hw'; subst hw''
                go_wp2_with fail
                go_roundw
                case rel => exact ⟨m + 1 + 1, by omega, by omega, by go_num, HPN.out, HS.out.trans ⟨nq, osq, rfl⟩⟩
                case measure => simp [intOf]; omega
              · have e5 : (pa != y) = true := by rw [bne, beq_eq_false_iff_ne.2 hpy]; rfl
                have HDF := Lib.hid (HBAD.out (by rw [HST.out, decide_eq_false hpy]; rfl))
                clear hpy
                go_wp2_with (go_at_call 35; refine HNA.out.mono ?_; rintro e w' ⟨rfl, rfl⟩)
                refine wp_region_quiet_grown mixed (by kernel_rfl) ?_
                repeat (go_big_quiet_step (first | (go_at_call 59; refine Calls.grown_of (HCO.out _ _))))
                refine wpQuiet_nil ?_; intro _ hw'; obtain ⟨⟨nq, osq⟩, hw''⟩ := hw'; subst hw''
                go_wp2_with fail
                go_ret
                exact ⟨ret_b HDF.out.symm, HS.out.trans ⟨nq, osq, rfl⟩⟩
          · have hz' : z < 0 ∨ (n : Int) ≤ z := by omega
            have HNA := Lib.hid (nodeAt_out c n nc na z wr d0 hz' (by omega))
            have HCO := Lib.hid (fun (m' : Nat) (os : Array Obj) => (can_none (Sort.grow (wr.drewN m') os)).mono (R' := fun e w' => e = .returned (.bool false) ∧ Grw (Sort.grow (wr.drewN m') os) w') fun e w' h => ⟨h.1, by rw [h.2]; exact Grw.refl _⟩)
            have HDF := Lib.hid (HBAD.out (by rw [HST.out, canOpen_out (by rw [HNL.out]; exact hz')]; rfl))
            clear hz' hin2 km
            go_wp2_with (go_at_call 35; refine HNA.out.mono ?_; rintro e w' ⟨rfl, rfl⟩)
            refine wp_region_quiet_grown mixed (by kernel_rfl) ?_
            repeat (go_big_quiet_step (first | (go_at_call 59; refine Calls.grown_of (HCO.out _ _))))
            refine wpQuiet_nil ?_; intro _ hw'; obtain ⟨⟨nq, osq⟩, hw''⟩ := hw'; subst hw''
            go_wp2_with fail
            go_ret
            exact ⟨ret_b HDF.out.symm, HS.out.trans ⟨nq, osq, rfl⟩⟩
        · have HDT := Lib.hid (show D = true by
            rw [HD2.out]
            exact (allFrom_iff _ on).2 fun i h1 h2 => HP.out i h1 (by omega))
          go_wp2_with fail
          go_ret
          exact ⟨ret_b HDT.out.symm, HS.out⟩
    · have e2 : (b.opn.getD 0 0 != 0) = true := by rw [bne, beq_eq_false_iff_ne.2 h2]; rfl
      have HDF := Lib.hid (show D = false by rw [HD.out, decide_eq_false h2, Bool.false_and, Bool.and_false])
      obtain ⟨y, hy⟩ : ∃ y, b.opn.getD 0 0 = y := ⟨_, rfl⟩
      rw [hy] at k0 e2
      clear h2 hy
      go_enter Try.func39, Try.ntmps39
      go_wp2_with (go_at_call 36; refine (rin_any _ _ _ _).mono ?_; rintro e w' ⟨rfl, rfl⟩)
      go_ret
      exact ⟨ret_b HDF.out.symm, Grw.refl _⟩
  · have hin : inB (on : Int) 1 8 = false := inB_no (by omega)
    have HDF := Lib.hid (show D = false by rw [HD.out, decide_eq_false h1, Bool.false_and])
    clear h1
    go_enter Try.func39, Try.ntmps39
    go_wp2_with (go_at_call 36; refine (rin_any _ _ _ _).mono ?_; rintro e w' ⟨rfl, rfl⟩)
    go_ret
    exact ⟨ret_b HDF.out.symm, Grw.refl _⟩

/- IsBs -/
open Go.ChangeShapes Go.WideShapes Go.ChangeAt Go.RowKit

theorem isBd_eq (b : Bd) : isBd b = (decide (1 ≤ b.nodes.length ∧ b.nodes.length ≤ 40) && (okRoot b.nodes && (allFrom (okNode b.nodes) b.nodes.length && openAll b))) := by
  unfold isBd openAll; simp only [Bool.and_assoc]
theorem okRoot_at {ns : List Nd} {x : Nd} (h : ns[0]? = some x) : okRoot ns = rootB x := by
  unfold okRoot rootB; rw [h]
/-- Names within a string's reach. -/
def NmOk (b : Bd) : Prop := ∀ x ∈ b.nodes, x.name.size ≤ 9223372036854775807

set_option maxRecDepth 100000 in
set_option maxHeartbeats 4000000 in
theorem isB_impl (nv ov : Value) (b : Bd) (w : World) (hb : BdIn w.heap.size w nv ov b) (hok : NmOk b) :
    Calls Try.prog 10 #[.agg #[nv, ov]] w fun e w' => e = .returned (.bool (isBd b)) ∧ Grw w w' := by
  obtain ⟨ns, hns, hrn, hro⟩ := hb
  obtain ⟨na, nc, rfl, hc1, hc2⟩ := hrn.form
  obtain ⟨oa, oc, rfl, _⟩ := reads_form hro
  obtain ⟨n, hn⟩ : ∃ n, ns.length = n := ⟨_, rfl⟩
  obtain ⟨on, hon⟩ : ∃ n, b.opn.length = n := ⟨_, rfl⟩
  rw [hn] at hrn hc1 ⊢; rw [hon] at hro ⊢
  have hnl : b.nodes.length = n := by rw [← hns, List.length_map, hn]
  obtain ⟨W0, hW0⟩ : ∃ W, w.alloc (.cells #[.slice na n nc, .slice oa on oc] 27) = W := ⟨_, rfl⟩
  have hg0 : Grw w W0 := by rw [← hW0]; exact (Grw.refl w).alloc _
  have q1 : Box2 W0 w.heap.size (.slice na n nc) (.slice oa on oc) := by rw [← hW0]; exact Box2.new _ _ _
  obtain ⟨⟨a0, a1⟩, _⟩ := q1.cells
  have hr0 := (hrn.below hg0.below (Nat.le_refl _)).mono hg0.below.size
  have ho0 := (hro.below hg0.below (Nat.le_refl _)).mono hg0.below.size
  have HNO := Lib.hid (nodes_impl w.heap.size (.slice na n nc) ns _ W0 hr0 a0 (fun p hp => hok p.1 (by rw [← hns]; exact List.mem_map_of_mem hp)))
  rw [hns, hn] at HNO
  have HOP := Lib.hid (fun (h : okRoot b.nodes = true) => open_impl2 w.heap.size (.slice na n nc) (.slice oa on oc) ns b W0 hns hr0 ho0 a0 a1 q1.lt h)
  have HIS := Lib.hid (isBd_eq b)
  rw [hnl] at HIS
  have HG := Lib.hid hg0; have HW0 := Lib.hid hW0; have HR0 := Lib.hid hr0; have HN := Lib.hid hn; have HNS := Lib.hid hns
  obtain ⟨D, hD⟩ : ∃ D, isBd b = D := ⟨_, rfl⟩
  rw [hD] at HIS ⊢
  clear hrn hro hns hn hon hnl hW0 hg0 hr0 ho0 hok q1 hD
  by_cases h1 : 1 ≤ n ∧ n ≤ 40
  · obtain ⟨h1a, h1b⟩ := h1
    have hin : inB (n : Int) 1 40 = true := inB_yes (by omega) (by omega)
    rw [decide_eq_true ⟨h1a, h1b⟩, Bool.true_and] at HIS
    obtain ⟨p, hp⟩ := nd_at (ns := ns) (k := 0) (by rw [HN.out]; omega)
    obtain ⟨g, off, rfl, hg, n0, n1, n2, n3⟩ := HR0.out.at hp
    have hat : p.1.attrs.length = p.2.2.1 := attrs_n (a := p.2.1) (c := p.2.2.2) (HR0.out.2 p (List.mem_of_getElem? hp))
    have hpn := map_fst_at HNS.out hp
    obtain ⟨⟨⟨nm, tx, pa, ats⟩, ⟨sa, sn, sc⟩⟩, rfl⟩ : ∃ q : Nv, p = q := ⟨p, rfl⟩
    rw [Nat.zero_mul, Nat.add_zero] at n0 n1 n2 n3
    have HRI := Lib.hid (root_impl g off nm tx pa ats sa sn sc W0 n0 n1 n2 n3 hat)
    rw [okRoot_at hpn] at HIS HOP
    obtain ⟨rv, hrv⟩ : ∃ v, rootB ⟨nm, tx, pa, ats⟩ = v := ⟨_, rfl⟩
    rw [hrv] at HRI HIS HOP
    obtain ⟨nvv, hnv⟩ : ∃ v, allFrom (okNode b.nodes) n = v := ⟨_, rfl⟩
    rw [hnv] at HNO HIS
    obtain ⟨ovv, hovv⟩ : ∃ v, openAll b = v := ⟨_, rfl⟩
    rw [hovv] at HOP HIS
    clear n0 n1 n2 n3 hat hpn hrv hp hnv hovv
    cases rv with
    | false =>
      have HDF := Lib.hid (show D = false by rw [HIS.out]; rfl)
      go_enter Try.func10, Try.ntmps10
      go_upto_region 1 with (fail)
      rw [HW0.out]
      go_wp2_with (first | (go_at_call 36; refine (rin_any _ _ _ _).mono ?_; rintro e w' ⟨rfl, rfl⟩) | (go_at_call 37; refine HRI.out.mono ?_; rintro e w' ⟨rfl, rfl⟩))
      go_ret
      exact ⟨ret_b HDF.out.symm, HG.out⟩
    | true =>
      rw [Bool.true_and] at HIS
      cases nvv with
      | false =>
        have HDF := Lib.hid (show D = false by rw [HIS.out]; rfl)
        go_enter Try.func10, Try.ntmps10
        go_upto_region 1 with (fail)
        rw [HW0.out]
        go_wp2_with (first | (go_at_call 36; refine (rin_any _ _ _ _).mono ?_; rintro e w' ⟨rfl, rfl⟩) | (go_at_call 37; refine HRI.out.mono ?_; rintro e w' ⟨rfl, rfl⟩) | (go_at_call 38; refine HNO.out.mono ?_; rintro e w' ⟨rfl, rfl⟩))
        go_ret
        exact ⟨ret_b HDF.out.symm, HG.out⟩
      | true =>
        have HDF := Lib.hid (show D = ovv by rw [HIS.out]; rfl)
        have HOQ := Lib.hid (HOP.out rfl)
        clear HOP HIS
        go_enter Try.func10, Try.ntmps10
        go_upto_region 1 with (fail)
        rw [HW0.out]
        go_wp2_with (first | (go_at_call 36; refine (rin_any _ _ _ _).mono ?_; rintro e w' ⟨rfl, rfl⟩) | (go_at_call 37; refine HRI.out.mono ?_; rintro e w' ⟨rfl, rfl⟩) | (go_at_call 38; refine HNO.out.mono ?_; rintro e w' ⟨rfl, rfl⟩) | (go_at_call 39; refine HOQ.out.mono ?_; rintro e w5 ⟨rfl, hg5⟩))
        have HG5 := Lib.hid (HG.out.trans hg5); clear hg5
        go_ret
        exact ⟨ret_b HDF.out.symm, HG5.out⟩
  · have hin : inB (n : Int) 1 40 = false := inB_no (by omega)
    have HDF := Lib.hid (show D = false by rw [HIS.out, decide_eq_false h1, Bool.false_and])
    clear h1
    go_enter Try.func10, Try.ntmps10
    go_upto_region 1 with (fail)
    rw [HW0.out]
    go_wp2_with (go_at_call 36; refine (rin_any _ _ _ _).mono ?_; rintro e w' ⟨rfl, rfl⟩)
    go_ret
    exact ⟨ret_b HDF.out.symm, HG.out⟩

/- IsBt -/
open Go.ChangeShapes Go.WideShapes Go.ChangeAt Go.RowKit

set_option maxRecDepth 100000 in
set_option maxHeartbeats 4000000 in
theorem node_spec (nv ov : Value) (b : Bd) (k : Nat) (w : World) (hb : BdIn w.heap.size w nv ov b) (hok : NmOk b) (hk1 : 1 ≤ k) (hk2 : k < b.nodes.length) :
    Calls Try.prog 41 #[.agg #[nv, ov], .int .i64 k] w fun e w' => e = .returned (.bool (okNode b.nodes k)) ∧ Grw w w' := by
  obtain ⟨ns, hns, hrn, hro⟩ := hb
  obtain ⟨na, nc, rfl, hc1, hc2⟩ := hrn.form
  obtain ⟨oa, oc, rfl, _⟩ := reads_form hro
  obtain ⟨n, hn⟩ : ∃ n, ns.length = n := ⟨_, rfl⟩
  obtain ⟨on, hon⟩ : ∃ n, b.opn.length = n := ⟨_, rfl⟩
  rw [hn] at hrn hc1 ⊢; rw [hon] at hro ⊢
  have hnl : b.nodes.length = n := by rw [← hns, List.length_map, hn]
  rw [hnl] at hk2
  obtain ⟨p, hp⟩ := nd_at (ns := ns) (k := k) (by rw [hn]; exact hk2)
  obtain ⟨g, off, rfl, hg, n0, n1, n2, n3⟩ := hrn.at hp
  have hat : p.1.attrs.length = p.2.2.1 := attrs_n (a := p.2.1) (c := p.2.2.2) (hrn.2 p (List.mem_of_getElem? hp))
  have hpn := map_fst_at hns hp
  have hnm := hok p.1 (List.mem_of_getElem? hpn)
  obtain ⟨⟨⟨nm, tx, pa, ats⟩, ⟨sa, sn, sc⟩⟩, rfl⟩ : ∃ q : Nv, p = q := ⟨p, rfl⟩
  replace n0 : _ = some (Value.string nm) := n0
  replace n1 : _ = some (Value.string tx) := n1
  replace n2 : _ = some (Value.int .i64 pa) := n2
  replace n3 : _ = some (Value.slice sa sn sc) := n3
  replace hat : ats.length = sn := hat
  have h0 := okNode_at hpn
  dsimp only at h0
  obtain ⟨W0, hW0⟩ : ∃ W, w.alloc (.cells #[.slice (some ⟨g, off, none⟩) n nc, .slice oa on oc] 27) = W := ⟨_, rfl⟩
  have hg0 : Grw w W0 := by rw [← hW0]; exact (Grw.refl w).alloc _
  have q1 : Box2 W0 w.heap.size (.slice (some ⟨g, off, none⟩) n nc) (.slice oa on oc) := by rw [← hW0]; exact Box2.new _ _ _
  obtain ⟨W1, hW1⟩ : ∃ W, W0.alloc (.cells #[.string nm, .string tx, .int .i64 pa, .slice sa sn sc] 64) = W := ⟨_, rfl⟩
  have hg1 : Grw W0 W1 := by rw [← hW1]; exact (Grw.refl W0).alloc _
  have q1' := q1.later hg1.below
  have q4 : Box4 W1 W0.heap.size nm tx pa (.slice sa sn sc) := by rw [← hW1]; exact Box4.new _ _ _ _ _
  obtain ⟨⟨a0, a1⟩, _⟩ := q1.cells
  obtain ⟨⟨b0, b1⟩, _⟩ := q1'.cells
  obtain ⟨⟨x0, x1, x2, x3⟩, _⟩ := q4.cells
  replace n0 := (hg0.below.cell (p := ⟨g, off + k * 4, none⟩) hg).trans n0
  replace n1 := (hg0.below.cell (p := ⟨g, off + k * 4 + 1, none⟩) hg).trans n1
  replace n2 := (hg0.below.cell (p := ⟨g, off + k * 4 + 2, none⟩) hg).trans n2
  replace n3 := (hg0.below.cell (p := ⟨g, off + k * 4 + 3, none⟩) hg).trans n3
  have hg01 := hg0.trans hg1
  have HR1 := Lib.hid (hrn.below hg01.below (Nat.le_refl _))
  have HG := Lib.hid hg01; have HW0 := Lib.hid hW0; have HW1 := Lib.hid hW1; have HNS := Lib.hid hns; have HN := Lib.hid hn; have HNL := Lib.hid hnl
  have HNM := Lib.hid (fun W => nm_spec nm hnm W)
  have bg : g < W0.heap.size := Nat.lt_of_lt_of_le hg hg0.below.size
  have bH : w.heap.size < W0.heap.size := q1.lt
  obtain ⟨D, hD⟩ : ∃ D, okNode b.nodes k = D := ⟨_, rfl⟩
  rw [hD] at h0 ⊢
  have HD := Lib.hid h0
  have hgn := goodN_eq nm tx pa ats sn hat
  have HGN := Lib.hid (show goodN ⟨nm, tx, pa, ats⟩ = if nm.size = 0 then decide (tx.size ≠ 0) && decide (sn = 0) else isNm nm && decide (tx.size = 0) by unfold goodN; rw [nil_size]; dsimp only; rw [hat])
  clear hrn hro hns hn hon hnl hW0 hW1 hg0 hg1 hg01 hok q1 q1' q4 hD h0 hp hpn hgn hat hnm
  by_cases hin2 : 0 ≤ pa ∧ pa < (k : Int)
  · obtain ⟨hz0, hz1⟩ := hin2
    obtain ⟨j, rfl⟩ : ∃ j : Nat, pa = j := ⟨pa.toNat, by omega⟩
    have hin : inB (j : Int) 0 ((k : Int) - 1) = true := inB_yes (by omega) (by omega)
    obtain ⟨q, hq⟩ := nd_at (ns := ns) (k := j) (by rw [HN.out]; omega)
    obtain ⟨g', off', e', hg', m0, _⟩ := HR1.out.at hq
    cases e'
    have hqn := map_fst_at HNS.out hq
    obtain ⟨⟨⟨pn, ptx, ppa, pats⟩, sl⟩, rfl⟩ : ∃ r : Nv, q = r := ⟨q, rfl⟩
    replace m0 : _ = some (Value.string pn) := m0
    have hD := HD.out
    rw [decide_eq_true (show ((j : Nat) : Int) < (k : Int) by omega), Bool.true_and, canOpen_at hqn] at hD
    dsimp only at hD
    have HDD := Lib.hid hD
    clear hD hq hqn
    by_cases hp0 : pn.size = 0
    · have e0 : (pn.toList == []) = true := by rw [emp_size, decide_eq_true hp0]
      have HDF := Lib.hid (show D = false by rw [HDD.out, decide_eq_false (fun h => h hp0)]; rfl)
      clear hp0
      go_enter Try.func41, Try.ntmps41
      go_upto_region 1 with (fail)
      rw [HW0.out]
      go_upto_region 2 with (fail)
      rw [HW1.out]
      go_wp2_with (go_at_call 40; refine (lin_any _ _ _ _).mono ?_; rintro e w' ⟨rfl, rfl⟩)
      go_ret
      exact ⟨ret_b HDF.out.symm, HG.out⟩
    · have e0 : (pn.toList == []) = false := by rw [emp_size, decide_eq_false hp0]
      rw [decide_eq_true hp0, Bool.true_and] at HDD
      clear hp0
      obtain ⟨vv, hvv⟩ : ∃ v, isVoid pn = v := ⟨_, rfl⟩
      have HV := Lib.hid (fun W => void_spec pn W)
      rw [hvv] at HV HDD
      clear hvv
      cases vv with
      | true =>
        have HDF := Lib.hid (show D = false by rw [HDD.out]; rfl)
        go_enter Try.func41, Try.ntmps41
        go_upto_region 1 with (fail)
        rw [HW0.out]
        go_upto_region 2 with (fail)
        rw [HW1.out]
        go_wp2_with (first | (go_at_call 40; refine (lin_any _ _ _ _).mono ?_; rintro e w' ⟨rfl, rfl⟩) | (go_at_call 31; refine (HV.out _).mono ?_; rintro e w' ⟨rfl, rfl⟩))
        go_ret
        exact ⟨ret_b HDF.out.symm, HG.out⟩
      | false =>
        have HDG := Lib.hid (show D = (if nm.size = 0 then decide (tx.size ≠ 0) && decide (sn = 0) else isNm nm && decide (tx.size = 0)) by rw [HDD.out, HGN.out]; rfl)
        by_cases h3 : nm.size = 0
        · have e3 : (nm.toList == []) = true := by rw [emp_size, decide_eq_true h3]
          rw [if_pos h3] at HDG
          clear h3
          by_cases h4 : tx.size = 0
          · have e4 : (tx.toList == []) = true := by rw [emp_size, decide_eq_true h4]
            have HDF := Lib.hid (show D = false by rw [HDG.out, decide_eq_false (fun h => h h4)]; rfl)
            clear h4
            go_enter Try.func41, Try.ntmps41
            go_upto_region 1 with (fail)
            rw [HW0.out]
            go_upto_region 2 with (fail)
            rw [HW1.out]
            go_wp2_with (first | (go_at_call 40; refine (lin_any _ _ _ _).mono ?_; rintro e w' ⟨rfl, rfl⟩) | (go_at_call 31; refine (HV.out _).mono ?_; rintro e w' ⟨rfl, rfl⟩))
            go_ret
            exact ⟨ret_b HDF.out.symm, HG.out⟩
          · have e4 : (tx.toList == []) = false := by rw [emp_size, decide_eq_false h4]
            rw [decide_eq_true h4, Bool.true_and] at HDG
            clear h4
            by_cases h5 : sn = 0
            · have HDF := Lib.hid (show D = true by rw [HDG.out, decide_eq_true h5])
              subst h5
              go_enter Try.func41, Try.ntmps41
              go_upto_region 1 with (fail)
              rw [HW0.out]
              go_upto_region 2 with (fail)
              rw [HW1.out]
              go_wp2_with (first | (go_at_call 40; refine (lin_any _ _ _ _).mono ?_; rintro e w' ⟨rfl, rfl⟩) | (go_at_call 31; refine (HV.out _).mono ?_; rintro e w' ⟨rfl, rfl⟩))
              go_ret
              exact ⟨ret_b HDF.out.symm, HG.out⟩
            · have e5 : ((sn : Int) == 0) = false := beq_eq_false_iff_ne.2 (by omega)
              have HDF := Lib.hid (show D = false by rw [HDG.out, decide_eq_false h5])
              clear h5
              go_enter Try.func41, Try.ntmps41
              go_upto_region 1 with (fail)
              rw [HW0.out]
              go_upto_region 2 with (fail)
              rw [HW1.out]
              go_wp2_with (first | (go_at_call 40; refine (lin_any _ _ _ _).mono ?_; rintro e w' ⟨rfl, rfl⟩) | (go_at_call 31; refine (HV.out _).mono ?_; rintro e w' ⟨rfl, rfl⟩))
              go_ret
              exact ⟨ret_b HDF.out.symm, HG.out⟩
        · have e3 : (nm.toList == []) = false := by rw [emp_size, decide_eq_false h3]
          rw [if_neg h3] at HDG
          clear h3
          obtain ⟨iv, hiv⟩ : ∃ v, isNm nm = v := ⟨_, rfl⟩
          rw [hiv] at HNM HDG
          clear hiv
          cases iv with
          | false =>
            have HDF := Lib.hid (show D = false by rw [HDG.out]; rfl)
            go_enter Try.func41, Try.ntmps41
            go_upto_region 1 with (fail)
            rw [HW0.out]
            go_upto_region 2 with (fail)
            rw [HW1.out]
            go_wp2_with (first | (go_at_call 40; refine (lin_any _ _ _ _).mono ?_; rintro e w' ⟨rfl, rfl⟩) | (go_at_call 31; refine (HV.out _).mono ?_; rintro e w' ⟨rfl, rfl⟩) | (go_at_call 12; refine (HNM.out _).mono ?_; rintro e w' ⟨rfl, rfl⟩))
            go_ret
            exact ⟨ret_b HDF.out.symm, HG.out⟩
          | true =>
            rw [Bool.true_and, ← emp_size] at HDG
            obtain ⟨tv, htv⟩ : ∃ v, (tx.toList == ([] : List UInt8)) = v := ⟨_, rfl⟩
            have HDF := Lib.hid (show D = tv by rw [HDG.out, htv])
            go_enter Try.func41, Try.ntmps41
            go_upto_region 1 with (fail)
            rw [HW0.out]
            go_upto_region 2 with (fail)
            rw [HW1.out]
            go_wp2_with (first | (go_at_call 40; refine (lin_any _ _ _ _).mono ?_; rintro e w' ⟨rfl, rfl⟩) | (go_at_call 31; refine (HV.out _).mono ?_; rintro e w' ⟨rfl, rfl⟩) | (go_at_call 12; refine (HNM.out _).mono ?_; rintro e w' ⟨rfl, rfl⟩))
            go_ret
            exact ⟨ret_b HDF.out.symm, HG.out⟩
  · have hin : inB pa 0 ((k : Int) - 1) = false := inB_no (by omega)
    have HDF := Lib.hid (show D = false by
      rw [HD.out]
      by_cases h : pa < (k : Int)
      · rw [canOpen_out (Or.inl (by omega)), Bool.and_false, Bool.false_and]
      · rw [decide_eq_false h, Bool.false_and, Bool.false_and])
    clear hin2
    go_enter Try.func41, Try.ntmps41
    go_upto_region 1 with (fail)
    rw [HW0.out]
    go_upto_region 2 with (fail)
    rw [HW1.out]
    go_wp2_with (go_at_call 40; refine (lin_any _ _ _ _).mono ?_; rintro e w' ⟨rfl, rfl⟩)
    go_ret
    exact ⟨ret_b HDF.out.symm, HG.out⟩

/- IsBu -/
open Go.ChangeShapes Go.WideShapes Go.ChangeAt Go.RowKit

theorem lin_grw (n lo hi : Int) (w : World) : Calls Try.prog 40 #[.int .i64 n, .int .i64 lo, .int .i64 hi] w fun e w' => e = .returned (.bool (inB n lo hi)) ∧ Grw w w' :=
  (lin_any n lo hi w).mono fun e w' h => ⟨h.1, by rw [h.2]; exact Grw.refl _⟩
theorem void_grw (s : ByteArray) (w : World) : Calls Try.prog 31 #[.string s] w fun e w' => e = .returned (.bool (isVoid s)) ∧ Grw w w' :=
  (void_spec s w).mono fun e w' h => ⟨h.1, by rw [h.2]; exact Grw.refl _⟩
theorem okOpen_in {b : Bd} {k : Nat} {z y : Int} (hz : b.opn.getD k 0 = z) (hy : b.opn.getD (k - 1) 0 = y) : okOpen b k = (canOpen b.nodes z && decide (1 ≤ z) && decide (parentOf b.nodes z = y)) := by
  unfold okOpen; rw [hz, hy]

set_option maxRecDepth 100000 in
set_option maxHeartbeats 8000000 in
theorem isB_spec (nv ov : Value) (b : Bd) (w : World) (hb : BdIn w.heap.size w nv ov b) (hok : NmOk b) :
    Calls Try.prog 11 #[.agg #[nv, ov]] w fun e w' => e = .returned (.bool (isBd b)) ∧ Grw w w' := by
  have mixed : Try.prog.follows .mixedOrders = true := by kernel_rfl
  have HBI := Lib.hid hb; have HOK := Lib.hid hok
  obtain ⟨ns, hns, hrn, hro⟩ := id hb
  obtain ⟨na, nc, rfl, hc1, hc2⟩ := hrn.form
  obtain ⟨oa, oc, rfl, hd1, hd2⟩ := reads_form hro
  obtain ⟨n, hn⟩ : ∃ n, ns.length = n := ⟨_, rfl⟩
  obtain ⟨on, hon⟩ : ∃ n, b.opn.length = n := ⟨_, rfl⟩
  rw [hn] at hrn hc1 HBI ⊢; rw [hon] at hro hd1 HBI ⊢
  have hnl : b.nodes.length = n := by rw [← hns, List.length_map, hn]
  have HRN := Lib.hid hrn; have HRO := Lib.hid hro; have HNS := Lib.hid hns; have HN := Lib.hid hn; have HNL := Lib.hid hnl; have HON := Lib.hid hon
  obtain ⟨D, hD⟩ : ∃ D, isBd b = D := ⟨_, rfl⟩
  rw [hD]
  have HIS := Lib.hid (show D = (decide (1 ≤ n ∧ n ≤ 40) && (okRoot b.nodes && (allFrom (okNode b.nodes) n && (decide (1 ≤ on ∧ on ≤ 8) && (decide (b.opn.getD 0 0 = 0) && allFrom (okOpen b) on))))) by rw [← hD, isBd_eq, hnl]; unfold openAll; rw [hon])
  obtain ⟨W0, hW0⟩ : ∃ W, w.alloc (.cells #[.slice na n nc, .slice oa on oc] 27) = W := ⟨_, rfl⟩
  have hg0 : Grw w W0 := by rw [← hW0]; exact (Grw.refl w).alloc _
  have q1 : Box2 W0 w.heap.size (.slice na n nc) (.slice oa on oc) := by rw [← hW0]; exact Box2.new _ _ _
  obtain ⟨⟨a0, a1⟩, _⟩ := q1.cells
  have bH : w.heap.size < W0.heap.size := q1.lt
  have Q1 := Lib.hid q1; have HG0 := Lib.hid hg0; have HW0 := Lib.hid hW0
  clear hb hok hns hrn hro hn hon hnl hD hW0 hg0 q1
  by_cases h1 : 1 ≤ n ∧ n ≤ 40
  rotate_left
  · have hin : inB (n : Int) 1 40 = false := inB_no (by omega)
    have HDF := Lib.hid (show D = false by rw [HIS.out, decide_eq_false h1, Bool.false_and])
    clear h1
    go_enter Try.func11, Try.ntmps11
    go_upto_region 1 with (fail)
    rw [HW0.out]
    go_wp2_with (go_at_call 40; refine (lin_any _ _ _ _).mono ?_; rintro e w' ⟨rfl, rfl⟩)
    go_ret
    exact ⟨ret_b HDF.out.symm, HG0.out⟩
  obtain ⟨h1a, h1b⟩ := h1
  have hin : inB (n : Int) 1 40 = true := inB_yes (by omega) (by omega)
  by_cases h2 : 1 ≤ on ∧ on ≤ 8
  rotate_left
  · have hin2 : inB (on : Int) 1 8 = false := inB_no (by omega)
    have HDF := Lib.hid (show D = false by rw [HIS.out, decide_eq_false h2, Bool.false_and, Bool.and_false, Bool.and_false, Bool.and_false])
    clear h2
    go_enter Try.func11, Try.ntmps11
    go_upto_region 1 with (fail)
    rw [HW0.out]
    go_wp2_with (go_at_call 40; refine (lin_any _ _ _ _).mono ?_; rintro e w' ⟨rfl, rfl⟩)
    go_ret
    exact ⟨ret_b HDF.out.symm, HG0.out⟩
  obtain ⟨h2a, h2b⟩ := h2
  have hin2 : inB (on : Int) 1 8 = true := inB_yes (by omega) (by omega)
  obtain ⟨go, oo, rfl, hgo, k0⟩ := reads_at (HRO.out.below HG0.out.below (Nat.le_refl _)) (k := 0) (by rw [HON.out]; omega)
  rw [Nat.add_zero] at k0
  have bgo : go < W0.heap.size := by omega
  by_cases h3 : b.opn.getD 0 0 = 0
  rotate_left
  · have HDF := Lib.hid (show D = false by rw [HIS.out, decide_eq_false h3, Bool.false_and, Bool.and_false, Bool.and_false, Bool.and_false, Bool.and_false])
    have e2 : (b.opn.getD 0 0 != 0) = true := by rw [bne, beq_eq_false_iff_ne.2 h3]; rfl
    obtain ⟨y, hy⟩ : ∃ y, b.opn.getD 0 0 = y := ⟨_, rfl⟩
    rw [hy] at k0 e2
    clear h3 hy
    go_enter Try.func11, Try.ntmps11
    go_upto_region 1 with (fail)
    rw [HW0.out]
    go_wp2_with (go_at_call 40; refine (lin_any _ _ _ _).mono ?_; rintro e w' ⟨rfl, rfl⟩)
    go_ret
    exact ⟨ret_b HDF.out.symm, HG0.out⟩
  have H3 := Lib.hid h3
  rw [h3] at k0
  obtain ⟨p, hp⟩ := nd_at (ns := ns) (k := 0) (by rw [HN.out]; omega)
  have hr0 := HRN.out.below HG0.out.below (Nat.le_refl _)
  obtain ⟨g, off, rfl, hg, n0, n1, n2, n3⟩ := hr0.at hp
  have hat : p.1.attrs.length = p.2.2.1 := attrs_n (a := p.2.1) (c := p.2.2.2) (hr0.2 p (List.mem_of_getElem? hp))
  have hpn := map_fst_at HNS.out hp
  obtain ⟨⟨⟨nm, tx, pa, ats⟩, ⟨sa, sn, sc⟩⟩, rfl⟩ : ∃ q : Nv, p = q := ⟨p, rfl⟩
  rw [Nat.zero_mul, Nat.add_zero] at n0 n1 n2 n3
  replace n0 : _ = some (Value.string nm) := n0
  replace n1 : _ = some (Value.string tx) := n1
  replace n2 : _ = some (Value.int .i64 pa) := n2
  replace n3 : _ = some (Value.slice sa sn sc) := n3
  replace hat : ats.length = sn := hat
  have bg : g < W0.heap.size := by omega
  have HRT := Lib.hid (show okRoot b.nodes = ((nm.toList == [112, 97, 103, 101]) && (tx.toList == ([] : List UInt8)) && decide (pa = -1) && decide (sn = 0)) by
    rw [okRoot_at hpn]; unfold rootB; rw [nil_size, emp_size]; dsimp only; rw [hat])
  have HIS2 := Lib.hid (show D = (okRoot b.nodes && (allFrom (okNode b.nodes) n && allFrom (okOpen b) on)) by
    rw [HIS.out, decide_eq_true ⟨h1a, h1b⟩, decide_eq_true ⟨h2a, h2b⟩, decide_eq_true H3.out]; simp only [Bool.true_and])
  obtain ⟨W1, hW1⟩ : ∃ W, W0.alloc (.cells #[.string nm, .string tx, .int .i64 pa, .slice sa sn sc] 64) = W := ⟨_, rfl⟩
  have hg1 : Grw W0 W1 := by rw [← hW1]; exact (Grw.refl W0).alloc _
  have q4 : Box4 W1 W0.heap.size nm tx pa (.slice sa sn sc) := by rw [← hW1]; exact Box4.new _ _ _ _ _
  obtain ⟨⟨x0, x1, x2, x3⟩, _⟩ := q4.cells
  have HG1 := Lib.hid (HG0.out.trans hg1); have HW1 := Lib.hid hW1; have Q11 := Lib.hid (Q1.out.later hg1.below)
  clear hp hr0 hat hpn hW1 hg1 q4 h3
  have hrt : ∀ v, okRoot b.nodes = v → v = ((nm.toList == [112, 97, 103, 101]) && (tx.toList == ([] : List UInt8)) && decide (pa = -1) && decide (sn = 0)) := fun v h => by rw [← h]; exact HRT.out
  by_cases h4 : (nm.toList == [112, 97, 103, 101]) = true ∧ (tx.toList == ([] : List UInt8)) = true ∧ pa = -1 ∧ sn = 0
  rotate_left
  · have HDF := Lib.hid (show D = false by
      rw [HIS2.out, HRT.out]
      cases e1 : (nm.toList == [112, 97, 103, 101]) with
      | false => rfl
      | true =>
        cases e2 : (tx.toList == ([] : List UInt8)) with
        | false => rfl
        | true =>
          by_cases e3 : pa = -1
          · by_cases e4 : sn = 0
            · exact absurd ⟨e1, e2, e3, e4⟩ h4
            · rw [decide_eq_false e4]; simp
          · rw [decide_eq_false e3]; simp)
    clear hrt
    cases e1 : (nm.toList == [112, 97, 103, 101]) with
    | false =>
      clear h4
      go_enter Try.func11, Try.ntmps11
      go_upto_region 1 with (fail)
      rw [HW0.out]
      go_upto_region 4 with ((go_at_call 40; refine (lin_any _ _ _ _).mono ?_; rintro e w' ⟨rfl, rfl⟩))
      rw [HW1.out]
      go_wp2_with fail
      go_ret
      exact ⟨ret_b HDF.out.symm, HG1.out⟩
    | true =>
      by_cases e3 : pa = -1
      rotate_left
      · have e3' : (pa != -1) = true := by rw [bne, beq_eq_false_iff_ne.2 e3]; rfl
        clear h4 e3
        go_enter Try.func11, Try.ntmps11
        go_upto_region 1 with (fail)
        rw [HW0.out]
        go_upto_region 4 with ((go_at_call 40; refine (lin_any _ _ _ _).mono ?_; rintro e w' ⟨rfl, rfl⟩))
        rw [HW1.out]
        go_wp2_with fail
        go_ret
        exact ⟨ret_b HDF.out.symm, HG1.out⟩
      have e3' : (pa != -1) = false := by rw [bne, beq_iff_eq.2 e3]; rfl
      cases e2 : (tx.toList == ([] : List UInt8)) with
      | false =>
        clear h4 e3
        go_enter Try.func11, Try.ntmps11
        go_upto_region 1 with (fail)
        rw [HW0.out]
        go_upto_region 4 with ((go_at_call 40; refine (lin_any _ _ _ _).mono ?_; rintro e w' ⟨rfl, rfl⟩))
        rw [HW1.out]
        go_wp2_with fail
        go_ret
        exact ⟨ret_b HDF.out.symm, HG1.out⟩
      | true =>
        have e4' : ((sn : Int) != 0) = true := by
          rw [bne, beq_eq_false_iff_ne.2 (show (sn : Int) ≠ 0 from fun e => h4 ⟨e1, e2, e3, by omega⟩)]; rfl
        clear h4 e3
        go_enter Try.func11, Try.ntmps11
        go_upto_region 1 with (fail)
        rw [HW0.out]
        go_upto_region 4 with ((go_at_call 40; refine (lin_any _ _ _ _).mono ?_; rintro e w' ⟨rfl, rfl⟩))
        rw [HW1.out]
        go_wp2_with fail
        go_ret
        exact ⟨ret_b HDF.out.symm, HG1.out⟩
  obtain ⟨e1, e2, e3, e4⟩ := h4
  subst e3; subst e4
  have HIS3 := Lib.hid (show D = (allFrom (okNode b.nodes) n && allFrom (okOpen b) on) by rw [HIS2.out, HRT.out, e1, e2]; rfl)
  clear hrt
  go_enter Try.func11, Try.ntmps11
  go_upto_region 1 with (fail)
  rw [HW0.out]
  go_upto_region 4 with ((go_at_call 40; refine (lin_any _ _ _ _).mono ?_; rintro e w' ⟨rfl, rfl⟩))
  rw [HW1.out]
  go_wp2_with fail
  go_loopw [4] (fun i wr => ∃ (k : Nat), 1 ≤ k ∧ k ≤ n ∧ i = .int .i64 k ∧ (∀ i, 1 ≤ i → i < k → okNode b.nodes i = true) ∧ Grw W1 wr)
    (fun i _ => n - (intOf i).toNat)
  case atStart => exact ⟨1, Nat.le_refl _, h1a, rfl, fun i h1 h2 => by omega, Grw.refl _⟩
  case round =>
    obtain ⟨k, hk1, hk, rfl, hpre, hs⟩ := hrel
    have q1 := Q11.out.later hs.below
    obtain ⟨⟨d0, d1⟩, _⟩ := q1.cells
    have HP := Lib.hid hpre; have HSW := Lib.hid (HG1.out.trans hs); have HS1 := Lib.hid hs
    clear hpre hs
    by_cases hlt : (k : Int) < (n : Int)
    · have HNO := Lib.hid (node_spec (.slice (some ⟨g, off, none⟩) n nc) (.slice (some ⟨go, oo, none⟩) on oc) b k wr (HBI.out.up HSW.out.below) HOK.out hk1 (by rw [HNL.out]; omega))
      obtain ⟨v, hv⟩ : ∃ v, okNode b.nodes k = v := ⟨_, rfl⟩
      rw [hv] at HNO
      have HV := Lib.hid hv; clear hv
      cases v with
      | true =>
        have HPN := Lib.hid (show ∀ i, 1 ≤ i → i < k + 1 → okNode b.nodes i = true from fun i h1 h2 => by
          by_cases e : i = k
          · rw [e]; exact HV.out
          · exact HP.out i h1 (by omega))
        go_wp2_with (go_at_call 41; refine HNO.out.mono ?_; rintro e w5 ⟨rfl, hg5⟩)
        have HG5 := Lib.hid (HS1.out.trans hg5); clear hg5
        go_roundw
        case rel => exact ⟨k + 1, by omega, by omega, by go_num, HPN.out, HG5.out⟩
        case measure => simp [intOf]; omega
      | false =>
        have HDF := Lib.hid (show D = false by
          rw [HIS3.out]
          cases e : allFrom (okNode b.nodes) n
          · rfl
          · have := (allFrom_iff _ n).1 e k hk1 (by omega)
            rw [HV.out] at this; cases this)
        go_wp2_with (go_at_call 41; refine HNO.out.mono ?_; rintro e w5 ⟨rfl, hg5⟩)
        have HG5 := Lib.hid (HSW.out.trans hg5); clear hg5
        go_ret
        exact ⟨ret_b HDF.out.symm, HG5.out⟩
    · have HIS4 := Lib.hid (show D = allFrom (okOpen b) on by
        rw [HIS3.out, (allFrom_iff _ n).2 fun i h1 h2 => HP.out i h1 (by omega)]; rfl)
      have QM := Lib.hid q1
      clear q1
      go_wp2_with fail
      clear d0 d1
      rename World => wm
      go_loopw [5] (fun i wr => ∃ (k : Nat), 1 ≤ k ∧ k ≤ on ∧ i = .int .i64 k ∧ (∀ i, 1 ≤ i → i < k → okOpen b i = true) ∧ Grw wm wr)
        (fun i _ => on - (intOf i).toNat)
      case atStart => exact ⟨1, Nat.le_refl _, h2a, rfl, fun i h1 h2 => by omega, Grw.refl _⟩
      case round =>
        obtain ⟨k, hk1, hk, rfl, hpre, hs⟩ := hrel
        have q1 := QM.out.later hs.below
        obtain ⟨⟨d0, d1⟩, _⟩ := q1.cells
        have hcr : w.heap.size < wr.heap.size := q1.lt
        have HP := Lib.hid hpre; have HS := Lib.hid (HSW.out.trans hs); have HSm := Lib.hid hs
        have hsz := HS.out.below.size
        clear hpre hs q1
        by_cases hlt2 : (k : Int) < (on : Int)
        · have hro := HRO.out.below HS.out.below (Nat.le_refl _)
          obtain ⟨go', oo', e', _, kk⟩ := reads_at hro (k := k) (by rw [HON.out]; omega)
          cases e'
          obtain ⟨go', oo', e', _, km⟩ := reads_at hro (k := k - 1) (by rw [HON.out]; omega)
          cases e'
          obtain ⟨m, rfl⟩ : ∃ m, k = m + 1 := ⟨k - 1, by omega⟩
          rw [Nat.add_sub_cancel] at km
          obtain ⟨z, hz⟩ : ∃ z, b.opn.getD (m + 1) 0 = z := ⟨_, rfl⟩
          obtain ⟨y, hy⟩ : ∃ y, b.opn.getD m 0 = y := ⟨_, rfl⟩
          have hstep := okOpen_in (b := b) (k := m + 1) (z := z) (y := y) hz (by rw [Nat.add_sub_cancel]; exact hy)
          rw [hz] at kk; rw [hy] at km
          have HST := Lib.hid hstep
          have HBAD := Lib.hid (fun (h : okOpen b (m + 1) = false) => show D = false by
            rw [HIS4.out]
            cases e : allFrom (okOpen b) on
            · rfl
            · have := (allFrom_iff _ on).1 e (m + 1) (by omega) (by omega)
              rw [h] at this; cases this)
          have hgw : go < wr.heap.size := by omega
          have D0 := cell_grown hcr d0; have D1 := cell_grown hcr d1; have KM := cell_grown hgw km
          clear hstep hro hz hy km
          by_cases hzin : 1 ≤ z ∧ z < (n : Int)
          · obtain ⟨hz0, hz1⟩ := hzin
            obtain ⟨j, rfl⟩ : ∃ j : Nat, z = j := ⟨z.toNat, by omega⟩
            have hinz : inB (j : Int) 1 ((n : Int) - 1) = true := inB_yes (by omega) (by omega)
            obtain ⟨q, hq⟩ := nd_at (ns := ns) (k := j) (by rw [HN.out]; omega)
            obtain ⟨gn, off', e', hgn, m0, _, m2, _⟩ := (HRN.out.below HS.out.below (Nat.le_refl _)).at hq
            cases e'
            have hqn := map_fst_at HNS.out hq
            obtain ⟨⟨⟨pn, ptx, ppa, pats⟩, sl⟩, rfl⟩ : ∃ r : Nv, q = r := ⟨q, rfl⟩
            replace m0 : _ = some (Value.string pn) := m0
            replace m2 : _ = some (Value.int .i64 ppa) := m2
            have hgnw : g < wr.heap.size := by omega
            have M0 := cell_grown hgnw m0; have M2 := cell_grown hgnw m2
            have hj0 : (0 : Int) ≤ (j : Int) := by omega
            have hst := HST.out
            rw [canOpen_at hqn, parent_at hqn, decide_eq_true hz0] at hst
            dsimp only at hst
            have HST2 := Lib.hid hst
            have HV := Lib.hid (fun (m' : Nat) (os : Array Obj) => void_grw pn (Sort.grow (wr.drewN m') os))
            obtain ⟨vv, hvv⟩ : ∃ v, isVoid pn = v := ⟨_, rfl⟩
            rw [hvv] at HV HST2
            clear hst hq hqn m0 m2 hvv
            by_cases hp0 : pn.size = 0
            · have e0 : (pn.toList == []) = true := by rw [emp_size, decide_eq_true hp0]
              have HDF := Lib.hid (HBAD.out (by rw [HST2.out, decide_eq_false (fun h => h hp0)]; rfl))
              clear hp0
              go_wp2_with fail
              refine wp_region_quiet_grown mixed (by kernel_rfl) ?_
              repeat (go_big_quiet_step (first | (go_at_call 40; refine Calls.grown_of (lin_grw _ _ _ _)) | (go_at_call 31; refine Calls.grown_of (HV.out _ _))))
              refine wpQuiet_nil ?_; intro _ hw'; obtain ⟨⟨nq, osq⟩, hw''⟩ := hw'; subst hw''
              go_wp2_with fail
              go_ret
              exact ⟨ret_b HDF.out.symm, HS.out.trans ⟨nq, osq, rfl⟩⟩
            · have e0 : (pn.toList == []) = false := by rw [emp_size, decide_eq_false hp0]
              rw [decide_eq_true hp0, Bool.true_and, Bool.and_true] at HST2
              clear hp0
              cases vv with
              | true =>
                have HDF := Lib.hid (HBAD.out (by rw [HST2.out]; rfl))
                go_wp2_with fail
                refine wp_region_quiet_grown mixed (by kernel_rfl) ?_
                repeat (go_big_quiet_step (first | (go_at_call 40; refine Calls.grown_of (lin_grw _ _ _ _)) | (go_at_call 31; refine Calls.grown_of (HV.out _ _))))
                refine wpQuiet_nil ?_; intro _ hw'; obtain ⟨⟨nq, osq⟩, hw''⟩ := hw'; subst hw''
                go_wp2_with fail
                go_ret
                exact ⟨ret_b HDF.out.symm, HS.out.trans ⟨nq, osq, rfl⟩⟩
              | false =>
                by_cases hpy : ppa = y
                · have e5 : (ppa != y) = false := by rw [bne, beq_iff_eq.2 hpy]; rfl
                  have HPN := Lib.hid (show ∀ i, 1 ≤ i → i < m + 1 + 1 → okOpen b i = true from fun i h1 h2 => by
                    by_cases e : i = m + 1
                    · rw [e, HST2.out, decide_eq_true hpy]; rfl
                    · exact HP.out i h1 (by omega))
                  clear hpy
                  go_wp2_with fail
                  refine wp_region_quiet_grown mixed (by kernel_rfl) ?_
                  repeat (go_big_quiet_step (first | (go_at_call 40; refine Calls.grown_of (lin_grw _ _ _ _)) | (go_at_call 31; refine Calls.grown_of (HV.out _ _))))
                  refine wpQuiet_nil ?_; intro _ hw'; obtain ⟨⟨nq, osq⟩, hw''⟩ := hw'; subst hw''
                  go_wp2_with fail
                  go_roundw
                  case rel => exact ⟨m + 1 + 1, by omega, by omega, by go_num, HPN.out, HSm.out.trans ⟨nq, osq, rfl⟩⟩
                  case measure => simp [intOf]; omega
                · have e5 : (ppa != y) = true := by rw [bne, beq_eq_false_iff_ne.2 hpy]; rfl
                  have HDF := Lib.hid (HBAD.out (by rw [HST2.out, decide_eq_false hpy]; rfl))
                  clear hpy
                  go_wp2_with fail
                  refine wp_region_quiet_grown mixed (by kernel_rfl) ?_
                  repeat (go_big_quiet_step (first | (go_at_call 40; refine Calls.grown_of (lin_grw _ _ _ _)) | (go_at_call 31; refine Calls.grown_of (HV.out _ _))))
                  refine wpQuiet_nil ?_; intro _ hw'; obtain ⟨⟨nq, osq⟩, hw''⟩ := hw'; subst hw''
                  go_wp2_with fail
                  go_ret
                  exact ⟨ret_b HDF.out.symm, HS.out.trans ⟨nq, osq, rfl⟩⟩
          · have hinz : inB z 1 ((n : Int) - 1) = false := inB_no (by omega)
            have HV := Lib.hid (fun (m' : Nat) (os : Array Obj) => void_grw ⟨#[]⟩ (Sort.grow (wr.drewN m') os))
            have HDF := Lib.hid (HBAD.out (by
              rw [HST.out]
              by_cases h : 1 ≤ z
              · rw [canOpen_out (Or.inr (by rw [HNL.out]; omega))]; rfl
              · rw [decide_eq_false h, Bool.and_false, Bool.false_and]))
            clear hzin
            go_wp2_with fail
            refine wp_region_quiet_grown mixed (by kernel_rfl) ?_
            repeat (go_big_quiet_step (first | (go_at_call 40; refine Calls.grown_of (lin_grw _ _ _ _)) | (go_at_call 31; refine Calls.grown_of (HV.out _ _))))
            refine wpQuiet_nil ?_; intro _ hw'; obtain ⟨⟨nq, osq⟩, hw''⟩ := hw'; subst hw''
            go_wp2_with fail
            go_ret
            exact ⟨ret_b HDF.out.symm, HS.out.trans ⟨nq, osq, rfl⟩⟩
        · have HDT := Lib.hid (show D = true by
            rw [HIS4.out]
            exact (allFrom_iff _ on).2 fun i h1 h2 => HP.out i h1 (by omega))
          go_wp2_with fail
          go_ret
          exact ⟨ret_b HDT.out.symm, HS.out⟩
end Go.Proofs.Ytiginllbfjekeaa
