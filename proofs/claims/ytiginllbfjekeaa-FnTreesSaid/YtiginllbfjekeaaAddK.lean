/- Helper contracts: openElement and closeElement of the program. -/
import Derived.Test.YtiginllbfjekeaaAddJ
namespace Go.Proofs.Ytiginllbfjekeaa
open Go.ChangeShapes Go.WideShapes Go.ChangeAt Go.RowKit

/-- What a function answers that changes a builder in a box: a number, and the builder then. -/
def BOut (B : Nat) (w0 : World) (c : Nat) (b : Bd) (z : Int) (w : World) (e : Ending) (w' : World) : Prop :=
  ∃ nv ov, e = .returned (.int .i64 z) ∧ Box2 w' c nv ov ∧ Upd c w w' ∧ BdAt B w0 w' nv ov b

theorem push_no {B : Nat} {w0 w : World} {c : Nat} {nv ov : Value} {ns : List Nv} {zs : List Int} (p : Nv) (hq : Box2 w c nv ov) (hB : B ≤ c) (h : BdM B w0 w nv ov ns zs) (hat : OwnK encA 2 104 B w.heap.size w (sv p.2) p.1.attrs)
    (hfr : ∀ g, (sv p.2).ownBlock = some g → g ∉ insN ns) (hln : ns.length ≤ 68719476736) (hlz : zs.length ≤ 68719476736) (hc : 40 ≤ ns.length ∨ zs.length = 0) {nm tx : ByteArray} {pa : Int} {u : Value} (h1 : p.1.name = nm) (h2 : p.1.text = tx) (h3 : p.1.parent = pa) (h4 : sv p.2 = u) :
    Calls Try.prog 66 #[.pointer (some ⟨c, 0, none⟩), .agg #[.string nm, .string tx, .int .i64 pa, u]] w fun e w' => ∃ na nn nc oa on oc, e = .returned (.int .i64 (-1)) ∧ Box2 w' c (.slice na nn nc) (.slice oa on oc) ∧ Upd c w w' ∧ BdM B w0 w' (.slice na nn nc) (.slice oa on oc) ns zs := by
  subst h1; subst h2; subst h3; subst h4
  refine (push_any p hq hB h hat hfr hln hlz).mono ?_
  rintro e w' ⟨nv', ov', hq', hu, hr⟩
  rw [if_pos hc] at hr
  obtain ⟨a, c', e1⟩ := mineN_form hr.2.n
  obtain ⟨a', c'', e2⟩ := mine_form hr.2.o
  subst e1; subst e2
  exact ⟨_, _, _, _, _, _, hr.1, hq', hu, hr.2⟩
theorem push_yes {B : Nat} {w0 w : World} {c : Nat} {nv ov : Value} {ns : List Nv} {zs : List Int} (p : Nv) (hq : Box2 w c nv ov) (hB : B ≤ c) (h : BdM B w0 w nv ov ns zs) (hat : OwnK encA 2 104 B w.heap.size w (sv p.2) p.1.attrs)
    (hfr : ∀ g, (sv p.2).ownBlock = some g → g ∉ insN ns) (hln : ns.length ≤ 68719476736) (hlz : zs.length ≤ 68719476736) (hc : ¬ (40 ≤ ns.length ∨ zs.length = 0)) {nm tx : ByteArray} {pa : Int} {u : Value} (h1 : p.1.name = nm) (h2 : p.1.text = tx) (h3 : p.1.parent = pa) (h4 : sv p.2 = u) :
    Calls Try.prog 66 #[.pointer (some ⟨c, 0, none⟩), .agg #[.string nm, .string tx, .int .i64 pa, u]] w fun e w' => ∃ na nn nc oa oc, e = .returned (.int .i64 (ns.length : Int)) ∧ Box2 w' c (.slice na nn nc) (.slice oa zs.length oc) ∧ Upd c w w' ∧ BdM B w0 w' (.slice na nn nc) (.slice oa zs.length oc) (ns ++ [(⟨nm, tx, zs.getD (zs.length - 1) 0, p.1.attrs⟩, p.2)]) zs := by
  subst h1; subst h2; subst h3; subst h4
  refine (push_any p hq hB h hat hfr hln hlz).mono ?_
  rintro e w' ⟨nv', ov', hq', hu, hr⟩
  rw [if_neg hc] at hr
  obtain ⟨a, c', e1⟩ := mineN_form hr.2.n
  obtain ⟨a', c'', e2⟩ := mine_form hr.2.o
  subst e1; subst e2
  exact ⟨_, _, _, _, _, hr.1, hq', hu, hr.2⟩

set_option maxRecDepth 100000 in
set_option maxHeartbeats 4000000 in
theorem close_impl {B : Nat} {w0 w : World} {c : Nat} {nv ov : Value} {ns : List Nv} {zs : List Int} (s : ByteArray) (hq : Box2 w c nv ov) (hB : B ≤ c) (h : BdM B w0 w nv ov ns zs) (hln : ns.length ≤ 68719476736) (hlz : zs.length ≤ 68719476736) :
    Calls Try.prog 55 #[.pointer (some ⟨c, 0, none⟩), .string s] w fun e w' => ∃ ov', e = .returned (.tuple #[]) ∧ Box2 w' c nv ov' ∧ Upd c w w' ∧ BdM B w0 w' nv ov' ns (closeB ⟨ns.map Prod.fst, zs⟩ s).opn := by
  obtain ⟨na, nc, rfl⟩ := mineN_form h.n
  obtain ⟨oa, oc, rfl⟩ := mine_form h.o
  obtain ⟨n, hn⟩ : ∃ n, ns.length = n := ⟨_, rfl⟩
  obtain ⟨on, hon⟩ : ∃ n, zs.length = n := ⟨_, rfl⟩
  rw [hn] at h hln hq ⊢; rw [hon] at h hlz hq
  obtain ⟨f, hf⟩ : ∃ f, f = closeN ⟨ns.map Prod.fst, zs⟩ s := ⟨_, rfl⟩
  have hcb : (closeB ⟨ns.map Prod.fst, zs⟩ s).opn = zs.take (f (on - 1)) := by rw [hf, ← hon]; rfl
  rw [hcb]
  have hf0 : f 0 = on := by rw [hf, ← hon]; rfl
  have hfk : ∀ k, f (k + 1) = if hasName (ns.map Prod.fst) (zs.getD (k + 1) 0) s then k + 1 else f k := by intro k; rw [hf]; rfl
  have HN := Lib.hid hn; have HON := Lib.hid hon; have HQ := Lib.hid hq; have HB := Lib.hid h; have HF0 := Lib.hid hf0; have HFK := Lib.hid hfk
  obtain ⟨⟨d0, d1⟩, f0, f1⟩ := hq.cells
  have bc : c < w.heap.size := hq.lt
  have HBc := Lib.hid hB
  clear h hn hon hq hcb hf0 hfk hf hB
  by_cases h0 : on = 0
  · subst h0
    have HZ := Lib.hid (show zs.take (f (0 - 1)) = zs by rw [List.eq_nil_of_length_eq_zero HON.out]; simp)
    go_enter Try.func55, Try.ntmps55
    go_wp2_with fail
    go_loopw [4] (fun i wr => i = .int .i64 (-1) ∧ wr = w) (fun _ _ => 0)
    case atStart => exact ⟨rfl, rfl⟩
    case round =>
      obtain ⟨rfl, rfl⟩ := hrel
      go_wp2_with fail
      (first | go_end0 | ((try simp only [Exit.inBlock, Exit.then]); refine bodyPost_ret (results_none rfl _ _ _) rfl ?_))
      exact ⟨_, rfl, HQ.out, Upd.refl _ _, by rw [HZ.out]; exact HB.out⟩
  · go_enter Try.func55, Try.ntmps55
    go_wp2_with fail
    go_loopw [4] (fun i wr => ∃ k : Nat, k ≤ on - 1 ∧ i = .int .i64 k ∧ f (on - 1) = f k ∧ wr = w)
      (fun i _ => (intOf i).toNat)
    case atStart => exact ⟨on - 1, Nat.le_refl _, by go_num, rfl, rfl⟩
    case round =>
      obtain ⟨k, hk, rfl, hfe, rfl⟩ := hrel
      have HFE := Lib.hid hfe; clear hfe
      by_cases hlt : (0 : Int) < (k : Int)
      · obtain ⟨g, rfl, bg, ck, hc1, hc2⟩ := mine_at HB.out.o (k := k) (by rw [HON.out]; omega)
        obtain ⟨z, hz⟩ : ∃ z, zs.getD k 0 = z := ⟨_, rfl⟩
        rw [hz] at ck
        have hfk := HFK.out (k - 1)
        rw [show k - 1 + 1 = k by omega, hz] at hfk
        have HFKK := Lib.hid hfk; have HZ := Lib.hid hz
        clear hfk hz
        by_cases hin : 0 ≤ z ∧ z < (n : Int)
        · obtain ⟨hz0, hz1⟩ := hin
          obtain ⟨j, rfl⟩ : ∃ j : Nat, z = j := ⟨z.toNat, by omega⟩
          obtain ⟨p, hp⟩ := nd_at (ns := ns) (k := j) (by rw [HN.out]; omega)
          obtain ⟨gn, off, rfl, bgn, cn⟩ := node_at HB.out.n hp
          have hhn : hasName (ns.map Prod.fst) (j : Int) s = (p.1.name.toList == s.toList) := by
            unfold hasName; rw [decide_eq_true (by omega), Int.toNat_natCast, List.getElem?_map, hp]; rfl
          rw [hhn] at HFKK
          obtain ⟨⟨⟨nm, tx, pa, ats⟩, sl⟩, rfl⟩ : ∃ q : Nv, p = q := ⟨p, rfl⟩
          replace cn : _ = some (Value.string nm) := cn
          replace HFKK := Lib.hid (show f k = if (nm.toList == s.toList) = true then k else f (k - 1) from HFKK.out)
          have HNA := Lib.hid (nodeAt_in c gn off n nc j wr d0 (by omega) (by omega))
          clear hhn hp
          cases hnm : (nm.toList == s.toList) with
          | true =>
            have HX2 := Lib.hid (show f (on - 1) = k by rw [HFE.out, HFKK.out, hnm]; rfl)
            have hmt := mine_setT (HB.out.o.take HON.out.symm (show k ≤ on by omega)) HQ.out HBc.out (u := .slice (some ⟨g, 0, none⟩) k oc) (o := 1)
            have HO := Lib.hid ((HB.out.setT HQ.out HBc.out (u := .slice (some ⟨g, 0, none⟩) k oc) (o := 1)).numT hmt)
            clear hmt
            go_wp2_with (go_at_call 35; refine HNA.out.mono ?_; rintro e w' ⟨rfl, rfl⟩)
            (first | go_end0 | ((try simp only [Exit.inBlock, Exit.then]); refine bodyPost_ret (results_none rfl _ _ _) rfl ?_))
            exact ⟨_, rfl, HQ.out.set1 _, Upd.set, by rw [HX2.out]; exact HO.out⟩
          | false =>
            have HFS := Lib.hid (show f (on - 1) = f (k - 1) by rw [HFE.out, HFKK.out, hnm]; rfl)
            go_wp2_with (go_at_call 35; refine HNA.out.mono ?_; rintro e w' ⟨rfl, rfl⟩)
            go_roundw
            case rel => exact ⟨k - 1, by omega, by go_num, HFS.out, by first | trivial | rfl⟩
            case measure => simp [intOf]; omega
        · have hhn : hasName (ns.map Prod.fst) z s = false := by
            unfold hasName
            by_cases hz0 : 0 ≤ z
            · rw [List.getElem?_eq_none (by rw [List.length_map, HN.out]; omega)]; simp
            · rw [decide_eq_false hz0, Bool.false_and]
          rw [hhn] at HFKK
          have HFS := Lib.hid (show f (on - 1) = f (k - 1) by rw [HFE.out, HFKK.out]; rfl)
          have HNA := Lib.hid (nodeAt_out c n nc na z wr d0 (by omega) (by omega))
          clear hin hhn
          go_wp2_with (go_at_call 35; refine HNA.out.mono ?_; rintro e w' ⟨rfl, rfl⟩)
          go_roundw
          case rel => exact ⟨k - 1, by omega, by go_num, HFS.out, by first | trivial | rfl⟩
          case measure => simp [intOf]; omega
      · have hk0 : k = 0 := by omega
        subst hk0
        have HZ := Lib.hid (show zs.take (f (on - 1)) = zs by rw [HFE.out, HF0.out, ← HON.out, List.take_length])
        go_wp2_with fail
        (first | go_end0 | ((try simp only [Exit.inBlock, Exit.then]); refine bodyPost_ret (results_none rfl _ _ _) rfl ?_))
        exact ⟨rfl, _, HQ.out, Upd.refl _ _, by rw [HZ.out]; exact HB.out⟩

theorem cpA_up {w X : World} {v : Value} {xs : List At} (hr : ReadsK encA 2 w.heap.size w v xs) (hl : xs.length ≤ 68719476736) (hb : Below w.heap.size w X) :
    Calls Try.prog 53 #[v] X fun e w' => ∃ xa xn xc, e = .returned (.slice xa xn xc) ∧ OwnK encA 2 104 w.heap.size w'.heap.size w' (.slice xa xn xc) xs ∧ Below w.heap.size w w' := by
  refine (cpA_impl v _ xs X (hr.below hb (Nat.le_refl _)) hb.size (by omega)).mono ?_
  rintro e w' ⟨v', rfl, ho, hb'⟩
  obtain ⟨⟨a, n, c⟩, rfl⟩ := ho.sv
  exact ⟨a, n, c, rfl, ho.mono hb.size (Nat.le_refl _), hb.trans (hb'.mono hb.size)⟩
theorem openB_full {b : Bd} {n : ByteArray} {ats : List (ByteArray × ByteArray)} (hv : isVoid n = false) (h8 : 8 ≤ b.opn.length) : openB b n ats = (b, -1) := by
  unfold openB; rw [if_pos ⟨hv, h8⟩]
theorem openB_no {b : Bd} {n : ByteArray} {ats : List (ByteArray × ByteArray)} (hr : roomB b = false) : openB b n ats = (b, -1) := by
  unfold openB; split
  · rfl
  · rfl
theorem openB_yes {b : Bd} {n : ByteArray} {ats : List (ByteArray × ByteArray)} (hv : isVoid n = false) (h8 : ¬ 8 ≤ b.opn.length) (hr : roomB b = true) : openB b n ats = (⟨b.nodes ++ [⟨n, ⟨#[]⟩, lastOpen b, ats⟩], b.opn ++ [(b.nodes.length : Int)]⟩, (b.nodes.length : Int)) := by
  unfold openB; rw [if_neg (fun h => h8 h.2), if_neg (by rw [hr]; decide), if_pos hv]
theorem openB_void {b : Bd} {n : ByteArray} {ats : List (ByteArray × ByteArray)} (hv : isVoid n = true) (hr : roomB b = true) : openB b n ats = (⟨b.nodes ++ [⟨n, ⟨#[]⟩, lastOpen b, ats⟩], b.opn⟩, (b.nodes.length : Int)) := by
  unfold openB; rw [if_neg (fun h => by rw [hv] at h; exact absurd h.1 (by decide)), if_neg (by rw [hr]; decide), if_neg (by rw [hv]; decide)]
theorem op_ne : 94 ≠ 3 := by decide

set_option maxRecDepth 100000 in
set_option maxHeartbeats 8000000 in
theorem open_impl {B : Nat} {w0 w : World} {c : Nat} {nv ov : Value} {b : Bd} (nm : ByteArray) (ta : Option Addr) (tn tc : Nat) (ats : List At) (hq : Box2 w c nv ov) (hB : B ≤ c) (hb : BdAt B w0 w nv ov b) (hr : ReadsK encA 2 w.heap.size w (.slice ta tn tc) ats) (hta : ats.length ≤ 68719476736) (hln : b.nodes.length ≤ 68719476736) (hlz : b.opn.length ≤ 68719476736) :
    Calls Try.prog 54 #[.pointer (some ⟨c, 0, none⟩), .agg #[.string nm, .slice ta tn tc]] w (BOut B w0 c (openB b nm ats).1 (openB b nm ats).2 w) := by
  obtain ⟨ns, hns, hm, ho⟩ := hb
  have h : BdM B w0 w nv ov ns b.opn := ⟨hm, ho⟩
  obtain ⟨na, nc, rfl⟩ := mineN_form h.n
  obtain ⟨oa, oc, rfl⟩ := mine_form h.o
  obtain ⟨n, hn⟩ : ∃ n, ns.length = n := ⟨_, rfl⟩
  obtain ⟨on, hon⟩ : ∃ n, b.opn.length = n := ⟨_, rfl⟩
  have hnl : b.nodes.length = n := by rw [← hns, List.length_map, hn]
  rw [hnl] at hln; rw [hon] at hlz
  rw [hn] at h hq; rw [hon] at h hq
  obtain ⟨W0, hW0⟩ : ∃ W, w.alloc (.cells #[.string nm, .slice ta tn tc] 94) = W := ⟨_, rfl⟩
  have hb0 : Below w.heap.size w W0 := by rw [← hW0]; exact (Below.refl _ _).alloc (Nat.le_refl _) _
  have q4 : W0.heap[w.heap.size]? = some (.cells #[.string nm, .slice ta tn tc] 94 (0, 0)) := by rw [← hW0]; exact heap_alloc_new w _
  have HB := Lib.hid (h.later hb0); have HQ := Lib.hid (hq.later hb0); have HU0 := Lib.hid (show Upd c w W0 from Upd.below hb0)
  have HR := Lib.hid ((hr.below hb0 (Nat.le_refl _)).mono hb0.size)
  have bw : w.heap.size < W0.heap.size := heap_lt q4
  have bc : c < W0.heap.size := Nat.lt_trans hq.lt bw
  obtain ⟨⟨d0, d1⟩, f0, f1⟩ := HQ.out.cells
  have e0 : W0.cell? ⟨w.heap.size, 0, none⟩ = some (.string nm) := box_cell q4 rfl
  have e1 : W0.cell? ⟨w.heap.size, 1, none⟩ = some (.slice ta tn tc) := box_cell q4 rfl
  have HNS := Lib.hid hns; have HN := Lib.hid hn; have HON := Lib.hid hon; have HNL := Lib.hid hnl; have HW0 := Lib.hid hW0; have HBc := Lib.hid hB; have HTA := Lib.hid hta
  have HBS := Lib.hid h.n.row.size
  clear hns hm ho h hn hon hnl hW0 hq hr hb0 q4 hB hta
  by_cases hfull : isVoid nm = false ∧ (8 : Int) ≤ (on : Int)
  · obtain ⟨hv, h8⟩ := hfull
    have HE := Lib.hid (openB_full (b := b) (ats := ats) hv (by rw [HON.out]; omega))
    go_enter Try.func54, Try.ntmps54
    go_upto_region 1 with (fail)
    rw [HW0.out]
    go_wp2_with (go_at_call 65; refine (void_impl _ _).mono ?_; rintro e w' ⟨rfl, rfl⟩)
    go_ret
    exact ⟨_, _, by rw [HE.out]; rfl, HQ.out, HU0.out, by rw [HE.out]; exact HB.out.at HNS.out⟩
  have HBW := Lib.hid (show B ≤ W0.heap.size by have := HBS.out; omega)
  have HFR := Lib.hid (fun (xa : Option Addr) (xn xc : Nat) (wC : World) (ho : OwnK encA 2 104 W0.heap.size wC.heap.size wC (.slice xa xn xc) ats) => show ∀ g, (sv (xa, xn, xc)).ownBlock = some g → g ∉ insN ns from fun g hg hm => by
    have h1 := (ho.lt g hg).1
    have h2 := (HB.out.n.lt g hm).2
    omega)
  have hcv : ∀ v, isVoid nm = v → v = true ∨ ¬ (8 : Int) ≤ (on : Int) := fun v hv => by
    cases v
    · right; intro h8; exact hfull ⟨hv, h8⟩
    · left; rfl
  clear hfull
  by_cases hc : 40 ≤ ns.length ∨ b.opn.length = 0
  · have HE := Lib.hid (openB_no (b := b) (n := nm) (ats := ats) (roomB_no (by rw [HNL.out]; rw [HN.out] at hc; exact hc)))
    have HC := Lib.hid hc; clear hc
    cases hv : isVoid nm with
    | true =>
      go_enter Try.func54, Try.ntmps54
      go_upto_region 1 with (fail)
      rw [HW0.out]
      go_wp2_with (go_at_call 65; refine (void_impl _ _).mono ?_; rintro e w' ⟨rfl, rfl⟩)
      go_region_with (first
        | (go_at_call 53; refine (cpA_up HR.out HTA.out (by repeat' (first | (with_reducible exact Below.refl _ _) | (with_reducible refine bl_dr ?_) | (with_reducible refine bl_al ?_ _)))).mono ?_; rintro e wC ⟨xa, xn, xc, rfl, hoC, hbC⟩; have e0C := (hbC.cell bw).trans e0; have hoB := hoC.mono HBW.out (Nat.le_refl _))
        | (go_at_call 66; refine (push_no (⟨nm, ⟨#[]⟩, 0, ats⟩, (xa, xn, xc)) (HQ.out.later (by repeat' (first | (with_reducible exact hbC) | (with_reducible refine bl_dr ?_)))) HBc.out (HB.out.later (by repeat' (first | (with_reducible exact hbC) | (with_reducible refine bl_dr ?_)))) (own_up hoB (by repeat' (first | (with_reducible exact Below.refl _ _) | (with_reducible refine bl_dr ?_)))) (HFR.out _ _ _ _ hoC) (by rw [HN.out]; exact hln) (by rw [HON.out]; exact hlz) HC.out rfl rfl rfl rfl).mono ?_; rintro e wP ⟨a1, n1, c1, a2, n2, c2, rfl, hqP, huP, hbP⟩; have hUP := (HU0.out.trans (Upd.below (by repeat' (first | (with_reducible exact hbC) | (with_reducible refine bl_dr ?_))))).trans huP))
      all_goals
        have HQP := Lib.hid hqP; have HUP := Lib.hid hUP; have HBP := Lib.hid hbP
        obtain ⟨⟨x0, x1⟩, y0, y1⟩ := hqP.cells
        have bcP := hqP.lt
        clear hqP huP hUP hbP hoC hbC hoB e0C
        go_wp2_with fail
        go_ret
        exact ⟨_, _, by rw [HE.out]; rfl, HQP.out, HUP.out, by rw [HE.out]; exact HBP.out.at HNS.out⟩
    | false =>
      have hd8 : decide ((8 : Int) ≤ (on : Int)) = false := decide_eq_false (by rcases hcv false hv with h | h; cases h; exact h)
      go_enter Try.func54, Try.ntmps54
      go_upto_region 1 with (fail)
      rw [HW0.out]
      go_wp2_with (go_at_call 65; refine (void_impl _ _).mono ?_; rintro e w' ⟨rfl, rfl⟩)
      go_region_with (first
        | (go_at_call 53; refine (cpA_up HR.out HTA.out (by repeat' (first | (with_reducible exact Below.refl _ _) | (with_reducible refine bl_dr ?_) | (with_reducible refine bl_al ?_ _)))).mono ?_; rintro e wC ⟨xa, xn, xc, rfl, hoC, hbC⟩; have e0C := (hbC.cell bw).trans e0; have hoB := hoC.mono HBW.out (Nat.le_refl _))
        | (go_at_call 66; refine (push_no (⟨nm, ⟨#[]⟩, 0, ats⟩, (xa, xn, xc)) (HQ.out.later (by repeat' (first | (with_reducible exact hbC) | (with_reducible refine bl_dr ?_)))) HBc.out (HB.out.later (by repeat' (first | (with_reducible exact hbC) | (with_reducible refine bl_dr ?_)))) (own_up hoB (by repeat' (first | (with_reducible exact Below.refl _ _) | (with_reducible refine bl_dr ?_)))) (HFR.out _ _ _ _ hoC) (by rw [HN.out]; exact hln) (by rw [HON.out]; exact hlz) HC.out rfl rfl rfl rfl).mono ?_; rintro e wP ⟨a1, n1, c1, a2, n2, c2, rfl, hqP, huP, hbP⟩; have hUP := (HU0.out.trans (Upd.below (by repeat' (first | (with_reducible exact hbC) | (with_reducible refine bl_dr ?_))))).trans huP))
      all_goals
        have HQP := Lib.hid hqP; have HUP := Lib.hid hUP; have HBP := Lib.hid hbP
        obtain ⟨⟨x0, x1⟩, y0, y1⟩ := hqP.cells
        have bcP := hqP.lt
        clear hqP huP hUP hbP hoC hbC hoB e0C
        go_wp2_with fail
        go_ret
        exact ⟨_, _, by rw [HE.out]; rfl, HQP.out, HUP.out, by rw [HE.out]; exact HBP.out.at HNS.out⟩
  · have hrm : roomB b = true := roomB_yes (by rw [HNL.out]; rw [HN.out] at hc; omega) (by omega)
    have HC := Lib.hid hc; clear hc
    cases hv : isVoid nm with
    | true =>
      have HE := Lib.hid (openB_void (b := b) (ats := ats) hv hrm)
      go_enter Try.func54, Try.ntmps54
      go_upto_region 1 with (fail)
      rw [HW0.out]
      go_wp2_with (go_at_call 65; refine (void_impl _ _).mono ?_; rintro e w' ⟨rfl, rfl⟩)
      go_region_with (first
        | (go_at_call 53; refine (cpA_up HR.out HTA.out (by repeat' (first | (with_reducible exact Below.refl _ _) | (with_reducible refine bl_dr ?_) | (with_reducible refine bl_al ?_ _)))).mono ?_; rintro e wC ⟨xa, xn, xc, rfl, hoC, hbC⟩; have e0C := (hbC.cell bw).trans e0; have hoB := hoC.mono HBW.out (Nat.le_refl _))
        | (go_at_call 66; refine (push_yes (⟨nm, ⟨#[]⟩, 0, ats⟩, (xa, xn, xc)) (HQ.out.later (by repeat' (first | (with_reducible exact hbC) | (with_reducible refine bl_dr ?_)))) HBc.out (HB.out.later (by repeat' (first | (with_reducible exact hbC) | (with_reducible refine bl_dr ?_)))) (own_up hoB (by repeat' (first | (with_reducible exact Below.refl _ _) | (with_reducible refine bl_dr ?_)))) (HFR.out _ _ _ _ hoC) (by rw [HN.out]; exact hln) (by rw [HON.out]; exact hlz) HC.out rfl rfl rfl rfl).mono ?_; rintro e wP ⟨a1, n1, c1, a2, c2, rfl, hqP, huP, hbP⟩; have hUP := (HU0.out.trans (Upd.below (by repeat' (first | (with_reducible exact hbC) | (with_reducible refine bl_dr ?_))))).trans huP))
      all_goals
        have HQP := Lib.hid hqP; have HUP := Lib.hid hUP; have HBP := Lib.hid hbP
        obtain ⟨⟨x0, x1⟩, y0, y1⟩ := hqP.cells
        have bcP := hqP.lt
        clear hqP huP hUP hbP hoC hbC hoB e0C
        go_wp2_with fail
        go_ret
        exact ⟨_, _, by rw [HE.out]; exact ret_i (by rw [HNL.out, HN.out]), HQP.out, HUP.out, by rw [HE.out]; exact HBP.out.at (b := ⟨b.nodes ++ [⟨nm, ⟨#[]⟩, lastOpen b, ats⟩], b.opn⟩) (by rw [List.map_append, HNS.out]; rfl)⟩
    | false =>
      have hd8 : decide ((8 : Int) ≤ (on : Int)) = false := decide_eq_false (by rcases hcv false hv with h | h; cases h; exact h)
      have HE := Lib.hid (openB_yes (b := b) (ats := ats) hv (by rw [HON.out]; rcases hcv false hv with h | h; cases h; omega) hrm)
      go_enter Try.func54, Try.ntmps54
      go_upto_region 1 with (fail)
      rw [HW0.out]
      go_wp2_with (go_at_call 65; refine (void_impl _ _).mono ?_; rintro e w' ⟨rfl, rfl⟩)
      go_region_with (first
        | (go_at_call 53; refine (cpA_up HR.out HTA.out (by repeat' (first | (with_reducible exact Below.refl _ _) | (with_reducible refine bl_dr ?_) | (with_reducible refine bl_al ?_ _)))).mono ?_; rintro e wC ⟨xa, xn, xc, rfl, hoC, hbC⟩; have e0C := (hbC.cell bw).trans e0; have hoB := hoC.mono HBW.out (Nat.le_refl _))
        | (go_at_call 66; refine (push_yes (⟨nm, ⟨#[]⟩, 0, ats⟩, (xa, xn, xc)) (HQ.out.later (by repeat' (first | (with_reducible exact hbC) | (with_reducible refine bl_dr ?_)))) HBc.out (HB.out.later (by repeat' (first | (with_reducible exact hbC) | (with_reducible refine bl_dr ?_)))) (own_up hoB (by repeat' (first | (with_reducible exact Below.refl _ _) | (with_reducible refine bl_dr ?_)))) (HFR.out _ _ _ _ hoC) (by rw [HN.out]; exact hln) (by rw [HON.out]; exact hlz) HC.out rfl rfl rfl rfl).mono ?_; rintro e wP ⟨a1, n1, c1, a2, c2, rfl, hqP, huP, hbP⟩; have hUP := (HU0.out.trans (Upd.below (by repeat' (first | (with_reducible exact hbC) | (with_reducible refine bl_dr ?_))))).trans huP))
      all_goals
        have HQP := Lib.hid hqP; have HUP := Lib.hid hUP; have HBP := Lib.hid hbP
        obtain ⟨⟨x0, x1⟩, y0, y1⟩ := hqP.cells
        have bcP := hqP.lt
        clear hqP huP hUP hbP hoC hbC hoB e0C
        have hne : ((ns.length : Int) == -1) = false := beq_eq_false_iff_ne.2 (by omega)
        go_wp2_with (at_builtin; refine wpList_appIG rfl _ _ rfl B w0 _ b.opn rfl (HBP.out.o.later ((Below.refl _ _).alloc (Nat.le_refl _) _)) _ _ [(ns.length : Int)] rfl (reads_one .i64 _ wP rfl) ?cl ?_)
        case cl => have := HON.out; simp; omega
        intro v7 w7 hm7 hg7
        obtain ⟨a7, c7, hv7⟩ := mine_form hm7
        obtain ⟨n7, hn7⟩ : ∃ m, (b.opn ++ [(ns.length : Int)]).length = m := ⟨_, rfl⟩
        rw [hn7] at hv7; subst hv7
        have hM6 := HBP.out.later ((Below.refl _ _).alloc (Nat.le_refl _) (.cells #[.int .i64 (ns.length : Int)] 3))
        have hk7 := keep_of hM6.o.row hg7
        have t3 := Lib.hid ((HQP.out.alloc (.cells #[.int .i64 (ns.length : Int)] 3)).keep hk7 bd_ne.2.2)
        have HB7 := Lib.hid (hM6.num hm7 hg7)
        have HU7 := Lib.hid ((HUP.out.alloc (.cells #[.int .i64 (ns.length : Int)] 3)).trans (Upd.keep hk7 bd_ne.2.2))
        obtain ⟨⟨d7, d8⟩, f7, f8⟩ := t3.out.cells
        have HB8 := Lib.hid (HB7.out.setT (u := .slice a7 n7 c7) (o := 1) t3.out HBc.out)
        clear hm7 hg7 hM6 hk7 hn7
        go_wp2_with fail
        go_ret
        exact ⟨_, _, by rw [HE.out]; exact ret_i (by rw [HNL.out, HN.out]), t3.out.set1 _, HU7.out.trans Upd.set, by rw [HE.out]; rw [show ns.length = b.nodes.length by rw [HNL.out, HN.out]] at HB8; exact HB8.out.at (b := ⟨b.nodes ++ [⟨nm, ⟨#[]⟩, lastOpen b, ats⟩], b.opn ++ [(b.nodes.length : Int)]⟩) (by rw [List.map_append, HNS.out]; rfl)⟩
end Go.Proofs.Ytiginllbfjekeaa
