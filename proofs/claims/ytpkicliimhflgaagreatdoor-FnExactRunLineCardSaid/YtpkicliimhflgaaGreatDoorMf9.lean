/- Helper contracts: l6Close, AddToken and AddTokens of the model. Asked: as in l6Copy's. Helper contracts: appendNode, appendText, openElement, closeElement, addMarkup of the program: what they do to a builder of the call's own in a box. -/
import Derived.Test.YtpkicliimhflgaaGreatDoorMf8
import Derived.Deep.RegionWith
import Derived.Deep.CutRange
import Derived.Deep.RegionHeld3
import Derived.Deep.RegionLaw
namespace Go.Proofs.YtpkicliimhflgaaGreatDoor

open Go.ChangeShapes Go.WideShapes Go.ChangeAt Go.RowKit

theorem BdM.numT {B : Nat} {w0 w : World} {nv ov ov' : Value} {ns : List Nv} {zs zs' : List Int} (h : BdM B w0 w nv ov ns zs) (hm : Mine .i64 3 B w0 w ov' zs') : BdM B w0 w nv ov' ns zs' := ⟨h.n, hm⟩
theorem mine_at {B n cap k : Nat} {w0 w : World} {a : Option Addr} {zs : List Int} (h : Mine .i64 3 B w0 w (.slice a n cap) zs) (hk : k < zs.length) :
    ∃ g, a = some ⟨g, 0, none⟩ ∧ g < w.heap.size ∧ w.cell? ⟨g, k, none⟩ = some (.int .i64 (zs.getD k 0)) ∧ n ≤ cap ∧ cap ≤ maxLen := by
  rcases h.row.2 with ⟨e, h0⟩ | ⟨g, cap', cur, e, hg, hh, hc, hm, _⟩
  · omega
  · obtain ⟨g', off, e', hlt, hcell⟩ := reads_at h.own.reads hk
    cases e
    cases e'
    exact ⟨g, rfl, hlt, by simpa using hcell, hc, hm⟩
theorem node_at {B n cap : Nat} {w0 w : World} {a : Option Addr} {ns : List Nv} {j : Nat} {p : Nv} (h : MineN B w0 w (.slice a n cap) ns) (hj : ns[j]? = some p) :
    ∃ g off, a = some ⟨g, off, none⟩ ∧ g < w.heap.size ∧ w.cell? ⟨g, off + j * 4, none⟩ = some (.string p.1.name) := by
  obtain ⟨g, off, e, hg, c0, _⟩ := (h.reads (Nat.le_refl _)).at hj
  exact ⟨g, off, e, hg, c0⟩

set_option maxRecDepth 100000 in
set_option maxHeartbeats 4000000 in
theorem close_spec {B : Nat} {w0 w : World} {nv ov : Value} {ns : List Nv} {zs : List Int} (s : ByteArray) (h : BdM B w0 w nv ov ns zs) (hln : ns.length ≤ 68719476736) (hlz : zs.length ≤ 68719476736) :
    Calls Tryz.prog 142 #[.agg #[nv, ov], .string s] w fun e w' => ∃ ov', e = .returned (.agg #[nv, ov']) ∧ BdM B w0 w' nv ov' ns (closeB ⟨ns.map Prod.fst, zs⟩ s).opn ∧ Below w.heap.size w w' := by
  obtain ⟨na, nc, rfl⟩ := mineN_form h.n
  obtain ⟨oa, oc, rfl⟩ := mine_form h.o
  obtain ⟨n, hn⟩ : ∃ n, ns.length = n := ⟨_, rfl⟩
  obtain ⟨on, hon⟩ : ∃ n, zs.length = n := ⟨_, rfl⟩
  rw [hn] at h hln ⊢; rw [hon] at h hlz ⊢
  obtain ⟨W0, hW0⟩ : ∃ W, (w.alloc (.cells #[.slice na n nc, .slice oa on oc] 41)).alloc (.cells #[.slice none 0 0, .slice none 0 0] 41) = W := ⟨_, rfl⟩
  have q1 : Box2 W0 w.heap.size (.slice na n nc) (.slice oa on oc) := by rw [← hW0]; exact (Box2.new _ _ _).alloc _
  have q2 : Box2 W0 (w.heap.size + 1) (.slice none 0 0) (.slice none 0 0) := by rw [← hW0, ← size_alloc w]; exact Box2.new _ _ _
  have hB0 : Below w.heap.size w W0 := by rw [← hW0]; exact ((Below.refl _ _).alloc (Nat.le_refl _) _).alloc (by rw [size_alloc]; omega) _
  have hbd := h.later hB0
  have hBH : B ≤ w.heap.size := h.n.row.size
  obtain ⟨f, hf⟩ : ∃ f, f = closeN ⟨ns.map Prod.fst, zs⟩ s := ⟨_, rfl⟩
  have hcb : (closeB ⟨ns.map Prod.fst, zs⟩ s).opn = zs.take (f (on - 1)) := by rw [hf, ← hon]; rfl
  rw [hcb]
  have hf0 : f 0 = on := by rw [hf, ← hon]; rfl
  have hfk : ∀ k, f (k + 1) = if hasName (ns.map Prod.fst) (zs.getD (k + 1) 0) s then k + 1 else f k := by intro k; rw [hf]; rfl
  have HN := Lib.hid hn; have HON := Lib.hid hon; have Q1 := Lib.hid q1; have Q2 := Lib.hid q2; have HB := Lib.hid hbd; have HF0 := Lib.hid hf0; have HFK := Lib.hid hfk; have HW0 := Lib.hid hW0
  have d1 := q1.cells.1.1; have d2 := q1.cells.1.2
  have bH : w.heap.size < W0.heap.size := q1.lt
  obtain ⟨⟨g0, g1⟩, f0, f1⟩ := q2.cells
  obtain ⟨⟨_, _⟩, f2, f3⟩ := q1.cells
  have HBH := Lib.hid hBH; have HBW := Lib.hid hB0
  clear h hn hon hW0 q1 q2 hB0 hbd hcb hf0 hfk hf hBH
  by_cases h0 : on = 0
  · subst h0
    have HX := Lib.hid ((HB.out.setT (u := .slice na n nc) (o := 0) Q2.out (Nat.le_succ_of_le HBH.out)).setT (o := 1) (u := .slice oa 0 oc) (Q2.out.set0 _) (Nat.le_succ_of_le HBH.out))
    have HRS := Lib.hid ((Q2.out.set0 (.slice na n nc)).set1 (.slice oa 0 oc))
    have HZ := Lib.hid (show zs.take (f (0 - 1)) = zs by rw [List.eq_nil_of_length_eq_zero HON.out]; simp)
    go_enter Tryz.func142, Tryz.ntmps142
    go_wp2_with fail
    rw [HW0.out]
    go_loopw [5] (fun i wr => i = .int .i64 (-1) ∧ wr = W0) (fun _ _ => 0)
    case atStart => exact ⟨rfl, rfl⟩
    case round =>
      obtain ⟨rfl, rfl⟩ := hrel
      go_wp2_with fail
      obtain ⟨⟨r0, r1⟩, _⟩ := HRS.out.cells
      refine bodyPost_ret (v := .agg #[.slice na n nc, .slice oa 0 oc]) (by simp [results, Tryz.results142, go_sem, r0, r1]) rfl ?_
      exact ⟨_, rfl, by rw [HZ.out]; exact HX.out, (HBW.out.setCell (Nat.le_succ _) _).setCell (Nat.le_succ _) _⟩
  · go_enter Tryz.func142, Tryz.ntmps142
    go_wp2_with fail
    rw [HW0.out]
    go_loopw [5] (fun i wr => ∃ k : Nat, k ≤ on - 1 ∧ i = .int .i64 k ∧ f (on - 1) = f k ∧ wr = W0)
      (fun i _ => (intOf i).toNat)
    case atStart => exact ⟨on - 1, Nat.le_refl _, by go_num, rfl, rfl⟩
    case round =>
      obtain ⟨k, hk, rfl, hfe, rfl⟩ := hrel
      have HFE := Lib.hid hfe; clear hfe
      by_cases hlt : (0 : Int) < (k : Int)
      · obtain ⟨g, rfl, bg, ck, hc1, hc2⟩ := mine_at HB.out.o (k := k) (by rw [HON.out]; omega)
        obtain ⟨z, hz⟩ : ∃ z, zs.getD k 0 = z := ⟨_, rfl⟩
        rw [hz] at ck
        have hfk := HFK.out (k - 1)
        rw [show k - 1 + 1 = k by omega, hz] at hfk
        have HFKK := Lib.hid hfk; have HZ := Lib.hid hz
        clear hfk hz
        by_cases hin : 0 ≤ z ∧ z < (n : Int)
        · obtain ⟨hz0, hz1⟩ := hin
          obtain ⟨j, rfl⟩ : ∃ j : Nat, z = j := ⟨z.toNat, by omega⟩
          obtain ⟨p, hp⟩ := nd_at (ns := ns) (k := j) (by rw [HN.out]; omega)
          obtain ⟨gn, off, rfl, bgn, cn⟩ := node_at HB.out.n hp
          have hin : inB (j : Int) 0 ((n : Int) - 1) = true := inB_yes (by omega) (by omega)
          have hhn : hasName (ns.map Prod.fst) (j : Int) s = (p.1.name.toList == s.toList) := by
            unfold hasName; rw [decide_eq_true (by omega), Int.toNat_natCast, List.getElem?_map, hp]; rfl
          rw [hhn] at HFKK
          obtain ⟨⟨⟨nm, tx, pa, ats⟩, sl⟩, rfl⟩ : ∃ q : Nv, p = q := ⟨p, rfl⟩
          replace cn : _ = some (Value.string nm) := cn
          replace HFKK := Lib.hid (show f k = if (nm.toList == s.toList) = true then k else f (k - 1) from HFKK.out)
          clear hhn hp
          cases hnm : (nm.toList == s.toList) with
          | true =>
            have HX2 := Lib.hid (show f (on - 1) = k by rw [HFE.out, HFKK.out, hnm]; rfl)
            have HMT := Lib.hid (HB.out.o.take HON.out.symm (show k ≤ on by omega))
            have HX := Lib.hid (((HB.out.setT (u := .slice (some ⟨g, 0, none⟩) k oc) (o := 1) Q1.out HBH.out).setT (u := .slice (some ⟨gn, off, none⟩) n nc) (o := 0) (Q2.out.far (by omega) _) (Nat.le_succ_of_le HBH.out)).setT (o := 1) (u := .slice (some ⟨g, 0, none⟩) k oc) ((Q2.out.far (by omega) _).set0 _) (Nat.le_succ_of_le HBH.out))
            have HRS := Lib.hid (((Q2.out.far (show w.heap.size + 1 ≠ w.heap.size by omega) (o := 1) (.slice (some ⟨g, 0, none⟩) k oc)).set0 (.slice (some ⟨gn, off, none⟩) n nc)).set1 (.slice (some ⟨g, 0, none⟩) k oc))
            go_wp2_with (go_at_call 70; refine (lin_any _ _ _ _).mono ?_; rintro e w' ⟨rfl, rfl⟩)
            obtain ⟨⟨r0, r1⟩, _⟩ := HRS.out.cells
            refine bodyPost_ret (v := .agg #[.slice (some ⟨gn, off, none⟩) n nc, .slice (some ⟨g, 0, none⟩) k oc]) (by simp [results, Tryz.results142, go_sem, r0, r1]) rfl ?_
            have hmt := (((mine_setT HMT.out Q1.out HBH.out (u := .slice (some ⟨g, 0, none⟩) k oc) (o := 1))))
            have hmt2 := mine_setT (u := .slice (some ⟨gn, off, none⟩) n nc) (o := 0) hmt (Q2.out.far (by omega) _) (Nat.le_succ_of_le HBH.out)
            have hmt3 := mine_setT (o := 1) (u := .slice (some ⟨g, 0, none⟩) k oc) hmt2 ((Q2.out.far (by omega) _).set0 _) (Nat.le_succ_of_le HBH.out)
            exact ⟨_, rfl, by rw [HX2.out]; exact HX.out.numT hmt3, ((HBW.out.setCell (Nat.le_refl _) _).setCell (Nat.le_succ _) _).setCell (Nat.le_succ _) _⟩
          | false =>
            have HFS := Lib.hid (show f (on - 1) = f (k - 1) by rw [HFE.out, HFKK.out, hnm]; rfl)
            go_wp2_with (go_at_call 70; refine (lin_any _ _ _ _).mono ?_; rintro e w' ⟨rfl, rfl⟩)
            go_roundw
            case rel => exact ⟨k - 1, by omega, by go_num, HFS.out, by first | trivial | rfl⟩
            case measure => simp [intOf]; omega
        · have hin2 : inB z 0 ((n : Int) - 1) = false := inB_no (by omega)
          have hhn : hasName (ns.map Prod.fst) z s = false := by
            unfold hasName
            by_cases hz0 : 0 ≤ z
            · rw [List.getElem?_eq_none (by rw [List.length_map, HN.out]; omega)]; simp
            · rw [decide_eq_false hz0, Bool.false_and]
          rw [hhn] at HFKK
          have HFS := Lib.hid (show f (on - 1) = f (k - 1) by rw [HFE.out, HFKK.out]; rfl)
          clear hin hhn
          go_wp2_with (go_at_call 70; refine (lin_any _ _ _ _).mono ?_; rintro e w' ⟨rfl, rfl⟩)
          go_roundw
          case rel => exact ⟨k - 1, by omega, by go_num, HFS.out, by first | trivial | rfl⟩
          case measure => simp [intOf]; omega
      · have hk0 : k = 0 := by omega
        subst hk0
        have HX := Lib.hid ((HB.out.setT (u := .slice na n nc) (o := 0) Q2.out (Nat.le_succ_of_le HBH.out)).setT (o := 1) (u := .slice oa on oc) (Q2.out.set0 _) (Nat.le_succ_of_le HBH.out))
        have HRS := Lib.hid ((Q2.out.set0 (.slice na n nc)).set1 (.slice oa on oc))
        have HZ := Lib.hid (show zs.take (f (on - 1)) = zs by rw [HFE.out, HF0.out, ← HON.out, List.take_length])
        go_wp2_with fail
        obtain ⟨⟨r0, r1⟩, _⟩ := HRS.out.cells
        refine bodyPost_ret (v := .agg #[.slice na n nc, .slice oa on oc]) (by simp [results, Tryz.results142, go_sem, r0, r1]) rfl ?_
        exact ⟨_, rfl, by rw [HZ.out]; exact HX.out, (HBW.out.setCell (Nat.le_succ _) _).setCell (Nat.le_succ _) _⟩
/-- A box of a token. -/
def BoxT (w : World) (c : Nat) (k : Int) (nm : ByteArray) (v : Value) (tx : ByteArray) : Prop := w.heap[c]? = some (.cells #[.int .i64 k, .string nm, v, .string tx] 154 (0, 0))
theorem BoxT.lt {w : World} {c : Nat} {k : Int} {nm tx : ByteArray} {v : Value} (h : BoxT w c k nm v tx) : c < w.heap.size := heap_lt h
theorem BoxT.later {w w' : World} {c : Nat} {k : Int} {nm tx : ByteArray} {v : Value} (h : BoxT w c k nm v tx) (hb : Below w.heap.size w w') : BoxT w' c k nm v tx := below_heap hb (heap_lt h) h
theorem BoxT.keep {w w' : World} {c : Nat} {k : Int} {nm tx : ByteArray} {v : Value} {e : TypeId} (h : BoxT w c k nm v tx) (hk : KeepT e w w') (hne : 154 ≠ e) : BoxT w' c k nm v tx := hk c _ _ hne h
theorem BoxT.new (w : World) (k : Int) (nm : ByteArray) (v : Value) (tx : ByteArray) : BoxT (w.alloc (.cells #[.int .i64 k, .string nm, v, .string tx] 154)) w.heap.size k nm v tx := heap_alloc_new w _
theorem BoxT.alloc {w : World} {c : Nat} {k : Int} {nm tx : ByteArray} {v : Value} (h : BoxT w c k nm v tx) (o : Obj) : BoxT (w.alloc o) c k nm v tx := h.later ((Below.refl _ _).alloc (Nat.le_refl _) o)
theorem BoxT.cells {w : World} {c : Nat} {k : Int} {nm tx : ByteArray} {v : Value} (h : BoxT w c k nm v tx) :
    w.cell? ⟨c, 0, none⟩ = some (.int .i64 k) ∧ w.cell? ⟨c, 1, none⟩ = some (.string nm) ∧ w.cell? ⟨c, 2, none⟩ = some v ∧ w.cell? ⟨c, 3, none⟩ = some (.string tx) := (cells_four h).1

/-- What AddToken answers. -/
def AddOut (b : Bd) (t : Tok) (w : World) (e : Ending) (w' : World) : Prop :=
  ∃ nv ov, e = .returned (.tuple #[.agg #[nv, ov], .int .i64 (addTok b t).2]) ∧ BdAt w.heap.size w w' nv ov (addTok b t).1
theorem add_kind {b : Bd} {t : Tok} (h1 : t.kind ≠ 1) (h2 : t.kind ≠ 2) (h3 : t.kind ≠ 3) : addTok b t = (b, -1) := by
  unfold addTok; rw [if_neg h1, if_neg h2, if_neg h3]
theorem add_close {b : Bd} {t : Tok} (h : t.kind = 2) : addTok b t = (closeB b t.name, -1) := by
  unfold addTok; rw [if_neg (by omega), if_pos h]
theorem roomB_no {b : Bd} (h : 40 ≤ b.nodes.length ∨ b.opn.length = 0) : roomB b = false := by
  unfold roomB
  rcases h with h | h
  · rw [decide_eq_false (show ¬ b.nodes.length < 40 by omega)]; rfl
  · rw [decide_eq_false (show ¬ 0 < b.opn.length by omega), Bool.and_false]
theorem roomB_yes {b : Bd} (h1 : b.nodes.length < 40) (h2 : 0 < b.opn.length) : roomB b = true := by
  unfold roomB; rw [decide_eq_true h1, decide_eq_true h2]; rfl
theorem add_noroom {b : Bd} {t : Tok} (h : roomB b = false) (h2 : t.kind ≠ 2) : addTok b t = (b, -1) := by
  unfold addTok openB textB
  rw [if_neg h2]
  split
  · split
    · rfl
    · rfl
  · split
    · rw [if_pos (Or.inr h)]
    · rfl
theorem add_full {b : Bd} {t : Tok} (h : t.kind = 1) (hv : isVoid t.name = false) (h8 : 8 ≤ b.opn.length) : addTok b t = (b, -1) := by
  unfold addTok openB; rw [if_pos h, if_pos ⟨hv, h8⟩]
theorem add_open {b : Bd} {t : Tok} (h : t.kind = 1) (hv : isVoid t.name = false) (h8 : ¬ 8 ≤ b.opn.length) (hr : roomB b = true) : addTok b t = (⟨b.nodes ++ [⟨t.name, ⟨#[]⟩, lastOpen b, t.attrs⟩], b.opn ++ [(b.nodes.length : Int)]⟩, (b.nodes.length : Int)) := by
  unfold addTok openB; rw [if_pos h, if_neg (fun h => h8 h.2), if_neg (by rw [hr]; decide), if_pos hv]
theorem add_void {b : Bd} {t : Tok} (h : t.kind = 1) (hv : isVoid t.name = true) (hr : roomB b = true) : addTok b t = (⟨b.nodes ++ [⟨t.name, ⟨#[]⟩, lastOpen b, t.attrs⟩], b.opn⟩, (b.nodes.length : Int)) := by
  unfold addTok openB; rw [if_pos h, if_neg (fun h => by rw [hv] at h; exact absurd h.1 (by decide)), if_neg (by rw [hr]; decide), if_neg (by rw [hv]; decide)]
theorem add_text {b : Bd} {t : Tok} (h : t.kind = 3) (hx : t.text.size ≠ 0) (hr : roomB b = true) : addTok b t = (⟨b.nodes ++ [⟨⟨#[]⟩, t.text, lastOpen b, []⟩], b.opn⟩, (b.nodes.length : Int)) := by
  unfold addTok textB; rw [if_neg (by omega), if_neg (by omega), if_pos h, if_neg (by rintro (h1 | h1); exact hx h1; rw [hr] at h1; exact absurd h1 (by decide))]
theorem add_empty {b : Bd} {t : Tok} (h : t.kind = 3) (hx : t.text.size = 0) : addTok b t = (b, -1) := by
  unfold addTok textB; rw [if_neg (by omega), if_neg (by omega), if_pos h, if_pos (Or.inl hx)]

theorem out_box {B c : Nat} {w0 wr : World} {x y nv ov : Value} {ns : List Nv} {zs : List Int} (h : BdM B w0 wr nv ov ns zs) (hc : Box2 wr c x y) (hB : B ≤ c) :
    Box2 ((wr.setCell ⟨c, 0, none⟩ nv).setCell ⟨c, 1, none⟩ ov) c nv ov ∧ BdM B w0 ((wr.setCell ⟨c, 0, none⟩ nv).setCell ⟨c, 1, none⟩ ov) nv ov ns zs := ⟨(hc.set0 _).set1 _, (h.setT hc hB).setT (hc.set0 _) hB⟩
theorem reads_at1 (w : World) (H : Nat) (hH : w.heap.size = H) (z : Int) : Reads .i64 (H + 1) (w.alloc (.cells #[.int .i64 z] 3)) (.slice (some ⟨H, 0, none⟩) 1 1) [z] := by subst hH; exact reads_one .i64 _ w rfl

set_option maxRecDepth 100000 in
set_option maxHeartbeats 8000000 in
theorem add_spec (nv ov : Value) (b : Bd) (t : Tok) (ta : Option Addr) (tn tc : Nat) (w : World) (hb : BdIn w.heap.size w nv ov b) (hf : Fits b) (ht : ReadsK encA 2 w.heap.size w (.slice ta tn tc) t.attrs) (hta : t.attrs.length ≤ 68719476736) :
    Calls Tryz.prog 107 #[.agg #[nv, ov], .agg #[.int .i64 t.kind, .string t.name, .slice ta tn tc, .string t.text]] w (AddOut b t w) := by
  obtain ⟨kd, nm, ats, tx⟩ := t
  dsimp only at ht hta ⊢
  obtain ⟨ns, hns, hrn, hro⟩ := id hb
  obtain ⟨na, nc, rfl, hn1, hn2⟩ := hrn.form
  obtain ⟨oa, oc, rfl, ho1, ho2⟩ := reads_form hro
  obtain ⟨n, hn⟩ : ∃ n, ns.length = n := ⟨_, rfl⟩
  obtain ⟨on, hon⟩ : ∃ n, b.opn.length = n := ⟨_, rfl⟩
  rw [hn] at hrn hn1 hb ⊢; rw [hon] at hro ho1 hb ⊢
  have hnl : b.nodes.length = n := by rw [← hns, List.length_map, hn]
  obtain ⟨W0, hW0⟩ : ∃ W, ((w.alloc (.cells #[.slice na n nc, .slice oa on oc] 41)).alloc (.cells #[.int .i64 kd, .string nm, .slice ta tn tc, .string tx] 154)).alloc (.cells #[.slice none 0 0, .slice none 0 0] 41) = W := ⟨_, rfl⟩
  have q1 : Box2 W0 w.heap.size (.slice na n nc) (.slice oa on oc) := by rw [← hW0]; exact ((Box2.new _ _ _).alloc _).alloc _
  have qt : BoxT W0 (w.heap.size + 1) kd nm (.slice ta tn tc) tx := by
    rw [← hW0]
    have h := (BoxT.new (w.alloc (.cells #[.slice na n nc, .slice oa on oc] 41)) kd nm (.slice ta tn tc) tx).alloc (.cells #[.slice none 0 0, .slice none 0 0] 41)
    rw [size_alloc] at h; exact h
  have q2 : Box2 W0 (w.heap.size + 2) (.slice none 0 0) (.slice none 0 0) := by
    rw [← hW0]
    have h := Box2.new ((w.alloc (.cells #[.slice na n nc, .slice oa on oc] 41)).alloc (.cells #[.int .i64 kd, .string nm, .slice ta tn tc, .string tx] 154)) (.slice none 0 0) (.slice none 0 0)
    rw [size_alloc, size_alloc] at h; exact h
  have hB0 : Below w.heap.size w W0 := by rw [← hW0]; exact (((Below.refl _ _).alloc (Nat.le_refl _) _).alloc (by rw [size_alloc]; omega) _).alloc (by rw [size_alloc, size_alloc]; omega) _
  have HCP := Lib.hid (copy_spec (.slice na n nc) (.slice oa on oc) b W0 (hb.below hB0 (Nat.le_refl _) |>.mono hB0.size) hf)
  have HF := Lib.hid hf; have HNS := Lib.hid hns; have HN := Lib.hid hn; have HNL := Lib.hid hnl; have HON := Lib.hid hon; have HRN := Lib.hid hrn; have HRO := Lib.hid hro; have HW0 := Lib.hid hW0; have Q1 := Lib.hid q1; have QT := Lib.hid qt; have Q2 := Lib.hid q2; have HB0 := Lib.hid hB0; have HT := Lib.hid ht; have HTA := Lib.hid hta
  clear hf hns hn hnl hon hrn hro hW0 q1 qt q2 hB0 ht hta hb
  go_enter Tryz.func107, Tryz.ntmps107
  go_wp2_with fail
  rw [HW0.out]
  refine HCP.out.mono ?_
  rintro e w1 ⟨nv1, ov1, rfl, ns1, hns1, hm1, ho1'⟩
  obtain ⟨na1, nc1, rfl⟩ := mineN_form hm1
  obtain ⟨oa1, oc1, rfl⟩ := mine_form ho1'
  have hnl1 : ns1.length = n := by rw [← HNL.out, ← hns1, List.length_map]
  rw [hnl1] at hm1 ⊢; rw [HON.out] at ho1' ⊢
  -- %%ADD
  have HNS1 := Lib.hid hns1; have HNL1 := Lib.hid hnl1
  have hbw : Below W0.heap.size W0 w1 := hm1.row.below
  have hbm : BdM w.heap.size w w1 (.slice na1 n nc1) (.slice oa1 on oc1) ns1 b.opn := (⟨hm1, ho1'⟩ : BdM W0.heap.size W0 w1 _ _ _ _).down (HB0.out.trans (hbw.mono HB0.out.size)) HB0.out.size
  obtain ⟨W1, hW1⟩ : ∃ W, w1.alloc (.cells #[.slice na1 n nc1, .slice oa1 on oc1] 41) = W := ⟨_, rfl⟩
  have hb1 : Below w1.heap.size w1 W1 := by rw [← hW1]; exact (Below.refl _ _).alloc (Nat.le_refl _) _
  have q3 : Box2 W1 w1.heap.size (.slice na1 n nc1) (.slice oa1 on oc1) := by rw [← hW1]; exact Box2.new _ _ _
  obtain ⟨C, hC⟩ : ∃ C, w1.heap.size = C := ⟨_, rfl⟩
  have P1 := Lib.hid ((Q1.out.later hbw).later hb1)
  have PT := Lib.hid ((QT.out.later hbw).later hb1)
  have P2 := Lib.hid ((Q2.out.later hbw).later hb1)
  have HB := Lib.hid (hbm.later hb1)
  have HC := Lib.hid (show w.heap.size + 2 < C by have := hbw.size; have := Q2.out.lt; omega)
  rw [hC] at q3
  have P3 := Lib.hid q3
  have HW1 := Lib.hid hW1; have HCE := Lib.hid hC
  have bH := P1.out.lt; have bT := PT.out.lt; have b2 := P2.out.lt; have b3 := q3.lt
  obtain ⟨d1a, d1b⟩ := P1.out.cells.1
  obtain ⟨t0, t1, t2, t3⟩ := PT.out.cells
  obtain ⟨⟨d2a, d2b⟩, f2a, f2b⟩ := P2.out.cells
  obtain ⟨⟨d3a, d3b⟩, f3a, f3b⟩ := q3.cells
  clear hns1 hnl1 hm1 ho1' hbw hbm hW1 hb1 hC q3
  go_upto_region 2 with (fail)
  rw [HW1.out, HCE.out]
  by_cases k2 : kd = 2
  · subst k2
    have HE := Lib.hid (add_close (b := b) (t := ⟨2, nm, ats, tx⟩) rfl)
    go_wp2_with fail
    refine (close_spec nm HB.out (by have h1 := HNL1.out; have h2 := ndW_len b.nodes; have h3 := HF.out.1; have h4 := HNL.out; omega) HF.out.2).mono ?_
    rintro e w2 ⟨ov2, rfl, hbd2, hb2⟩
    obtain ⟨oa2, oc2, hv2⟩ := mine_form hbd2.o
    obtain ⟨n2, hn2'⟩ : ∃ m, (closeB ⟨ns1.map Prod.fst, b.opn⟩ nm).opn.length = m := ⟨_, rfl⟩
    rw [hn2'] at hv2; subst hv2
    have R2 := Lib.hid (P2.out.later hb2)
    obtain ⟨⟨d4a, d4b⟩, f4a, f4b⟩ := R2.out.cells
    have HO := Lib.hid (out_box hbd2 R2.out (Nat.le_add_right _ _))
    clear hbd2 hb2 hn2'
    go_wp2_with fail
    obtain ⟨⟨r0, r1⟩, _⟩ := HO.out.1.cells
    refine bodyPost_ret (v := .tuple #[.agg #[.slice na1 n nc1, .slice oa2 n2 oc2], .int .i64 (-1)]) (by simp [results, Tryz.results107, go_sem, r0, r1]) rfl ?_
    exact ⟨_, _, by rw [HE.out], by rw [HE.out]; rw [HNS1.out] at HO; exact HO.out.2.at HNS1.out⟩
  by_cases k1 : kd = 1
  · subst k1
    by_cases h40 : (40 : Int) ≤ (n : Int)
    · have HE := Lib.hid (show addTok ⟨b.nodes, b.opn⟩ _ = (b, -1) from add_noroom (b := b) (t := ⟨1, nm, ats, tx⟩) (roomB_no (Or.inl (by rw [HNL.out]; omega))) (by show (1 : Int) ≠ 2; decide))
      have HO := Lib.hid (out_box HB.out P2.out (Nat.le_add_right _ _))
      go_wp2_with (go_at_call 143; refine (void_spec _ _).mono ?_; rintro e w' ⟨rfl, rfl⟩)
      obtain ⟨⟨r0, r1⟩, _⟩ := HO.out.1.cells
      refine bodyPost_ret (v := .tuple #[.agg #[.slice na1 n nc1, .slice oa1 on oc1], .int .i64 (-1)]) (by simp [results, Tryz.results107, go_sem, r0, r1]) rfl ?_
      exact ⟨_, _, by rw [HE.out], by rw [HE.out]; exact HO.out.2.at HNS1.out⟩
    have hd40 : decide ((40 : Int) ≤ (n : Int)) = false := decide_eq_false h40
    by_cases h0 : on = 0
    · subst h0
      have HE := Lib.hid (show addTok ⟨b.nodes, b.opn⟩ _ = (b, -1) from add_noroom (b := b) (t := ⟨1, nm, ats, tx⟩) (roomB_no (Or.inr (by rw [HON.out]))) (by show (1 : Int) ≠ 2; decide))
      have HO := Lib.hid (out_box HB.out P2.out (Nat.le_add_right _ _))
      go_wp2_with (go_at_call 143; refine (void_spec _ _).mono ?_; rintro e w' ⟨rfl, rfl⟩)
      obtain ⟨⟨r0, r1⟩, _⟩ := HO.out.1.cells
      refine bodyPost_ret (v := .tuple #[.agg #[.slice na1 n nc1, .slice oa1 0 oc1], .int .i64 (-1)]) (by simp [results, Tryz.results107, go_sem, r0, r1]) rfl ?_
      exact ⟨_, _, by rw [HE.out], by rw [HE.out]; exact HO.out.2.at HNS1.out⟩
    have h0i : ((on : Int) == 0) = false := beq_eq_false_iff_ne.2 (by omega)
    cases hv : isVoid nm with
    | false =>
      by_cases h8 : (8 : Int) ≤ (on : Int)
      · have HE := Lib.hid (show addTok ⟨b.nodes, b.opn⟩ _ = (b, -1) from add_full (b := b) (t := ⟨1, nm, ats, tx⟩) rfl hv (by rw [HON.out]; omega))
        have HO := Lib.hid (out_box HB.out P2.out (Nat.le_add_right _ _))
        go_wp2_with (go_at_call 143; refine (void_spec _ _).mono ?_; rintro e w' ⟨rfl, rfl⟩)
        obtain ⟨⟨r0, r1⟩, _⟩ := HO.out.1.cells
        refine bodyPost_ret (v := .tuple #[.agg #[.slice na1 n nc1, .slice oa1 on oc1], .int .i64 (-1)]) (by simp [results, Tryz.results107, go_sem, r0, r1]) rfl ?_
        exact ⟨_, _, by rw [HE.out], by rw [HE.out]; exact HO.out.2.at HNS1.out⟩
      have hd8 : decide ((8 : Int) ≤ (on : Int)) = false := decide_eq_false h8
      · have HRM := Lib.hid (roomB_yes (b := b) (by rw [HNL.out]; omega) (by rw [HON.out]; omega))
        obtain ⟨m, rfl⟩ : ∃ m, on = m + 1 := ⟨on - 1, by omega⟩
        have h0j : ((m : Int) + 1 == 0) = false := beq_eq_false_iff_ne.2 (by omega)
        obtain ⟨go, off, rfl, hgo, ck⟩ := reads_at (HRO.out.below (HB.out.n.row.below) (Nat.le_refl _)) (k := m) (by rw [HON.out]; omega)
        have hpar : b.opn.getD m 0 = lastOpen b := by unfold lastOpen; rw [HON.out]; rfl
        rw [hpar] at ck
        obtain ⟨par, hpe⟩ : ∃ x, lastOpen b = x := ⟨_, rfl⟩
        rw [hpe] at ck
        have HPAR := Lib.hid hpe
        have bgo : go < W1.heap.size := by omega
        clear hpar hpe
        have hd8' : decide ((8 : Int) ≤ (m : Int) + 1) = false := decide_eq_false (by omega)
        have HE := Lib.hid (add_open (b := b) (t := ⟨1, nm, ats, tx⟩) rfl hv (by rw [HON.out]; omega) HRM.out)
        rw [HNL.out, HPAR.out] at HE
        obtain ⟨W2, hW2⟩ : ∃ W, W1.alloc (.cells #[.string nm, .string ⟨#[]⟩, .int .i64 par, .slice none 0 0] 117) = W := ⟨_, rfl⟩
        have hnb : Below W1.heap.size W1 W2 := by rw [← hW2]; exact (Below.refl _ _).alloc (Nat.le_refl _) _
        have hn4 : Box4 W2 W1.heap.size nm ⟨#[]⟩ par (.slice none 0 0) := by rw [← hW2]; exact Box4.new _ _ _ _ _
        have HNB := Lib.hid hnb; have HN4 := Lib.hid hn4; have HW2 := Lib.hid hW2
        clear hnb hn4 hW2
        go_wp2_with (go_at_call 143; refine (void_spec _ _).mono ?_; rintro e w' ⟨rfl, rfl⟩)
        rw [HW2.out]
        refine (cpA_spec _ w.heap.size ats _ (HT.out.below (HB.out.n.row.below.trans (HNB.out.mono (by omega))) (Nat.le_refl _)) (by have := HNB.out.size; omega) (by have := HTA.out; omega)).mono ?_
        rintro e w3 ⟨v3, rfl, ho3, hb3⟩
        obtain ⟨⟨xa, xn, xc⟩, rfl⟩ := ho3.sv
        have hn3 := HN4.out.later hb3
        have HB3 := Lib.hid (HNB.out.trans (hb3.mono HNB.out.size))
        have HO3 := Lib.hid ho3; have HN3 := Lib.hid hn3
        obtain ⟨⟨e0, e1, e2, e3⟩, g0, g1, g2, g3⟩ := hn3.cells
        obtain ⟨d3c, d3d⟩ := (P3.out.later HB3.out).cells.1
        have b3' : W1.heap.size < w3.heap.size := hn3.lt
        have hset : Below W1.heap.size W1 (w3.setCell ⟨W1.heap.size, 3, none⟩ (.slice xa xn xc)) := HB3.out.setCell (Nat.le_refl _) _
        have HBM := Lib.hid (HB.out.later hset)
        have R2 := Lib.hid (P2.out.later hset); have R3 := Lib.hid (P3.out.later hset)
        clear hn3 hb3 ho3 hset
        rw [show sv (xa, xn, xc) = Value.slice xa xn xc from rfl]
        have HND := Lib.hid (show (insN ns1 ++ insN [((⟨nm, ⟨#[]⟩, par, ats⟩, (xa, xn, xc)) : Nv)]).Nodup from List.nodup_append.2 ⟨HB.out.n.nod, by
          unfold insN; cases hv : (sv (xa, xn, xc)).ownBlock <;> simp [hv], fun a ha c hc e => by
          have h1 := (HB.out.n.lt a ha).2
          obtain ⟨p, hp, hpb⟩ := insN_mem.1 hc
          rw [List.mem_singleton] at hp; subst hp
          have h2 := (HO3.out.lt c hpb).1
          have := HNB.out.size
          omega⟩)
        have HLN := Lib.hid (show ns1.length ≤ 68719476736 by have h1 := HNL1.out; have h2 := ndW_len b.nodes; have h3 := HF.out.1; have h4 := HNL.out; omega)
        go_wp2_with (at_builtin; refine wpList_appNG rfl _ _ rfl w.heap.size w _ ns1 rfl (HBM.out.n.later ((Below.refl _ _).alloc (Nat.le_refl _) _)) _ _ [((⟨nm, ⟨#[]⟩, par, ats⟩, (xa, xn, xc)) : Nv)] rfl (readsN_at (w3.setCell ⟨W1.heap.size, 3, none⟩ (.slice xa xn xc)) w3.heap.size (size_setC _ _ _) (⟨nm, ⟨#[]⟩, par, ats⟩, (xa, xn, xc)) rfl rfl rfl rfl) ?ci HND.out ?cl ?_)
        case ci => first | (exact ownK_alloc4 HO3.out (by have := HNB.out.size; have := HB.out.n.row.size; omega) HN3.out (Nat.le_refl _)) | (intro p hp; rw [List.mem_singleton] at hp; subst hp; exact ownK_alloc4 HO3.out (by have := HNB.out.size; have := HB.out.n.row.size; omega) HN3.out (Nat.le_refl _))
        case cl => have := HLN.out; simp; omega
        intro v5 w5 hm5 hg5
        obtain ⟨a5, c5, hv5⟩ := mineN_form hm5
        obtain ⟨n5, hn5⟩ : ∃ m, (ns1 ++ [((⟨nm, ⟨#[]⟩, par, ats⟩, (xa, xn, xc)) : Nv)]).length = m := ⟨_, rfl⟩
        rw [hn5] at hv5; subst hv5
        have hM4 := HBM.out.later ((Below.refl _ _).alloc (Nat.le_refl _) (.cells #[.string nm, .string ⟨#[]⟩, .int .i64 par, .slice xa xn xc] 117))
        have hk5 := keep_of hM4.n.row.row hg5
        have r2 := Lib.hid ((R2.out.alloc (.cells #[.string nm, .string ⟨#[]⟩, .int .i64 par, .slice xa xn xc] 117)).keep hk5 bd_ne.1)
        have r3 := Lib.hid ((R3.out.alloc (.cells #[.string nm, .string ⟨#[]⟩, .int .i64 par, .slice xa xn xc] 117)).keep hk5 bd_ne.1)
        have HB5 := Lib.hid (hM4.node hm5 hg5)
        have HT5 := Lib.hid (show (ns1 ++ [((⟨nm, ⟨#[]⟩, par, ats⟩, (xa, xn, xc)) : Nv)]).map Prod.fst = b.nodes ++ [⟨nm, ⟨#[]⟩, par, ats⟩] by rw [List.map_append, HNS1.out]; rfl)
        obtain ⟨⟨d5, d6⟩, f5, f6⟩ := r3.out.cells
        have bc5 := r3.out.lt
        have HB6 := Lib.hid (HB5.out.setT (u := .slice a5 n5 c5) (o := 0) r3.out (by have := HC.out; omega))
        have S2 := Lib.hid (r2.out.far (show w.heap.size + 2 ≠ C by have := HC.out; omega) (o := 0) (.slice a5 n5 c5))
        have S3 := Lib.hid (r3.out.set0 (.slice a5 n5 c5))
        clear hm5 hg5 hM4 hk5 hn5
        go_wp2_with (at_builtin; refine wpList_appIG rfl _ _ rfl w.heap.size w _ b.opn rfl (HB6.out.o.later ((Below.refl _ _).alloc (Nat.le_refl _) _)) _ _ [(n : Int)] rfl (reads_at1 (w5.setCell ⟨C, 0, none⟩ (.slice a5 n5 c5)) w5.heap.size (size_setC _ _ _) _) ?cl ?_)
        case cl => have h1 := HF.out.2; simp; omega
        intro v7 w7 hm7 hg7
        obtain ⟨a7, c7, hv7⟩ := mine_form hm7
        obtain ⟨n7, hn7⟩ : ∃ m, (b.opn ++ [(n : Int)]).length = m := ⟨_, rfl⟩
        rw [hn7] at hv7; subst hv7
        have hM6 := HB6.out.later ((Below.refl _ _).alloc (Nat.le_refl _) (.cells #[.int .i64 (n : Int)] 3))
        have hk7 := keep_of hM6.o.row hg7
        have t2 := Lib.hid ((S2.out.alloc (.cells #[.int .i64 (n : Int)] 3)).keep hk7 bd_ne.2.2)
        have t3 := Lib.hid ((S3.out.alloc (.cells #[.int .i64 (n : Int)] 3)).keep hk7 bd_ne.2.2)
        have HB7 := Lib.hid (hM6.num hm7 hg7)
        obtain ⟨⟨d7, d8⟩, f7, f8⟩ := t3.out.cells
        obtain ⟨⟨d9, d10⟩, f9, f10⟩ := t2.out.cells
        have bc7 := t3.out.lt
        have hne : w.heap.size + 2 ≠ C := by have := HC.out; omega
        have HB8 := HB7.out.setT (u := .slice a7 n7 c7) (o := 1) t3.out (by have := HC.out; omega)
        have HO := Lib.hid (out_box HB8 (t2.out.far hne _) (Nat.le_add_right _ _))
        clear hm7 hg7 hM6 hk7 hn7 HB8
        go_wp2_with fail
        obtain ⟨⟨r0, r1⟩, _⟩ := HO.out.1.cells
        refine bodyPost_ret (v := .tuple #[.agg #[.slice a5 n5 c5, .slice a7 n7 c7], .int .i64 (n : Int)]) (by simp [results, Tryz.results107, go_sem, r0, r1]) rfl ?_
        exact ⟨_, _, by rw [HE.out], by rw [HE.out]; exact HO.out.2.at (b := ⟨b.nodes ++ [⟨nm, ⟨#[]⟩, par, ats⟩], b.opn ++ [(n : Int)]⟩) HT5.out⟩
    | true =>
      have HRM := Lib.hid (roomB_yes (b := b) (by rw [HNL.out]; omega) (by rw [HON.out]; omega))
      obtain ⟨m, rfl⟩ : ∃ m, on = m + 1 := ⟨on - 1, by omega⟩
      have h0j : ((m : Int) + 1 == 0) = false := beq_eq_false_iff_ne.2 (by omega)
      obtain ⟨go, off, rfl, hgo, ck⟩ := reads_at (HRO.out.below (HB.out.n.row.below) (Nat.le_refl _)) (k := m) (by rw [HON.out]; omega)
      have hpar : b.opn.getD m 0 = lastOpen b := by unfold lastOpen; rw [HON.out]; rfl
      rw [hpar] at ck
      obtain ⟨par, hpe⟩ : ∃ x, lastOpen b = x := ⟨_, rfl⟩
      rw [hpe] at ck
      have HPAR := Lib.hid hpe
      have bgo : go < W1.heap.size := by omega
      clear hpar hpe
      have HE := Lib.hid (add_void (b := b) (t := ⟨1, nm, ats, tx⟩) rfl hv HRM.out)
      rw [HNL.out, HPAR.out] at HE
      obtain ⟨W2, hW2⟩ : ∃ W, W1.alloc (.cells #[.string nm, .string ⟨#[]⟩, .int .i64 par, .slice none 0 0] 117) = W := ⟨_, rfl⟩
      have hnb : Below W1.heap.size W1 W2 := by rw [← hW2]; exact (Below.refl _ _).alloc (Nat.le_refl _) _
      have hn4 : Box4 W2 W1.heap.size nm ⟨#[]⟩ par (.slice none 0 0) := by rw [← hW2]; exact Box4.new _ _ _ _ _
      have HNB := Lib.hid hnb; have HN4 := Lib.hid hn4; have HW2 := Lib.hid hW2
      clear hnb hn4 hW2
      go_wp2_with (go_at_call 143; refine (void_spec _ _).mono ?_; rintro e w' ⟨rfl, rfl⟩)
      rw [HW2.out]
      refine (cpA_spec _ w.heap.size ats _ (HT.out.below (HB.out.n.row.below.trans (HNB.out.mono (by omega))) (Nat.le_refl _)) (by have := HNB.out.size; omega) (by have := HTA.out; omega)).mono ?_
      rintro e w3 ⟨v3, rfl, ho3, hb3⟩
      obtain ⟨⟨xa, xn, xc⟩, rfl⟩ := ho3.sv
      have hn3 := HN4.out.later hb3
      have HB3 := Lib.hid (HNB.out.trans (hb3.mono HNB.out.size))
      have HO3 := Lib.hid ho3; have HN3 := Lib.hid hn3
      obtain ⟨⟨e0, e1, e2, e3⟩, g0, g1, g2, g3⟩ := hn3.cells
      obtain ⟨d3c, d3d⟩ := (P3.out.later HB3.out).cells.1
      have b3' : W1.heap.size < w3.heap.size := hn3.lt
      have hset : Below W1.heap.size W1 (w3.setCell ⟨W1.heap.size, 3, none⟩ (.slice xa xn xc)) := HB3.out.setCell (Nat.le_refl _) _
      have HBM := Lib.hid (HB.out.later hset)
      have R2 := Lib.hid (P2.out.later hset); have R3 := Lib.hid (P3.out.later hset)
      clear hn3 hb3 ho3 hset
      rw [show sv (xa, xn, xc) = Value.slice xa xn xc from rfl]
      have HND := Lib.hid (show (insN ns1 ++ insN [((⟨nm, ⟨#[]⟩, par, ats⟩, (xa, xn, xc)) : Nv)]).Nodup from List.nodup_append.2 ⟨HB.out.n.nod, by
        unfold insN; cases hv : (sv (xa, xn, xc)).ownBlock <;> simp [hv], fun a ha c hc e => by
        have h1 := (HB.out.n.lt a ha).2
        obtain ⟨p, hp, hpb⟩ := insN_mem.1 hc
        rw [List.mem_singleton] at hp; subst hp
        have h2 := (HO3.out.lt c hpb).1
        have := HNB.out.size
        omega⟩)
      have HLN := Lib.hid (show ns1.length ≤ 68719476736 by have h1 := HNL1.out; have h2 := ndW_len b.nodes; have h3 := HF.out.1; have h4 := HNL.out; omega)
      go_wp2_with (at_builtin; refine wpList_appNG rfl _ _ rfl w.heap.size w _ ns1 rfl (HBM.out.n.later ((Below.refl _ _).alloc (Nat.le_refl _) _)) _ _ [((⟨nm, ⟨#[]⟩, par, ats⟩, (xa, xn, xc)) : Nv)] rfl (readsN_at (w3.setCell ⟨W1.heap.size, 3, none⟩ (.slice xa xn xc)) w3.heap.size (size_setC _ _ _) (⟨nm, ⟨#[]⟩, par, ats⟩, (xa, xn, xc)) rfl rfl rfl rfl) ?ci HND.out ?cl ?_)
      case ci => first | (exact ownK_alloc4 HO3.out (by have := HNB.out.size; have := HB.out.n.row.size; omega) HN3.out (Nat.le_refl _)) | (intro p hp; rw [List.mem_singleton] at hp; subst hp; exact ownK_alloc4 HO3.out (by have := HNB.out.size; have := HB.out.n.row.size; omega) HN3.out (Nat.le_refl _))
      case cl => have := HLN.out; simp; omega
      intro v5 w5 hm5 hg5
      obtain ⟨a5, c5, hv5⟩ := mineN_form hm5
      obtain ⟨n5, hn5⟩ : ∃ m, (ns1 ++ [((⟨nm, ⟨#[]⟩, par, ats⟩, (xa, xn, xc)) : Nv)]).length = m := ⟨_, rfl⟩
      rw [hn5] at hv5; subst hv5
      have hM4 := HBM.out.later ((Below.refl _ _).alloc (Nat.le_refl _) (.cells #[.string nm, .string ⟨#[]⟩, .int .i64 par, .slice xa xn xc] 117))
      have hk5 := keep_of hM4.n.row.row hg5
      have r2 := Lib.hid ((R2.out.alloc (.cells #[.string nm, .string ⟨#[]⟩, .int .i64 par, .slice xa xn xc] 117)).keep hk5 bd_ne.1)
      have r3 := Lib.hid ((R3.out.alloc (.cells #[.string nm, .string ⟨#[]⟩, .int .i64 par, .slice xa xn xc] 117)).keep hk5 bd_ne.1)
      have HB5 := Lib.hid (hM4.node hm5 hg5)
      have HT5 := Lib.hid (show (ns1 ++ [((⟨nm, ⟨#[]⟩, par, ats⟩, (xa, xn, xc)) : Nv)]).map Prod.fst = b.nodes ++ [⟨nm, ⟨#[]⟩, par, ats⟩] by rw [List.map_append, HNS1.out]; rfl)
      obtain ⟨⟨d5, d6⟩, f5, f6⟩ := r3.out.cells
      have bc5 := r3.out.lt
      have HB6 := Lib.hid (HB5.out.setT (u := .slice a5 n5 c5) (o := 0) r3.out (by have := HC.out; omega))
      have S2 := Lib.hid (r2.out.far (show w.heap.size + 2 ≠ C by have := HC.out; omega) (o := 0) (.slice a5 n5 c5))
      have S3 := Lib.hid (r3.out.set0 (.slice a5 n5 c5))
      clear hm5 hg5 hM4 hk5 hn5
      have HO := Lib.hid (out_box HB6.out S2.out (Nat.le_add_right _ _))
      obtain ⟨⟨d9, d10⟩, f9, f10⟩ := r2.out.cells
      have hne : w.heap.size + 2 ≠ C := by have := HC.out; omega
      go_wp2_with fail
      obtain ⟨⟨r0, r1⟩, _⟩ := HO.out.1.cells
      refine bodyPost_ret (v := .tuple #[.agg #[.slice a5 n5 c5, .slice oa1 (m + 1) oc1], .int .i64 (n : Int)]) (by simp [results, Tryz.results107, go_sem, r0, r1]) rfl ?_
      exact ⟨_, _, by rw [HE.out], by rw [HE.out]; exact HO.out.2.at (b := ⟨b.nodes ++ [⟨nm, ⟨#[]⟩, par, ats⟩], b.opn⟩) HT5.out⟩
  by_cases k3 : kd = 3
  · subst k3
    by_cases h40 : (40 : Int) ≤ (n : Int)
    · have HE := Lib.hid (show addTok ⟨b.nodes, b.opn⟩ _ = (b, -1) from add_noroom (b := b) (t := ⟨3, nm, ats, tx⟩) (roomB_no (Or.inl (by rw [HNL.out]; omega))) (by show (3 : Int) ≠ 2; decide))
      have HO := Lib.hid (out_box HB.out P2.out (Nat.le_add_right _ _))
      go_wp2_with (fail)
      obtain ⟨⟨r0, r1⟩, _⟩ := HO.out.1.cells
      refine bodyPost_ret (v := .tuple #[.agg #[.slice na1 n nc1, .slice oa1 on oc1], .int .i64 (-1)]) (by simp [results, Tryz.results107, go_sem, r0, r1]) rfl ?_
      exact ⟨_, _, by rw [HE.out], by rw [HE.out]; exact HO.out.2.at HNS1.out⟩
    have hd40 : decide ((40 : Int) ≤ (n : Int)) = false := decide_eq_false h40
    by_cases h0 : on = 0
    · subst h0
      have HE := Lib.hid (show addTok ⟨b.nodes, b.opn⟩ _ = (b, -1) from add_noroom (b := b) (t := ⟨3, nm, ats, tx⟩) (roomB_no (Or.inr (by rw [HON.out]))) (by show (3 : Int) ≠ 2; decide))
      have HO := Lib.hid (out_box HB.out P2.out (Nat.le_add_right _ _))
      go_wp2_with (fail)
      obtain ⟨⟨r0, r1⟩, _⟩ := HO.out.1.cells
      refine bodyPost_ret (v := .tuple #[.agg #[.slice na1 n nc1, .slice oa1 0 oc1], .int .i64 (-1)]) (by simp [results, Tryz.results107, go_sem, r0, r1]) rfl ?_
      exact ⟨_, _, by rw [HE.out], by rw [HE.out]; exact HO.out.2.at HNS1.out⟩
    have h0i : ((on : Int) == 0) = false := beq_eq_false_iff_ne.2 (by omega)
    by_cases hx : tx.size = 0
    · have hxe : (tx.toList == []) = true := by rw [emp_size, decide_eq_true hx]
      have hx' := Lib.hid hx; clear hx
      have HRM := Lib.hid (roomB_yes (b := b) (by rw [HNL.out]; omega) (by rw [HON.out]; omega))
      obtain ⟨m, rfl⟩ : ∃ m, on = m + 1 := ⟨on - 1, by omega⟩
      have h0j : ((m : Int) + 1 == 0) = false := beq_eq_false_iff_ne.2 (by omega)
      obtain ⟨go, off, rfl, hgo, ck⟩ := reads_at (HRO.out.below (HB.out.n.row.below) (Nat.le_refl _)) (k := m) (by rw [HON.out]; omega)
      have hpar : b.opn.getD m 0 = lastOpen b := by unfold lastOpen; rw [HON.out]; rfl
      rw [hpar] at ck
      obtain ⟨par, hpe⟩ : ∃ x, lastOpen b = x := ⟨_, rfl⟩
      rw [hpe] at ck
      have HPAR := Lib.hid hpe
      have bgo : go < W1.heap.size := by omega
      clear hpar hpe
      have HE := Lib.hid (show addTok ⟨b.nodes, b.opn⟩ _ = (b, -1) from add_empty (b := b) (t := ⟨3, nm, ats, tx⟩) rfl hx'.out)
      have hD : Below W1.heap.size W1 (W1.alloc (.cells #[.string ⟨#[]⟩, .string ⟨#[]⟩, .int .i64 par, .slice none 0 0] 117)) := (Below.refl _ _).alloc (Nat.le_refl _) _
      obtain ⟨W2, hW2⟩ : ∃ W, W1.alloc (.cells #[.string ⟨#[]⟩, .string ⟨#[]⟩, .int .i64 par, .slice none 0 0] 117) = W := ⟨_, rfl⟩
      rw [hW2] at hD
      have R2 := Lib.hid (P2.out.later hD); have R3 := Lib.hid (P3.out.later hD)
      have HO := Lib.hid (out_box (HB.out.later hD) R2.out (Nat.le_add_right _ _))
      obtain ⟨d3c, d3d⟩ := R3.out.cells.1
      obtain ⟨⟨d2c, d2d⟩, f2c, f2d⟩ := R2.out.cells
      have HW2 := Lib.hid hW2
      clear hD hW2
      go_upto_region 9 with (fail)
      rw [HW2.out]
      go_wp2_with (fail)
      obtain ⟨⟨r0, r1⟩, _⟩ := HO.out.1.cells
      refine bodyPost_ret (v := .tuple #[.agg #[.slice na1 n nc1, .slice oa1 (m + 1) oc1], .int .i64 (-1)]) (by simp [results, Tryz.results107, go_sem, r0, r1]) rfl ?_
      exact ⟨_, _, by rw [HE.out], by rw [HE.out]; exact HO.out.2.at HNS1.out⟩
    · have hxe : (tx.toList == []) = false := by rw [emp_size, decide_eq_false hx]
      have hx' := Lib.hid hx; clear hx
      have HRM := Lib.hid (roomB_yes (b := b) (by rw [HNL.out]; omega) (by rw [HON.out]; omega))
      obtain ⟨m, rfl⟩ : ∃ m, on = m + 1 := ⟨on - 1, by omega⟩
      have h0j : ((m : Int) + 1 == 0) = false := beq_eq_false_iff_ne.2 (by omega)
      obtain ⟨go, off, rfl, hgo, ck⟩ := reads_at (HRO.out.below (HB.out.n.row.below) (Nat.le_refl _)) (k := m) (by rw [HON.out]; omega)
      have hpar : b.opn.getD m 0 = lastOpen b := by unfold lastOpen; rw [HON.out]; rfl
      rw [hpar] at ck
      obtain ⟨par, hpe⟩ : ∃ x, lastOpen b = x := ⟨_, rfl⟩
      rw [hpe] at ck
      have HPAR := Lib.hid hpe
      have bgo : go < W1.heap.size := by omega
      clear hpar hpe
      have HE := Lib.hid (add_text (b := b) (t := ⟨3, nm, ats, tx⟩) rfl hx'.out HRM.out)
      rw [HNL.out, HPAR.out] at HE
      obtain ⟨W2, hW2⟩ : ∃ W, W1.alloc (.cells #[.string ⟨#[]⟩, .string tx, .int .i64 par, .slice none 0 0] 117) = W := ⟨_, rfl⟩
      have hnb : Below W1.heap.size W1 W2 := by rw [← hW2]; exact (Below.refl _ _).alloc (Nat.le_refl _) _
      have hn4 : Box4 W2 W1.heap.size ⟨#[]⟩ tx par (.slice none 0 0) := by rw [← hW2]; exact Box4.new _ _ _ _ _
      have HBM := Lib.hid (HB.out.later hnb)
      have R2 := Lib.hid (P2.out.later hnb); have R3 := Lib.hid (P3.out.later hnb)
      obtain ⟨⟨e0, e1, e2, e3⟩, g0, g1, g2, g3⟩ := hn4.cells
      obtain ⟨d3c, d3d⟩ := R3.out.cells.1
      have b3' : W1.heap.size < W2.heap.size := hn4.lt
      have HW2 := Lib.hid hW2
      clear hnb hn4 hW2
      go_upto_region 15 with (fail)
      rw [HW2.out]
      have HND := Lib.hid (show (insN ns1 ++ insN [((⟨⟨#[]⟩, tx, par, []⟩, svNil) : Nv)]).Nodup from by have := HB.out.n.nod; simpa [insN, sv, svNil, Value.ownBlock] using this)
      have HLN := Lib.hid (show ns1.length ≤ 68719476736 by have h1 := HNL1.out; have h2 := ndW_len b.nodes; have h3 := HF.out.1; have h4 := HNL.out; omega)
      go_wp2_with (at_builtin; refine wpList_appNG rfl _ _ rfl w.heap.size w _ ns1 rfl (HBM.out.n.later ((Below.refl _ _).alloc (Nat.le_refl _) _)) _ _ [((⟨⟨#[]⟩, tx, par, []⟩, svNil) : Nv)] rfl (readsN_one W2 (⟨⟨#[]⟩, tx, par, []⟩, svNil) rfl rfl rfl rfl) ?ci HND.out ?cl ?_)
      case ci => first | (exact ownK_nil _ _ _ _ _ _) | (intro p hp; rw [List.mem_singleton] at hp; subst hp; exact ownK_nil _ _ _ _ _ _)
      case cl => have := HLN.out; simp; omega
      intro v5 w5 hm5 hg5
      obtain ⟨a5, c5, hv5⟩ := mineN_form hm5
      obtain ⟨n5, hn5⟩ : ∃ m, (ns1 ++ [((⟨⟨#[]⟩, tx, par, []⟩, svNil) : Nv)]).length = m := ⟨_, rfl⟩
      rw [hn5] at hv5; subst hv5
      have hM4 := HBM.out.later ((Below.refl _ _).alloc (Nat.le_refl _) (.cells #[.string ⟨#[]⟩, .string tx, .int .i64 par, .slice none 0 0] 117))
      have hk5 := keep_of hM4.n.row.row hg5
      have r2 := Lib.hid ((R2.out.alloc (.cells #[.string ⟨#[]⟩, .string tx, .int .i64 par, .slice none 0 0] 117)).keep hk5 bd_ne.1)
      have r3 := Lib.hid ((R3.out.alloc (.cells #[.string ⟨#[]⟩, .string tx, .int .i64 par, .slice none 0 0] 117)).keep hk5 bd_ne.1)
      have HB5 := Lib.hid (hM4.node hm5 hg5)
      have HT5 := Lib.hid (show (ns1 ++ [((⟨⟨#[]⟩, tx, par, []⟩, svNil) : Nv)]).map Prod.fst = b.nodes ++ [⟨⟨#[]⟩, tx, par, []⟩] by rw [List.map_append, HNS1.out]; rfl)
      obtain ⟨⟨d5, d6⟩, f5, f6⟩ := r3.out.cells
      have bc5 := r3.out.lt
      have HB6 := Lib.hid (HB5.out.setT (u := .slice a5 n5 c5) (o := 0) r3.out (by have := HC.out; omega))
      have S2 := Lib.hid (r2.out.far (show w.heap.size + 2 ≠ C by have := HC.out; omega) (o := 0) (.slice a5 n5 c5))
      have S3 := Lib.hid (r3.out.set0 (.slice a5 n5 c5))
      clear hm5 hg5 hM4 hk5 hn5
      have HO := Lib.hid (out_box HB6.out S2.out (Nat.le_add_right _ _))
      obtain ⟨⟨d9, d10⟩, f9, f10⟩ := r2.out.cells
      have hne : w.heap.size + 2 ≠ C := by have := HC.out; omega
      go_wp2_with fail
      obtain ⟨⟨r0, r1⟩, _⟩ := HO.out.1.cells
      refine bodyPost_ret (v := .tuple #[.agg #[.slice a5 n5 c5, .slice oa1 (m + 1) oc1], .int .i64 (n : Int)]) (by simp [results, Tryz.results107, go_sem, r0, r1]) rfl ?_
      exact ⟨_, _, by rw [HE.out], by rw [HE.out]; exact HO.out.2.at (b := ⟨b.nodes ++ [⟨⟨#[]⟩, tx, par, []⟩], b.opn⟩) HT5.out⟩
  have k1' : (kd == 1) = false := beq_eq_false_iff_ne.2 k1
  have k2' : (kd == 2) = false := beq_eq_false_iff_ne.2 k2
  have k3' : (kd == 3) = false := beq_eq_false_iff_ne.2 k3
  by_cases h40 : (40 : Int) ≤ (n : Int)
  · have HE := Lib.hid (show addTok ⟨b.nodes, b.opn⟩ _ = (b, -1) from add_noroom (b := b) (t := ⟨kd, nm, ats, tx⟩) (roomB_no (Or.inl (by rw [HNL.out]; omega))) k2)
    have HO := Lib.hid (out_box HB.out P2.out (Nat.le_add_right _ _))
    go_wp2_with (fail)
    obtain ⟨⟨r0, r1⟩, _⟩ := HO.out.1.cells
    refine bodyPost_ret (v := .tuple #[.agg #[.slice na1 n nc1, .slice oa1 on oc1], .int .i64 (-1)]) (by simp [results, Tryz.results107, go_sem, r0, r1]) rfl ?_
    exact ⟨_, _, by rw [HE.out], by rw [HE.out]; exact HO.out.2.at HNS1.out⟩
  have hd40 : decide ((40 : Int) ≤ (n : Int)) = false := decide_eq_false h40
  by_cases h0 : on = 0
  · subst h0
    have HE := Lib.hid (show addTok ⟨b.nodes, b.opn⟩ _ = (b, -1) from add_noroom (b := b) (t := ⟨kd, nm, ats, tx⟩) (roomB_no (Or.inr (by rw [HON.out]))) k2)
    have HO := Lib.hid (out_box HB.out P2.out (Nat.le_add_right _ _))
    go_wp2_with (fail)
    obtain ⟨⟨r0, r1⟩, _⟩ := HO.out.1.cells
    refine bodyPost_ret (v := .tuple #[.agg #[.slice na1 n nc1, .slice oa1 0 oc1], .int .i64 (-1)]) (by simp [results, Tryz.results107, go_sem, r0, r1]) rfl ?_
    exact ⟨_, _, by rw [HE.out], by rw [HE.out]; exact HO.out.2.at HNS1.out⟩
  have h0i : ((on : Int) == 0) = false := beq_eq_false_iff_ne.2 (by omega)
  have HRM := Lib.hid (roomB_yes (b := b) (by rw [HNL.out]; omega) (by rw [HON.out]; omega))
  obtain ⟨m, rfl⟩ : ∃ m, on = m + 1 := ⟨on - 1, by omega⟩
  have h0j : ((m : Int) + 1 == 0) = false := beq_eq_false_iff_ne.2 (by omega)
  obtain ⟨go, off, rfl, hgo, ck⟩ := reads_at (HRO.out.below (HB.out.n.row.below) (Nat.le_refl _)) (k := m) (by rw [HON.out]; omega)
  have hpar : b.opn.getD m 0 = lastOpen b := by unfold lastOpen; rw [HON.out]; rfl
  rw [hpar] at ck
  obtain ⟨par, hpe⟩ : ∃ x, lastOpen b = x := ⟨_, rfl⟩
  rw [hpe] at ck
  have HPAR := Lib.hid hpe
  have bgo : go < W1.heap.size := by omega
  clear hpar hpe
  have HE := Lib.hid (show addTok ⟨b.nodes, b.opn⟩ _ = (b, -1) from add_kind (b := b) (t := ⟨kd, nm, ats, tx⟩) k1 k2 k3)
  have hD : Below W1.heap.size W1 (W1.alloc (.cells #[.string ⟨#[]⟩, .string ⟨#[]⟩, .int .i64 par, .slice none 0 0] 117)) := (Below.refl _ _).alloc (Nat.le_refl _) _
  obtain ⟨W2, hW2⟩ : ∃ W, W1.alloc (.cells #[.string ⟨#[]⟩, .string ⟨#[]⟩, .int .i64 par, .slice none 0 0] 117) = W := ⟨_, rfl⟩
  rw [hW2] at hD
  have R2 := Lib.hid (P2.out.later hD); have R3 := Lib.hid (P3.out.later hD)
  have HO := Lib.hid (out_box (HB.out.later hD) R2.out (Nat.le_add_right _ _))
  obtain ⟨d3c, d3d⟩ := R3.out.cells.1
  obtain ⟨⟨d2c, d2d⟩, f2c, f2d⟩ := R2.out.cells
  have HW2 := Lib.hid hW2
  clear hD hW2
  go_upto_region 9 with (fail)
  rw [HW2.out]
  go_wp2_with (fail)
  obtain ⟨⟨r0, r1⟩, _⟩ := HO.out.1.cells
  refine bodyPost_ret (v := .tuple #[.agg #[.slice na1 n nc1, .slice oa1 (m + 1) oc1], .int .i64 (-1)]) (by simp [results, Tryz.results107, go_sem, r0, r1]) rfl ?_
  exact ⟨_, _, by rw [HE.out], by rw [HE.out]; exact HO.out.2.at HNS1.out⟩
  -- %%END

end Go.Proofs.YtpkicliimhflgaaGreatDoor
namespace Go.Proofs.YtpkicliimhflgaaGreatDoor
open Go.ChangeShapes Go.WideShapes Go.ChangeAt Go.RowKit

/-- Boxes of builders other than this one are as they were. -/
def Upd (c : Nat) (w w' : World) : Prop := ∀ d x y, d ≠ c → Box2 w d x y → Box2 w' d x y
theorem Upd.refl (c : Nat) (w : World) : Upd c w w := fun _ _ _ _ h => h
theorem Upd.trans {c : Nat} {w w1 w2 : World} (h : Upd c w w1) (k : Upd c w1 w2) : Upd c w w2 := fun d x y hd hb => k d x y hd (h d x y hd hb)
theorem Upd.below {c : Nat} {w w' : World} (h : Below w.heap.size w w') : Upd c w w' := fun _ _ _ _ hb => hb.later h
theorem Upd.keep {c : Nat} {w w' : World} {e : TypeId} (h : KeepT e w w') (hne : 41 ≠ e) : Upd c w w' := fun _ _ _ _ hb => hb.keep h hne
theorem Upd.set {c o : Nat} {w : World} {u : Value} : Upd c w (w.setCell ⟨c, o, none⟩ u) := fun _ _ _ hd hb => hb.far hd u
theorem Upd.alloc {c : Nat} {w w' : World} (h : Upd c w w') (o : Obj) : Upd c w (w'.alloc o) := h.trans (Upd.below ((Below.refl _ _).alloc (Nat.le_refl _) o))

theorem bl_st {B c o : Nat} {w w' : World} (h : Below B w w') (hb : B ≤ c) (u : Value) : Below B w (w'.setCell ⟨c, o, none⟩ u) := h.setCell hb u
theorem bl_dr {B : Nat} {w w' : World} (h : Below B w w') : Below B w w'.drew := h.drew
theorem bl_al {w w' : World} (h : Below w.heap.size w w') (o : Obj) : Below w.heap.size w (w'.alloc o) := h.alloc h.size o
theorem hp_dr {w : World} {g : Nat} {o : Obj} (h : w.heap[g]? = some o) : w.drew.heap[g]? = some o := h
theorem hp_nw {w : World} {g : Nat} {o : Obj} (h : w.heap.size = g) : (w.alloc o).heap[g]? = some o := by subst h; exact heap_alloc_new w o
theorem readsN_blk {w : World} {g : Nat} (p : Nv) {k : Int} {nm tx : ByteArray} {u : Value} (hg : w.heap[g]? = some (.cells #[.string nm, .string tx, .int .i64 k, u] 117 (0, 0))) (h1 : p.1.name = nm) (h2 : p.1.text = tx) (h3 : p.1.parent = k) (h4 : sv p.2 = u) :
    ReadsK encN 4 (g + 1) w (.slice (some ⟨g, 0, none⟩) 1 1) [p] := by
  subst h1; subst h2; subst h3; subst h4
  refine ⟨_, 1, rfl, by simp, by omega, (fun h => by cases h), Or.inr ⟨_, 0, rfl, by omega, fun j y hy i hi' => ?_⟩⟩
  have hj : j = 0 := by have := (List.getElem?_eq_some_iff.1 hy).1; simp at this; omega
  subst hj
  simp only [List.getElem?_cons_zero, Option.some.injEq] at hy
  subst hy
  rcases (show i = 0 ∨ i = 1 ∨ i = 2 ∨ i = 3 by omega) with rfl | rfl | rfl | rfl <;> exact box_cell hg rfl
theorem own_up {B : Nat} {w w' : World} {v : Value} {xs : List At} (h : OwnK encA 2 178 B w.heap.size w v xs) (hb : Below w.heap.size w w') : OwnK encA 2 178 B w'.heap.size w' v xs := (h.later hb).mono (Nat.le_refl _) hb.size
theorem BdM.drew {B : Nat} {w0 w : World} {nv ov : Value} {ns : List Nv} {zs : List Int} (h : BdM B w0 w nv ov ns zs) : BdM B w0 w.drew nv ov ns zs := h.later (Below.refl _ _).drew
/-- append of one node to nodes of the call's own, at a step of a drawn region. -/
theorem step_appNG {w : World} {ops : Array Oper} {o : Oper} {a : Act} {K : Act → World → Prop} {Q : Exit → Act → World → Prop} {E : Prop} (hgd : o.guard = none) (s x : Operand)
    (ho : o.op = .call { callee := .builtin .append, args := #[s, x], argTypes := #[38, 38] })
    (B : Nat) (w0 : World) (v : Value) (ts : List Nv) (hs : a.eval s = v) (hM : MineN B w0 w v ts) (ad : Addr) (top : Nat) (p : Nv) (hx : a.eval x = .slice (some ad) 1 1) (hr : ReadsK encN 4 top w (.slice (some ad) 1 1) [p])
    (hin : OwnK encA 2 178 B w.heap.size w (sv p.2) p.1.attrs) (hnd : (insN ts ++ insN [p]).Nodup)
    (n : Nat) (hn : ts.length = n) (hlen : n ≤ 68719476736)
    (h : ∀ ad' cap' w', MineN B w0 w' (.slice ad' (n + 1) cap') (ts ++ [p]) → w.grownBy w' v.ownBlock → K (a.put o.dst (.slice ad' (n + 1) cap')) w') :
    if Region.wanted o (yielded ops a.tmps) = true then Oper.wp Tryz.prog o a w K Q else E := by
  subst hn
  have hw : Region.wanted o (yielded ops a.tmps) = true := by simp [Region.wanted, hgd]
  rw [if_pos hw]
  obtain ⟨i, hi, hz, hsize, hby⟩ := info_parts infoNd
  refine wp_append_own _ s x _ ho B _ i _ 4 64 Tryz.underlying38 hi hz hsize hby (by rfl) (by decide) v ts.length _ hs hM.row.row ad 1 1 ([p].flatMap encN) hx (flat_len encN_len [p]) (hr.news encN_len) ?_ ?_ ?_ hM.row.size ?_
  · intro u hu
    obtain ⟨y, _, hy⟩ := List.mem_flatMap.1 hu
    exact encN_one y u hy
  · unfold maxLen; omega
  · have : (ts.length + 1) * 64 ≤ (ts.length + 1) * 1024 := Nat.mul_le_mul_left _ (by omega)
    omega
  · intro v' w' hown hgr hn
    have hM' : MineN B w0 w' v' (ts ++ [p]) := ⟨hM.row.grow (ys := [p]) hown hgr, fun q hq => by
      have hall : OwnK encA 2 178 B w.heap.size w (sv q.2) q.1.attrs := by
        rcases List.mem_append.1 hq with h | h
        · exact hM.inn q h
        · rw [List.mem_singleton] at h; subst h; exact hin
      exact ⟨hall.1.kept hgr (kept_ne hM.row.row hall.1 nd_ne_at), fun g hg => Nat.lt_of_lt_of_le (hall.2 g hg) hgr.size⟩, by rw [insN_append]; exact hnd⟩
    obtain ⟨a', c', e⟩ := mineN_form hM'
    rw [List.length_append] at e
    subst e
    exact h _ _ w' hM' hgr

/-- What appendNode does. -/
def PushOut (B : Nat) (w0 : World) (c : Nat) (ns : List Nv) (zs : List Int) (p : Nv) (w : World) (e : Ending) (w' : World) : Prop :=
  ∃ nv ov, Box2 w' c nv ov ∧ Upd c w w' ∧ (if 40 ≤ ns.length ∨ zs.length = 0 then e = .returned (.int .i64 (-1)) ∧ BdM B w0 w' nv ov ns zs
    else e = .returned (.int .i64 (ns.length : Int)) ∧ BdM B w0 w' nv ov (ns ++ [(⟨p.1.name, p.1.text, zs.getD (zs.length - 1) 0, p.1.attrs⟩, p.2)]) zs)

end Go.Proofs.YtpkicliimhflgaaGreatDoor
