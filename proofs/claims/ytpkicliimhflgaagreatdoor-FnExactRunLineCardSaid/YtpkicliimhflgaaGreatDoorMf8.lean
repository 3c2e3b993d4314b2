/- Helper contracts: l6Copy, l6Close, AddToken and AddTokens of the model. Asked: the builder and the token lie in memory as named, and hold no more than 2^36 things. -/
import Derived.Test.YtpkicliimhflgaaGreatDoorMf7
namespace Go.Proofs.YtpkicliimhflgaaGreatDoor

open Go.ChangeShapes Go.WideShapes Go.ChangeAt Go.RowKit

/-- How much a builder holds, as far as append goes. -/
def Fits (b : Bd) : Prop := ndW b.nodes ≤ 68719476736 ∧ b.opn.length ≤ 68719476736
theorem ndW_at : ∀ {ns : List Nd} {x : Nd}, x ∈ ns → 3 + 2 * x.attrs.length ≤ ndW ns
  | [], x, h => by cases h
  | y :: ns, x, h => by
    rw [ndW]
    rcases List.mem_cons.1 h with e | h2
    · rw [e]; omega
    · have := ndW_at h2; omega
theorem ndW_len : ∀ ns : List Nd, 3 * ns.length ≤ ndW ns
  | [] => Nat.le_refl _
  | y :: ns => by
    have := ndW_len ns
    rw [ndW, List.length_cons]; omega
theorem take_moreN {α : Type} {l : List α} {k : Nat} {a : α} (h : l[k]? = some a) : l.take (k + 1) = l.take k ++ [a] := by
  rw [List.take_add_one, h]; rfl
theorem Box2.later {w w' : World} {c : Nat} {x y : Value} (h : Box2 w c x y) (hb : Below w.heap.size w w') : Box2 w' c x y := h.below hb h.lt
theorem mine_form {B : Nat} {w0 w : World} {v : Value} {zs : List Int} (h : Mine .i64 3 B w0 w v zs) : ∃ a c, v = .slice a zs.length c := by
  rcases h.row.2 with ⟨e, h0⟩ | ⟨g, cap, cur, e, _⟩
  · exact ⟨none, 0, by rw [e, h0]⟩
  · exact ⟨_, _, e⟩
theorem mineN_form {B : Nat} {w0 w : World} {v : Value} {ns : List Nv} (h : MineN B w0 w v ns) : ∃ a c, v = .slice a ns.length c := by
  rcases h.row.row.2 with ⟨e, h0⟩ | ⟨g, cap, cur, e, _⟩
  · exact ⟨none, 0, by rw [e, h0]⟩
  · exact ⟨_, _, e⟩
theorem ownK_alloc4 {w : World} {b o lo lo' hi : Nat} {u : Value} {ob : Obj} {v : Value} {xs : List At} (h : OwnK encA 2 178 lo hi w v xs) (hl : lo' ≤ lo) {cs : Array Value} (hb : w.heap[b]? = some (.cells cs 117 (0, 0))) (hh : hi ≤ w.heap.size) :
    OwnK encA 2 178 lo' ((w.setCell ⟨b, o, none⟩ u).alloc ob).heap.size ((w.setCell ⟨b, o, none⟩ u).alloc ob) v xs :=
  ((ownK_setT h hb int_ne.2.2).later ((Below.refl _ _).alloc (Nat.le_refl _) _)).mono hl (by rw [size_alloc]; have := size_set w ⟨b, o, none⟩ u; omega)
theorem size_setC (w : World) (a : Addr) (u : Value) : (w.setCell a u).heap.size = w.heap.size := by simp [World.setCell]
theorem readsN_at (w : World) (H : Nat) (hH : w.heap.size = H) (p : Nv) {k : Int} {nm tx : ByteArray} {u : Value} (h1 : p.1.name = nm) (h2 : p.1.text = tx) (h3 : p.1.parent = k) (h4 : sv p.2 = u) :
    ReadsK encN 4 (H + 1) (w.alloc (.cells #[.string nm, .string tx, .int .i64 k, u] 117)) (.slice (some ⟨H, 0, none⟩) 1 1) [p] := by subst hH; exact readsN_one w p h1 h2 h3 h4
/-- A box of a node. -/
def Box4 (w : World) (c : Nat) (nm tx : ByteArray) (pa : Int) (v : Value) : Prop := w.heap[c]? = some (.cells #[.string nm, .string tx, .int .i64 pa, v] 117 (0, 0))
theorem Box4.later {w w' : World} {c : Nat} {nm tx : ByteArray} {pa : Int} {v : Value} (h : Box4 w c nm tx pa v) (hb : Below w.heap.size w w') : Box4 w' c nm tx pa v := below_heap hb (heap_lt h) h
theorem Box4.new (w : World) (nm tx : ByteArray) (pa : Int) (v : Value) : Box4 (w.alloc (.cells #[.string nm, .string tx, .int .i64 pa, v] 117)) w.heap.size nm tx pa v := heap_alloc_new w _
theorem Box4.cells {w : World} {c : Nat} {nm tx : ByteArray} {pa : Int} {v : Value} (h : Box4 w c nm tx pa v) :
    (w.cell? ⟨c, 0, none⟩ = some (.string nm) ∧ w.cell? ⟨c, 1, none⟩ = some (.string tx) ∧ w.cell? ⟨c, 2, none⟩ = some (.int .i64 pa) ∧ w.cell? ⟨c, 3, none⟩ = some v) ∧
    (w.frozen? ⟨c, 0, none⟩ = false ∧ w.frozen? ⟨c, 1, none⟩ = false ∧ w.frozen? ⟨c, 2, none⟩ = false ∧ w.frozen? ⟨c, 3, none⟩ = false) := cells_four h
theorem Box4.lt {w : World} {c : Nat} {nm tx : ByteArray} {pa : Int} {v : Value} (h : Box4 w c nm tx pa v) : c < w.heap.size := heap_lt h
theorem Box4.set3 {w : World} {c : Nat} {nm tx : ByteArray} {pa : Int} {v : Value} (h : Box4 w c nm tx pa v) (u : Value) : Box4 (w.setCell ⟨c, 3, none⟩ u) c nm tx pa u := heap_one (o := 3) h u
theorem Box4.set0 {w : World} {c : Nat} {nm tx nm' : ByteArray} {pa : Int} {v : Value} (h : Box4 w c nm tx pa v) : Box4 (w.setCell ⟨c, 0, none⟩ (.string nm')) c nm' tx pa v := heap_one (o := 0) h _
theorem Box4.set1 {w : World} {c : Nat} {nm tx tx' : ByteArray} {pa : Int} {v : Value} (h : Box4 w c nm tx pa v) : Box4 (w.setCell ⟨c, 1, none⟩ (.string tx')) c nm tx' pa v := heap_one (o := 1) h _
theorem Box4.set2 {w : World} {c : Nat} {nm tx : ByteArray} {pa pa' : Int} {v : Value} (h : Box4 w c nm tx pa v) : Box4 (w.setCell ⟨c, 2, none⟩ (.int .i64 pa')) c nm tx pa' v := heap_one (o := 2) h _
set_option maxRecDepth 100000 in
set_option maxHeartbeats 4000000 in
theorem copy_spec (nv ov : Value) (b : Bd) (w : World) (hb : BdIn w.heap.size w nv ov b) (hf : Fits b) :
    Calls Tryz.prog 68 #[.agg #[nv, ov]] w fun e w' => ∃ nv' ov', e = .returned (.agg #[nv', ov']) ∧ BdAt w.heap.size w w' nv' ov' b := by
  obtain ⟨ns, hns, hrn, hro⟩ := hb
  obtain ⟨na, nc, rfl, hn1, hn2⟩ := hrn.form
  obtain ⟨oa, oc, rfl, ho1, ho2⟩ := reads_form hro
  obtain ⟨n, hn⟩ : ∃ n, ns.length = n := ⟨_, rfl⟩
  obtain ⟨on, hon⟩ : ∃ n, b.opn.length = n := ⟨_, rfl⟩
  rw [hn] at hrn hn1 ⊢; rw [hon] at hro ho1 ⊢
  obtain ⟨W0, hW0⟩ : ∃ W, (w.alloc (.cells #[.slice na n nc, .slice oa on oc] 41)).alloc (.cells #[.slice none 0 0, .slice none 0 0] 41) = W := ⟨_, rfl⟩
  have q1 : Box2 W0 w.heap.size (.slice na n nc) (.slice oa on oc) := by rw [← hW0]; exact (Box2.new _ _ _).alloc _
  have q2 : Box2 W0 (w.heap.size + 1) (.slice none 0 0) (.slice none 0 0) := by rw [← hW0, ← size_alloc w]; exact Box2.new _ _ _
  have hB0 : Below w.heap.size w W0 := by rw [← hW0]; exact ((Below.refl _ _).alloc (Nat.le_refl _) _).alloc (by rw [size_alloc]; omega) _
  have hS0 : W0.heap.size = w.heap.size + 2 := by rw [← hW0, size_alloc, size_alloc]
  have h0 : Mine .i64 3 w.heap.size w (W0.alloc (.cells #[] 3)) (.slice (some ⟨w.heap.size + 2, 0, none⟩) 0 0) [] := by
    have := Mine.empty .i64 3 w W0 w.heap.size hB0 (by omega); rw [hS0] at this; exact this
  have hro2 : Reads .i64 w.heap.size (W0.alloc (.cells #[] 3)) (.slice oa on oc) b.opn := (hro.below hB0 (Nat.le_refl _)).below ((Below.refl _ _).alloc (by omega) _) (Nat.le_refl _)
  have HF := Lib.hid hf; have HNS := Lib.hid hns; have HN := Lib.hid hn; have HON := Lib.hid hon; have HRN := Lib.hid hrn; have HW0 := Lib.hid hW0; have Q1 := Lib.hid q1; have Q2 := Lib.hid q2
  have H0 := Lib.hid h0; have HRO := Lib.hid hro2; have HS0 := Lib.hid hS0
  have c3 : (W0.alloc (.cells #[] 3)).cell? ⟨w.heap.size, 1, none⟩ = some (.slice oa on oc) := (q1.alloc _).cells.1.2
  clear hf hns hn hon hrn hro hW0 q1 q2 hB0 hS0 h0 hro2
  go_enter Tryz.func68, Tryz.ntmps68
  go_wp2_with (at_builtin; rw [HW0.out]; refine wpList_appIG rfl _ _ rfl w.heap.size w _ [] rfl H0.out _ _ b.opn rfl HRO.out ?cl ?_)
  case cl => have := HF.out.2; simp; omega
  intro v2 w2 hm hg
  obtain ⟨oa2, oc2, hv2⟩ := mine_form hm
  rw [HON.out] at hv2; subst hv2
  have hk := keep_of H0.out.row hg
  have Q1b := Lib.hid ((Q1.out.alloc _).keep hk bd_ne.2.2)
  have Q2b := Lib.hid ((Q2.out.alloc _).keep hk bd_ne.2.2)
  have HM2 := Lib.hid hm
  have hC : w.heap.size + 2 < w2.heap.size := by
    have h1 := hg.size; rw [size_alloc, HS0.out] at h1; omega
  obtain ⟨C, hCe⟩ : ∃ C, w2.heap.size = C := ⟨_, rfl⟩
  obtain ⟨W1, hW1⟩ : ∃ W, w2.alloc (.cells #[.slice none 0 0, .slice oa2 on oc2] 41) = W := ⟨_, rfl⟩
  have hb1 : Below w2.heap.size w2 W1 := by rw [← hW1]; exact (Below.refl _ w2).alloc (Nat.le_refl _) _
  have q1 : Box2 W1 w.heap.size (.slice na n nc) (.slice oa on oc) := Q1b.out.later hb1
  have q2 : Box2 W1 (w.heap.size + 1) (.slice none 0 0) (.slice none 0 0) := Q2b.out.later hb1
  have q3 : Box2 W1 w2.heap.size (.slice none 0 0) (.slice oa2 on oc2) := by rw [← hW1]; exact Box2.new _ _ _
  have hbd : BdM w.heap.size w W1 (.slice none 0 0) (.slice oa2 on oc2) [] b.opn :=
    ⟨MineN.nil _ _ _ ((HM2.out.below).trans (hb1.mono (by omega))) (by have := hb1.size; omega), HM2.out.later hb1⟩
  rw [hCe] at hC q3
  have HC := Lib.hid hC; have HCE := Lib.hid hCe; have HW1 := Lib.hid hW1; have R1 := Lib.hid q1; have R2 := Lib.hid q2; have R3 := Lib.hid q3; have HBD := Lib.hid hbd
  clear hk hm hg hC hCe hW1 q1 q2 q3 hbd hb1 c3
  go_wp2_with fail
  rw [HW1.out, HCE.out]
  go_loopw [4] (fun i wr => ∃ (k : Nat) (ka : Option Addr) (kn kc : Nat) (ts : List Nv), k ≤ n ∧ i = .int .i64 k ∧ Box2 wr w.heap.size (.slice na n nc) (.slice oa on oc) ∧ Box2 wr (w.heap.size + 1) (.slice none 0 0) (.slice none 0 0) ∧ Box2 wr C (.slice ka kn kc) (.slice oa2 on oc2) ∧ BdM w.heap.size w wr (.slice ka kn kc) (.slice oa2 on oc2) ts b.opn ∧ ts.map Prod.fst = b.nodes.take k)
    (fun i _ => n - (intOf i).toNat)
  case atStart => exact ⟨0, _, _, _, [], Nat.zero_le _, rfl, R1.out, R2.out, R3.out, HBD.out, rfl⟩
  case round =>
    obtain ⟨k, ka, kn, kc, ts, hk, rfl, q1, q2, q3, hbd, hts⟩ := hrel
    have P1 := Lib.hid q1; have P2 := Lib.hid q2; have P3 := Lib.hid q3; have HB := Lib.hid hbd; have HT := Lib.hid hts
    have d1 := q1.cells.1.1
    have b1 := q1.lt; have b3 := q3.lt
    clear q1 q2 hbd hts
    by_cases hlt : (k : Int) < (n : Int)
    · obtain ⟨p, hp⟩ := nd_at (ns := ns) (k := k) (by have := HN.out; omega)
      obtain ⟨g, off, rfl, hgs, c0, c1, c2, c3⟩ := (HRN.out.below HB.out.n.row.below (Nat.le_refl _)).at hp
      have hpm := (HRN.out.below HB.out.n.row.below (Nat.le_refl _)).2 p (List.mem_of_getElem? hp)
      have hpn := map_fst_at HNS.out hp
      have hal : p.1.attrs.length ≤ 68719476736 := by have := ndW_at (List.mem_of_getElem? hpn); have := HF.out.1; omega
      obtain ⟨⟨⟨nm, tx, pa, ats⟩, ⟨sa, sn, sc⟩⟩, rfl⟩ : ∃ q : Nv, p = q := ⟨p, rfl⟩
      replace c0 : _ = some (Value.string nm) := c0
      replace c1 : _ = some (Value.string tx) := c1
      replace c2 : _ = some (Value.int .i64 pa) := c2
      replace c3 : _ = some (Value.slice sa sn sc) := c3
      replace hpm : ReadsK encA 2 w.heap.size wr (.slice sa sn sc) ats := hpm
      replace hal : ats.length ≤ 68719476736 := hal
      have bg : g < wr.heap.size := by omega
      have HPM := Lib.hid hpm; have HPN := Lib.hid hpn; have HAL := Lib.hid hal
      obtain ⟨W2, hW2⟩ : ∃ W, wr.alloc (.cells #[.string nm, .string tx, .int .i64 pa, .slice sa sn sc] 117) = W := ⟨_, rfl⟩
      have hnb : Below wr.heap.size wr W2 := by rw [← hW2]; exact (Below.refl _ wr).alloc (Nat.le_refl _) _
      have hn4 : Box4 W2 wr.heap.size nm tx pa (.slice sa sn sc) := by rw [← hW2]; exact Box4.new _ _ _ _ _
      have HNB := Lib.hid hnb; have HN4 := Lib.hid hn4; have HW2 := Lib.hid hW2
      clear hpm hpn hal hnb hn4 hp hW2
      go_wp2_with fail
      rw [HW2.out]
      refine (cpA_spec _ w.heap.size ats _ (HPM.out.below HNB.out (by omega)) (by have := HNB.out.size; omega) (by have := HAL.out; omega)).mono ?_
      rintro e w3 ⟨v3, rfl, ho3, hb3⟩
      obtain ⟨⟨xa, xn, xc⟩, rfl⟩ := ho3.sv
      have hn3 := HN4.out.later hb3
      have HB3 := Lib.hid (HNB.out.trans (hb3.mono HNB.out.size))
      have HO3 := Lib.hid ho3; have HN3 := Lib.hid hn3
      obtain ⟨⟨e0, e1, e2, e3⟩, f0, f1, f2, f3⟩ := hn3.cells
      have d3 := (P3.out.later HB3.out).cells.1.1
      have b3' : wr.heap.size < w3.heap.size := hn3.lt
      have HBM := Lib.hid (HB.out.later (show Below wr.heap.size wr (w3.setCell ⟨wr.heap.size, 3, none⟩ (.slice xa xn xc)) from HB3.out.setCell (Nat.le_refl _) _))
      have HND := Lib.hid (show (insN ts ++ insN [((⟨nm, tx, pa, ats⟩, (xa, xn, xc)) : Nv)]).Nodup from List.nodup_append.2 ⟨HB.out.n.nod, by
        unfold insN; cases hv : (sv (xa, xn, xc)).ownBlock <;> simp [hv], fun a ha c hc e => by
        have h1 := (HB.out.n.lt a ha).2
        obtain ⟨p, hp, hpb⟩ := insN_mem.1 hc
        rw [List.mem_singleton] at hp; subst hp
        have h2 := (HO3.out.lt c hpb).1
        have := HNB.out.size
        omega⟩)
      have HLN := Lib.hid (show ts.length ≤ 68719476736 by
        have h1 := congrArg List.length HT.out; rw [List.length_map, List.length_take] at h1
        have h2 := ndW_len b.nodes; have := HF.out.1; omega)
      clear hn3 hb3 ho3
      rw [show sv (xa, xn, xc) = Value.slice xa xn xc from rfl]
      go_wp2_with (at_builtin; refine wpList_appNG rfl _ _ rfl w.heap.size w _ ts rfl (HBM.out.n.later ((Below.refl _ _).alloc (Nat.le_refl _) _)) _ _ [((⟨nm, tx, pa, ats⟩, (xa, xn, xc)) : Nv)] rfl (readsN_at (w3.setCell ⟨wr.heap.size, 3, none⟩ (.slice xa xn xc)) w3.heap.size (size_setC _ _ _) (⟨nm, tx, pa, ats⟩, (xa, xn, xc)) rfl rfl rfl rfl) ?ci HND.out ?cl ?_)
      case ci =>
        intro p hp; rw [List.mem_singleton] at hp; subst hp
        exact ownK_alloc4 HO3.out (by have := HNB.out.size; have := HB.out.n.row.size; omega) HN3.out (Nat.le_refl _)
      case cl => have := HLN.out; simp; omega
      intro v5 w5 hm5 hg5
      obtain ⟨a5, c5, hv5⟩ := mineN_form hm5
      obtain ⟨n5, hn5⟩ : ∃ m, (ts ++ [((⟨nm, tx, pa, ats⟩, (xa, xn, xc)) : Nv)]).length = m := ⟨_, rfl⟩
      rw [hn5] at hv5; subst hv5
      have hb4 := (show Below wr.heap.size wr (w3.setCell ⟨wr.heap.size, 3, none⟩ (.slice xa xn xc)) from HB3.out.setCell (Nat.le_refl _) _).alloc (by rw [size_setC]; omega) (.cells #[.string nm, .string tx, .int .i64 pa, .slice xa xn xc] 117)
      have hM4 := HB.out.later hb4
      have hk5 := keep_of hM4.n.row.row hg5
      have r1 := Lib.hid ((P1.out.later hb4).keep hk5 bd_ne.1)
      have r2 := Lib.hid ((P2.out.later hb4).keep hk5 bd_ne.1)
      have r3 := Lib.hid ((P3.out.later hb4).keep hk5 bd_ne.1)
      have HB5 := Lib.hid (hM4.node hm5 hg5)
      have HT5 := Lib.hid (show (ts ++ [((⟨nm, tx, pa, ats⟩, (xa, xn, xc)) : Nv)]).map Prod.fst = b.nodes.take (k + 1) by rw [List.map_append, HT.out, take_moreN HPN.out]; rfl)
      obtain ⟨⟨d5, _⟩, f5, _⟩ := r3.out.cells
      clear hm5 hg5 hb4 hM4 hk5 hn5
      go_wp2_with fail
      go_roundw
      case rel => exact ⟨k + 1, _, _, _, _, by omega, by go_num, r1.out.far (by have := HC.out; omega) _, r2.out.far (by have := HC.out; omega) _, r3.out.set0 _, HB5.out.setT r3.out (by have := HC.out; omega), HT5.out⟩
      case measure => simp [intOf]; omega
    · have hkn : k = n := by omega
      subst hkn
      obtain ⟨⟨e0, e1⟩, _⟩ := P3.out.cells
      obtain ⟨⟨g0, g1⟩, f0, f1⟩ := P2.out.cells
      have HE := Lib.hid (show ts.map Prod.fst = b.nodes by rw [HT.out, List.take_of_length_le]; have h1 := congrArg List.length HNS.out; rw [List.length_map, HN.out] at h1; omega)
      have HX := Lib.hid ((HB.out.setT (u := .slice ka kn kc) (o := 0) P2.out (Nat.le_succ _)).setT (o := 1) (u := .slice oa2 on oc2) (P2.out.set0 _) (Nat.le_succ _))
      have HRS := Lib.hid ((P2.out.set0 (.slice ka kn kc)).set1 (.slice oa2 on oc2))
      go_wp2_with fail
      obtain ⟨⟨r0, r1⟩, _⟩ := HRS.out.cells
      refine bodyPost_ret (v := .agg #[.slice ka kn kc, .slice oa2 on oc2]) (by simp [results, Tryz.results68, go_sem, r0, r1]) rfl ?_
      exact ⟨_, _, rfl, HX.out.at HE.out⟩

end Go.Proofs.YtpkicliimhflgaaGreatDoor
