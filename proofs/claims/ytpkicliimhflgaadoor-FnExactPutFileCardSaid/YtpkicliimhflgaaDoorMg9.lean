/- Helper contracts: copyBuilder of the program. Asked: the builder lies in memory as named. Helper contract: l12Copy of the model. Asked: what is copied lies in memory as named, and is fewer than 2^36. Helper contracts: EqualBuilders of the program and of the model answer alike: whether the builders are equal. Asked: they lie in memory as named. Helper contracts: FitsKind, SizeResponse and NotFound of the program and of the model answer alike. Helper contracts: findServer, findFile, AnswerTo of the program and of the model. Asked: the servers lie in memory as named, and are fewer than 2^40. Helper contract: putFile of the program. Asked: the servers are the call's own, few, with few files each. Putting a file, as plain facts: where the server stands afterwards, what it holds. Helper contract: IsServer of the program. Asked: the server lies in memory as named, its strings are no longer than 2^20; the library's MaxLen holds what its initialiser laid. Helper contract: PutFile of the program. Asked: the servers lie in memory as named, few and short; the strings put are no longer than 2^20; the library's MaxLen holds what its initialiser laid. -/
import Derived.Test.YtpkicliimhflgaaDoorMg5
import Derived.Deep.RegionHeld3
import Derived.Deep.RegionWith
import Derived.Deep.CutRange
import Derived.Test.YtpkicliimhflgaaDoorMg6
import Derived.Test.YtpkicliimhflgaaDoorMg4
import Derived.Shelf.SlSortCmp.QuietGrown
import Derived.Test.YtpkicliimhflgaaDoorMg1
import Derived.Test.YtpkicliimhflgaaDoorMg8
namespace Go.Proofs.YtpkicliimhflgaaDoor

open Go.ChangeShapes Go.WideShapes Go.ChangeAt Go.RowKit

theorem below_al {w w' : World} (h : Below w.heap.size w w') (o : Obj) : Below w.heap.size w (w'.alloc o) := h.alloc h.size o
theorem below_st {B c o : Nat} {w w' : World} (h : Below B w w') (hb : B ≤ c) (u : Value) : Below B w (w'.setCell ⟨c, o, none⟩ u) := h.setCell hb u
theorem below_dr {B : Nat} {w w' : World} (h : Below B w w') : Below B w w'.drew := h.drew
theorem heap_dr {w : World} {g : Nat} {o : Obj} (h : w.heap[g]? = some o) : w.drew.heap[g]? = some o := h
theorem heap_al {w : World} {g : Nat} {o : Obj} (h : w.heap[g]? = some o) (o' : Obj) : (w.alloc o').heap[g]? = some o := below_heap ((Below.refl _ w).alloc (Nat.le_refl _) o') (heap_lt h) h
theorem heap_nw {w : World} {g : Nat} {o : Obj} (h : w.heap.size = g) : (w.alloc o).heap[g]? = some o := by subst h; exact heap_alloc_new w o
theorem size_dr (w : World) : w.drew.heap.size = w.heap.size := rfl
theorem heap_kp {w w' : World} {e T : TypeId} {g : Nat} {cs : Array Value} (hk : KeepT e w w') (hne : T ≠ e) (h : w.heap[g]? = some (.cells cs T (0, 0))) : w'.heap[g]? = some (.cells cs T (0, 0)) := hk g cs T hne h
theorem mk_al {enc : Nv → List Value} {w w' : World} {v : Value} {xs : List Nv} {e : TypeId} {B : Nat} (h : MineK enc 4 e B w w' v xs) (o : Obj) : MineK enc 4 e B w (w'.alloc o) v xs := h.alloc o
theorem mk_dr {enc : Nv → List Value} {w w' : World} {v : Value} {xs : List Nv} {e : TypeId} {B : Nat} (h : MineK enc 4 e B w w' v xs) : MineK enc 4 e B w w'.drew v xs := ⟨h.row, h.below.drew, h.size⟩
theorem mk_kp {enc : Nv → List Value} {w w' w'' : World} {v : Value} {xs : List Nv} {e e' : TypeId} (hk : KeepT e' w' w'') (hne : e ≠ e') (hb : Below w.heap.size w w'') (h : MineK enc 4 e w.heap.size w w' v xs) : MineK enc 4 e w.heap.size w w'' v xs := by
  refine ⟨⟨h.row.1, ?_⟩, hb, hb.size⟩
  rcases h.row.2 with h1 | ⟨g, cap, cur, e1, h2, h3, h4⟩
  · exact Or.inl h1
  · exact Or.inr ⟨g, cap, cur, e1, h2, hk _ _ _ hne h3, h4⟩
theorem mk_st {enc : Nv → List Value} {w w' : World} {v u : Value} {xs : List Nv} {e T : TypeId} {B b o : Nat} {cs : Array Value} (hb : w'.heap[b]? = some (.cells cs T (0, 0))) (hne : e ≠ T) (hB : B ≤ b) (h : MineK enc 4 e B w w' v xs) : MineK enc 4 e B w (w'.setCell ⟨b, o, none⟩ u) v xs :=
  ⟨(ownK_setT h.own hb hne).1, h.below.setCell hB _, by rw [size_setC]; exact h.size⟩
theorem mi_al {w w' : World} {v : Value} {zs : List Int} {e : TypeId} {B : Nat} (h : Mine .i64 e B w w' v zs) (o : Obj) : Mine .i64 e B w (w'.alloc o) v zs := h.alloc o
theorem mi_dr {w w' : World} {v : Value} {zs : List Int} {e : TypeId} {B : Nat} (h : Mine .i64 e B w w' v zs) : Mine .i64 e B w w'.drew v zs := ⟨h.row, h.below.drew, h.size⟩
theorem mi_kp {w w' w'' : World} {v : Value} {zs : List Int} {e e' : TypeId} (hk : KeepT e' w' w'') (hne : e ≠ e') (hb : Below w.heap.size w w'') (h : Mine .i64 e w.heap.size w w' v zs) : Mine .i64 e w.heap.size w w'' v zs := by
  refine ⟨⟨h.row.1, ?_⟩, hb, hb.size⟩
  rcases h.row.2 with h1 | ⟨g, cap, cur, e1, h2, h3, h4⟩
  · exact Or.inl h1
  · exact Or.inr ⟨g, cap, cur, e1, h2, hk _ _ _ hne h3, h4⟩
theorem mi_st {w w' : World} {v u : Value} {zs : List Int} {e T : TypeId} {B b o : Nat} {cs : Array Value} (hb : w'.heap[b]? = some (.cells cs T (0, 0))) (hne : e ≠ T) (hB : B ≤ b) (h : Mine .i64 e B w w' v zs) : Mine .i64 e B w (w'.setCell ⟨b, o, none⟩ u) v zs :=
  ⟨(own_setT h.own hb hne).1, h.below.setCell hB _, by rw [size_setC]; exact h.size⟩
theorem empty_row {w : World} {e : TypeId} {k g B : Nat} (h : w.heap[g]? = some (.cells #[] e (0, 0))) (hB : B ≤ g) : w.ownsRow B e k (.slice (some ⟨g, 0, none⟩) 0 0) 0 [] :=
  ⟨by simp, Or.inr ⟨g, 0, #[], rfl, hB, h, Nat.le_refl _, by decide, by simp, by simp⟩⟩

abbrev zBd : Array Value := #[.slice none 0 0, .slice none 0 0]

end Go.Proofs.YtpkicliimhflgaaDoor
namespace Go.Proofs.YtpkicliimhflgaaDoor
open Go.ChangeShapes Go.WideShapes Go.ChangeAt Go.RowKit

theorem heap_alV {w : World} {g : Nat} {o : Obj} (h : w.heap[g]? = some o) (o' : Obj) : (w.alloc o').heap[g]? = some o := below_heap ((Below.refl _ w).alloc (Nat.le_refl _) o') (heap_lt h) h
theorem heap_kpV {w w' : World} {e T : TypeId} {g : Nat} {cs : Array Value} (hk : KeepT e w w') (hne : T ≠ e) (h : w.heap[g]? = some (.cells cs T (0, 0))) : w'.heap[g]? = some (.cells cs T (0, 0)) := hk g cs T hne h
/-- append(new empty slice, files..) at a step of a drawn region. -/
theorem step_appF0 {w0 w : World} {ops : Array Oper} {o : Oper} {a : Act} {K : Act → World → Prop} {Q : Exit → Act → World → Prop} {E : Prop} (hgd : o.guard = none) (s x : Operand)
    (ho : o.op = .call { callee := .builtin .append, args := #[s, x], argTypes := #[27, 27] })
    (g : Nat) (hs : a.eval s = .slice (some ⟨g, 0, none⟩) 0 0) (hg : w.heap[g]? = some (.cells #[] 57 (0, 0))) (hBg : w0.heap.size ≤ g) (hb : Below w0.heap.size w0 w)
    (vx : Value) (us : List Fl) (hx : a.eval x = vx) (top : Nat) (hr : ReadsK encF 7 top w0 vx us) (htop : top ≤ w0.heap.size) (n : Nat) (hn : us.length = n) (hlen : us.length ≤ 68719476736)
    (h : ∀ ad cap w', MineK encF 7 57 w0.heap.size w0 w' (.slice ad n cap) us → KeepT 57 w w' → K (a.put o.dst (.slice ad n cap)) w') :
    if Region.wanted o (yielded ops a.tmps) = true then Oper.wp Tryd.prog o a w K Q else E := by
  subst hn
  have hw : Region.wanted o (yielded ops a.tmps) = true := by simp [Region.wanted, hgd]
  rw [if_pos hw]
  have hrow := empty_row (k := 7) hg hBg
  have hr' := hr.below hb htop
  obtain ⟨i, hi, hz, hsize, hby⟩ := info_parts infoFl
  obtain ⟨ad, cap, rfl, h1, h2, h3, h4⟩ := id hr'
  cases ad with
  | none =>
    obtain ⟨rfl, _, rfl⟩ := hr'.nil
    have hrun := run_append_owned_none (P := Tryd.prog) (w := w) w0.heap.size 27 o.type 57 i 7 Tryd.underlying27 hi _ 0 _ hrow
    have h5 := h (some ⟨g, 0, none⟩) 0 w ⟨hrow, hb, hb.size⟩ (fun _ _ _ _ h => h)
    unfold Oper.wp
    have hx0 : a.eval x = .slice none 0 0 := by simpa using hx
    simp [execOp, ho, resolve, invoke, builtin, hs, hx0, hrun, Result.andThen]
    exact h5
  | some ad =>
    refine wp_append_own _ s x _ ho w0.heap.size _ i _ 7 80 Tryd.underlying27 hi hz hsize hby (by rfl) (by decide) _ 0 _ hs hrow ad us.length cap (us.flatMap encF) hx (flat_len encF_len us) (hr'.news encF_len) ?_ ?_ ?_ hb.size ?_
    · intro u hu
      obtain ⟨y, _, hy⟩ := List.mem_flatMap.1 hu
      exact encF_one y u hy
    · unfold maxLen; omega
    · omega
    · intro v' w' hown hgr hn
      rw [Nat.zero_add, List.nil_append] at hown
      have hM : MineK encF 7 57 w0.heap.size w0 w' v' us := ⟨hown, (OwnK.back (enc := encF) (k := 7) (xs := []) ⟨hrow, fun g hg => (hrow.lt g hg).2⟩ hb hb.size hgr), Nat.le_trans hb.size hgr.size⟩
      rcases hown.2 with ⟨e, h0⟩ | ⟨g', cap', cur, e, _⟩
      · subst e
        have := h none 0 w'
        rw [h0] at this
        exact this hM (keep_of hrow hgr)
      · subst e
        exact h _ _ w' hM (keep_of hrow hgr)
/-- append(servers of the call's own, one more) at a step of a drawn region. -/
theorem step_appV {w : World} {ops : Array Oper} {o : Oper} {a : Act} {K : Act → World → Prop} {Q : Exit → Act → World → Prop} {E : Prop} (hgd : o.guard = none) (s x : Operand)
    (ho : o.op = .call { callee := .builtin .append, args := #[s, x], argTypes := #[41, 41] })
    (B : Nat) (w0 : World) (v : Value) (ts : List Se) (hs : a.eval s = v) (hM : MineV B w0 w v ts) (q : Se) (H : Nat) (hx : a.eval x = .slice (some ⟨H, 0, none⟩) 1 1) (hr : ReadsK encG 2 (H + 1) w (.slice (some ⟨H, 0, none⟩) 1 1) [q])
    (hin : OwnK encF 7 57 B w.heap.size w (sv q.2) q.1.2) (hnd : (insV ts ++ insV [q]).Nodup) (n : Nat) (hn : ts.length + 1 = n)
    (hlen : n ≤ 68719476736)
    (h : ∀ ad cap w', MineV B w0 w' (.slice ad n cap) (ts ++ [q]) → w.grownBy w' v.ownBlock → K (a.put o.dst (.slice ad n cap)) w') :
    if Region.wanted o (yielded ops a.tmps) = true then Oper.wp Tryd.prog o a w K Q else E := by
  have hw : Region.wanted o (yielded ops a.tmps) = true := by simp [Region.wanted, hgd]
  rw [if_pos hw]
  obtain ⟨i, hi, hz, hsize, hby⟩ := info_parts infoSe
  refine wp_append_own _ s x _ ho B _ i _ 2 40 Tryd.underlying41 hi hz hsize hby (by rfl) (by decide) v ts.length _ hs hM.row.row ⟨H, 0, none⟩ 1 1 ([q].flatMap encG) hx rfl (hr.news encG_len) ?_ ?_ ?_ hM.row.size ?_
  · intro u hu
    obtain ⟨y, _, hy⟩ := List.mem_flatMap.1 hu
    exact encG_one y u hy
  · unfold maxLen; omega
  · omega
  · intro v' w' hown hgr _
    have hm' : MineV B w0 w' v' (ts ++ [q]) := by
      refine ⟨hM.row.grow (ys := [q]) hown hgr, fun p hp => ?_, by rw [insV_append]; exact hnd⟩
      have hall : OwnK encF 7 57 B w.heap.size w (sv p.2) p.1.2 := by
        rcases List.mem_append.1 hp with h | h
        · exact hM.inn p h
        · rw [List.mem_singleton] at h; subst h; exact hin
      refine ⟨hall.1.kept hgr ?_, fun g hg => Nat.lt_of_lt_of_le (hall.2 g hg) hgr.size⟩
      cases hv : (sv p.2).ownBlock with
      | none => exact Or.inl rfl
      | some g =>
        right
        intro e
        exact rows_ne hM.row.row hall.1 sv_ne_fl e.symm hv
    obtain ⟨ad, cap, rfl⟩ := hm'.form
    have hl : (ts ++ [q]).length = n := by rw [List.length_append]; exact hn
    rw [hl] at hm' ⊢
    exact h ad cap w' hm' hgr
theorem readsG_at {w : World} {H : Nat} {T : TypeId} {nm : ByteArray} {u : Value} (q : Se) (h : w.heap[H]? = some (.cells #[.string nm, u] T (0, 0))) (h1 : q.1.1 = nm) (h2 : sv q.2 = u) : ReadsK encG 2 (H + 1) w (.slice (some ⟨H, 0, none⟩) 1 1) [q] := by
  subst h1; subst h2
  refine ⟨_, 1, rfl, by simp, by omega, (fun h => by cases h), Or.inr ⟨_, 0, rfl, by omega, fun j y hy i hi' => ?_⟩⟩
  have hj : j = 0 := by have := (List.getElem?_eq_some_iff.1 hy).1; simp at this; omega
  subst hj
  simp only [List.getElem?_cons_zero, Option.some.injEq] at hy
  subst hy
  rcases (show i = 0 ∨ i = 1 by omega) with rfl | rfl
  · exact box_cell h rfl
  · exact box_cell h rfl

set_option maxRecDepth 100000 in
set_option maxHeartbeats 4000000 in
theorem copyV_spec (v : Value) (ss : List Se) (w : World) (hv : ReadV w.heap.size w v ss) (hl : ss.length ≤ 1099511627) (hf : ∀ p ∈ ss, p.1.2.length ≤ 1099511627) :
    Calls Tryd.prog 31 #[v] w (VOut (ss.map Prod.fst) w) := by
  obtain ⟨a, cap, rfl, hc1, hc2⟩ := hv.form
  obtain ⟨n, hn⟩ : ∃ n, ss.length = n := ⟨_, rfl⟩
  rw [hn] at hv hc1 hl ⊢
  have HN := Lib.hid hn; have HV := Lib.hid hv; have HF := Lib.hid hf; clear hn hv hf
  have HM0 := Lib.hid (MineV.empty w w w.heap.size (Below.refl _ _) (Nat.le_refl _))
  go_enter Tryd.func31, Tryd.ntmps31
  go_wp2
  go_loopw [4, 3] (fun i o wr => ∃ (k : Nat) (oa : Option Addr) (oc : Nat) (ts : List Se), k ≤ n ∧ i = .int .i64 k ∧ o = .slice oa k oc ∧ ts.length = k ∧ MineV w.heap.size w wr (.slice oa k oc) ts ∧ ts.map Prod.fst = (ss.map Prod.fst).take k)
    (fun i _ _ => n - (intOf i).toNat)
  case atStart => exact ⟨0, _, _, [], Nat.zero_le _, rfl, rfl, rfl, HM0.out, rfl⟩
  case round =>
    obtain ⟨k, oa, oc, ts, hk, rfl, rfl, hln, hm, hmap⟩ := hrel
    have HM := Lib.hid hm; have HLN := Lib.hid hln; have HMP := Lib.hid hmap
    clear hm hln hmap
    by_cases hlt : (k : Int) < (n : Int)
    · obtain ⟨p, hp⟩ := se_at (ss := ss) (j := k) (by rw [HN.out]; omega)
      obtain ⟨g, off, rfl, hg, c0, c1⟩ := HV.out.at hp
      have HPS := Lib.hid hp
      have HFS := Lib.hid (HV.out.files hp)
      have hfl := HF.out p (List.mem_of_getElem? hp)
      obtain ⟨⟨p_a, fs⟩, ⟨sa, sn, sc⟩⟩ := p
      replace hfl : fs.length ≤ 1099511627 := hfl
      have hsn : sn = fs.length := by obtain ⟨_, _, e, _⟩ := HFS.out; injection e
      have HFL := Lib.hid hfl; have HSN := Lib.hid hsn; clear hfl hp hsn
      have C0 := Lib.hid (show w.cell? ⟨g, off + k * 2, none⟩ = some (.string p_a) from c0); have C1 := Lib.hid (show w.cell? ⟨g, off + k * 2 + 1, none⟩ = some (.slice sa sn sc) from c1)
      replace c0 : wr.cell? ⟨g, off + k * 2, none⟩ = some (.string p_a) := by rw [HM.out.row.below.cell (show g < _ by omega)]; exact c0
      replace c1 : wr.cell? ⟨g, off + k * 2 + 1, none⟩ = some (.slice sa sn sc) := by rw [HM.out.row.below.cell (show g < _ by omega)]; exact c1
      have hgw : g < wr.heap.size := by have := HM.out.row.size; omega
      have HRF := Lib.hid (show ReadsK encF 7 w.heap.size wr (.slice sa sn sc) fs from HFS.out.below HM.out.row.below (Nat.le_refl _))
      have KEEP := Lib.hid (fun (w' : World) (h : Below w.heap.size w w') => show Below w.heap.size w w' ∧ w'.cell? ⟨g, off + k * 2, none⟩ = some (.string p_a) ∧ w'.cell? ⟨g, off + k * 2 + 1, none⟩ = some (.slice sa sn sc) from ⟨h, (h.cell hg).trans C0.out, (h.cell hg).trans C1.out⟩)
      have HCV := Lib.hid (fun (xa : Option Addr) (xc : Nat) (wF wX : World) (hmF : MineK encF 7 57 wr.heap.size wr wF (.slice xa sn xc) fs) (hX : Below wF.heap.size wF wX) => show OwnK encF 7 57 w.heap.size wX.heap.size wX (sv (xa, sn, xc)) fs ∧ (insV ts ++ insV [(((p_a, fs), (xa, sn, xc)) : Se)]).Nodup from
        ⟨((hmF.own.later hX).mono HM.out.row.size hX.size), List.nodup_append.2 ⟨HM.out.nod, insV_one _, fun b hb c hc e => by
          subst e
          have h1 := (HM.out.lt b hb).2
          obtain ⟨q', hq', hqb'⟩ := insV_mem.1 hc
          rw [List.mem_singleton] at hq'; subst hq'
          have h2 := (hmF.row.lt b hqb').1
          omega⟩⟩)
      have HK1 := Lib.hid (show ts.length + 1 = k + 1 by rw [HLN.out])
      go_upto_region 5 with (fail)
      go_region_held3 (fun w' => Below w.heap.size w w' ∧ w'.cell? ⟨g, off + k * 2, none⟩ = some (.string p_a) ∧ w'.cell? ⟨g, off + k * 2 + 1, none⟩ = some (.slice sa sn sc))
        (exact KEEP.out _ (by repeat' (first | (with_reducible exact HM.out.row.below) | (with_reducible exact hwF) | (with_reducible exact hwV) | (with_reducible refine bl_dw ?_) | (with_reducible refine bl_aw ?_ _))))
        (first
        | (refine step_appF0 (w0 := wr) (by rfl) _ _ (by rfl) _ (by rfl) (by repeat' (first | (with_reducible refine hq_dr ?_) | ((with_reducible refine hq_nw ?_); (first | (with_reducible rfl) | (simp only [size_alloc]; done))) | (with_reducible refine heap_alV ?_ _))) (by first | omega | exact Nat.le_refl _) (by repeat' (first | (with_reducible exact Below.refl _ _) | (with_reducible refine bl_dw ?_) | (with_reducible refine bl_aw ?_ _))) _ fs (by rfl) w.heap.size HRF.out HM.out.row.size sn HSN.out.symm (by have := HFL.out; omega) ?_; intro xa xc wF hmF hkF; have hwF := bl_via HM.out.row.below HM.out.row.size hmF.below)
        | (refine step_appV (by rfl) _ _ (by rfl) w.heap.size w _ ts (by rfl) (HM.out.later (by repeat' (first | (with_reducible exact Below.refl _ _) | (with_reducible exact hmF.below) | (with_reducible refine bl_dw ?_) | (with_reducible refine bl_aw ?_ _)))) ((p_a, fs), (xa, sn, xc)) _ (by rfl) (readsG_at (T := 29) (nm := p_a) (u := .slice xa sn xc) _ (by repeat' (first | (with_reducible refine hq_dr ?_) | ((with_reducible refine hq_nw ?_); (first | (with_reducible rfl) | (simp only [size_alloc]; done))) | (with_reducible refine heap_alV ?_ _) | (with_reducible refine heap_kpV hkF (by decide) ?_))) rfl rfl) (HCV.out xa xc wF _ hmF (by repeat' (first | (with_reducible exact Below.refl _ _) | (with_reducible refine bl_dw ?_) | (with_reducible refine bl_aw ?_ _)))).1 (HCV.out xa xc wF _ hmF (Below.refl _ _)).2 (k + 1) HK1.out (by omega) ?_; intro ya yc wV hmV hgV; have hwV := hmV.row.below))
      all_goals
        go_wp2_with fail
        go_roundw
        case rel => exact ⟨k + 1, ya, yc, ts ++ [((p_a, fs), (xa, sn, xc))], by omega, by go_num, by first | rfl | go_num, by rw [List.length_append, HLN.out]; rfl, hmV, by rw [List.map_append, HMP.out, take_snocS HPS.out]; rfl⟩
        case measure => simp [intOf]; omega
    · have hkn : k = n := by omega
      subst hkn
      go_wp2
      go_ret
      exact ⟨_, _, _, ts, rfl, by rw [HMP.out, List.take_of_length_le (by rw [List.length_map, HN.out]; exact Nat.le_refl _)], HM.out⟩

end Go.Proofs.YtpkicliimhflgaaDoor
namespace Go.Proofs.YtpkicliimhflgaaDoor
open Go.ChangeShapes Go.WideShapes Go.ChangeAt Go.RowKit

theorem eq_pre {xs ys : List Int} (hl : xs.length = ys.length) (h : ∀ j, j < xs.length → xs.getD j 0 = ys.getD j 0) : xs = ys := by
  apply List.ext_getElem?
  intro j
  by_cases hj : j < xs.length
  · rw [getD_at hj, getD_at (by omega), h j hj]
  · rw [List.getElem?_eq_none (by omega), List.getElem?_eq_none (by omega)]
def Pre (xs ys : List Int) (k : Nat) : Prop := ∀ j, j < k → xs.getD j 0 = ys.getD j 0
theorem Pre.step {xs ys : List Int} {k : Nat} (h : Pre xs ys k) (e : xs.getD k 0 = ys.getD k 0) : Pre xs ys (k + 1) := by
  intro j hj
  by_cases hjk : j = k
  · subst hjk; exact e
  · exact h j (by omega)
/-- The first k elements are equal. -/
def PreL {α : Type} (xs ys : List α) (k : Nat) : Prop := ∀ j, j < k → xs[j]? = ys[j]?
theorem PreL.zero {α : Type} (xs ys : List α) : PreL xs ys 0 := fun _ h => absurd h (Nat.not_lt_zero _)
theorem PreL.step {α : Type} {xs ys : List α} {k : Nat} (h : PreL xs ys k) (e : xs[k]? = ys[k]?) : PreL xs ys (k + 1) := by
  intro j hj
  by_cases hjk : j = k
  · subst hjk; exact e
  · exact h j (by omega)
theorem PreL.full {α : Type} {xs ys : List α} {k : Nat} (h : PreL xs ys k) (hx : xs.length = k) (hy : ys.length = k) : xs = ys := by
  apply List.ext_getElem?
  intro j
  by_cases hj : j < k
  · exact h j hj
  · rw [List.getElem?_eq_none (by omega), List.getElem?_eq_none (by omega)]
theorem ret_d {p : Prop} [Decidable p] {b : Bool} (h : b = decide p) : Ending.returned (.bool b) = .returned (.bool (decide p)) := by rw [h]

theorem nd_ne {x y : Nd} (h : x.name ≠ y.name ∨ x.text ≠ y.text ∨ x.parent ≠ y.parent ∨ x.attrs ≠ y.attrs) : x ≠ y := by
  rintro rfl
  rcases h with h | h | h | h <;> exact h rfl
theorem nd_eq {x y : Nd} (h1 : x.name = y.name) (h2 : x.text = y.text) (h3 : x.parent = y.parent) : decide (x = y) = decide (x.attrs = y.attrs) := by
  cases x; cases y
  simp only at h1 h2 h3
  subst h1; subst h2; subst h3
  exact decide_eq_decide.2 ⟨fun h => congrArg Nd.attrs h, fun h => by cases h; rfl⟩

end Go.Proofs.YtpkicliimhflgaaDoor
namespace Go.Proofs.YtpkicliimhflgaaDoor
open Go.ChangeShapes Go.WideShapes Go.ChangeAt Go.RowKit

def fitB (kd k : Int) : Bool := decide (kd = k) || (decide (k = 5) && decide (kd = 2))
theorem fit_eq {kd k : Int} (h : kd = k) : fitB kd k = true := by unfold fitB; rw [decide_eq_true h]; rfl
theorem fit_not {kd k : Int} (h : kd ≠ k) (h5 : k ≠ 5) : fitB kd k = false := by unfold fitB; rw [decide_eq_false h, decide_eq_false h5]; rfl
theorem fit_yes {kd k : Int} (h5 : k = 5) (h2 : kd = 2) : fitB kd k = true := by unfold fitB; rw [decide_eq_true h5, decide_eq_true h2]; simp
theorem fit_no {kd k : Int} (h : kd ≠ k) (h2 : kd ≠ 2) : fitB kd k = false := by unfold fitB; rw [decide_eq_false h, decide_eq_false h2]; simp

end Go.Proofs.YtpkicliimhflgaaDoor
namespace Go.Proofs.YtpkicliimhflgaaDoor
open Go.ChangeShapes Go.WideShapes Go.ChangeAt Go.RowKit

set_option maxRecDepth 100000 in
set_option maxHeartbeats 4000000 in
theorem host_clo (p_a : ByteArray) (sa : Option Addr) (sn sc : Nat) (h : ByteArray) (b : Nat) (w : World) (hc : w.cell? ⟨b, 0, none⟩ = some (.string h)) :
    Calls Tryd.prog 50 #[.agg #[.string p_a, .slice sa sn sc], .pointer (some ⟨b, 0, none⟩)] w fun e w' => e = .returned (.bool (decide (p_a = h))) ∧ Grw w w' := by
  have HG := Lib.hid ((Grw.refl w).alloc (.cells #[.string p_a, .slice sa sn sc] 29))
  have hc2 : (w.alloc (.cells #[.string p_a, .slice sa sn sc] 29)).cell? ⟨b, 0, none⟩ = some (.string h) := by rw [((Below.refl _ w).alloc (Nat.le_refl _) _).cell (World.block_lt_of_cell? _ _ hc)]; exact hc
  clear hc
  by_cases hh : p_a = h
  · have e1 : (p_a.toList == h.toList) = true := beqL_yes hh
    have HD := Lib.hid (decide_eq_true hh); clear hh
    go_enter Tryd.func50, Tryd.ntmps50
    go_wp2_with fail
    go_ret
    exact ⟨ret_b (by rw [HD.out]), HG.out⟩
  · have e1 : (p_a.toList == h.toList) = false := beqL_no hh
    have HD := Lib.hid (decide_eq_false hh); clear hh
    go_enter Tryd.func50, Tryd.ntmps50
    go_wp2_with fail
    go_ret
    exact ⟨ret_b (by rw [HD.out]), HG.out⟩

set_option maxRecDepth 100000 in
set_option maxHeartbeats 4000000 in
theorem path_clo (p_a : ByteArray) (f_s f_k : Int) (f_b : ByteArray) (f_a : Int) (f_h : Bool) (f_o : ByteArray) (h : ByteArray) (b : Nat) (w : World) (hc : w.cell? ⟨b, 0, none⟩ = some (.string h)) :
    Calls Tryd.prog 55 #[.agg #[.string p_a, .int .i64 f_s, .int .i64 f_k, .string f_b, .int .i64 f_a, .bool f_h, .string f_o], .pointer (some ⟨b, 0, none⟩)] w fun e w' => e = .returned (.bool (decide (p_a = h))) ∧ Grw w w' := by
  have HG := Lib.hid ((Grw.refl w).alloc (.cells #[.string p_a, .int .i64 f_s, .int .i64 f_k, .string f_b, .int .i64 f_a, .bool f_h, .string f_o] 57))
  have hc2 : (w.alloc (.cells #[.string p_a, .int .i64 f_s, .int .i64 f_k, .string f_b, .int .i64 f_a, .bool f_h, .string f_o] 57)).cell? ⟨b, 0, none⟩ = some (.string h) := by rw [((Below.refl _ w).alloc (Nat.le_refl _) _).cell (World.block_lt_of_cell? _ _ hc)]; exact hc
  clear hc
  by_cases hh : p_a = h
  · have e1 : (p_a.toList == h.toList) = true := beqL_yes hh
    have HD := Lib.hid (decide_eq_true hh); clear hh
    go_enter Tryd.func55, Tryd.ntmps55
    go_wp2_with fail
    go_ret
    exact ⟨ret_b (by rw [HD.out]), HG.out⟩
  · have e1 : (p_a.toList == h.toList) = false := beqL_no hh
    have HD := Lib.hid (decide_eq_false hh); clear hh
    go_enter Tryd.func55, Tryd.ntmps55
    go_wp2_with fail
    go_ret
    exact ⟨ret_b (by rw [HD.out]), HG.out⟩

set_option maxRecDepth 100000 in
set_option maxHeartbeats 4000000 in
theorem index_host (v : Value) (xs : List Se) (h : ByteArray) (b : Nat) (w : World) (hv : ReadV w.heap.size w v xs) (hc : w.cell? ⟨b, 0, none⟩ = some (.string h)) (hl : xs.length ≤ 1099511627776) :
    Calls Tryd.prog 49 #[v, .func (.func 50) #[] #[.pointer (some ⟨b, 0, none⟩)]] w fun e w' => e = .returned (.int .i64 (ixV (fdS (xs.map Prod.fst) h) xs.length)) ∧ Grw w w' := by
  obtain ⟨a, cap, rfl, hc1, hc2⟩ := hv.form
  obtain ⟨n, hn⟩ : ∃ n, xs.length = n := ⟨_, rfl⟩
  obtain ⟨R, hR⟩ : ∃ R, ixV (fdS (xs.map Prod.fst) h) n = R := ⟨_, rfl⟩
  rw [hn] at hv hc1 hl ⊢; rw [hR]
  have HV := Lib.hid hv; have HN := Lib.hid hn; have HR := Lib.hid hR; have HC := Lib.hid hc; have HBL := Lib.hid (World.block_lt_of_cell? _ _ hc)
  clear hv hn hR hc
  go_enter Tryd.func49, Tryd.ntmps49
  go_wp2
  go_loopw [8] (fun i wr => ∃ (k : Nat), k ≤ n ∧ i = .int .i64 k ∧ NoneTo (isHost h) (xs.map Prod.fst) k ∧ Grw w wr)
    (fun i _ => n - (intOf i).toNat)
  case atStart => exact ⟨0, Nat.zero_le _, rfl, NoneTo.zero _ _, Grw.refl _⟩
  case round =>
    obtain ⟨k, hk, rfl, hp, hs⟩ := hrel
    have HS := Lib.hid hs; have HP := Lib.hid hp
    clear hs hp
    by_cases hlt : (k : Int) < (n : Int)
    · obtain ⟨p, hp⟩ := se_at (ss := xs) (j := k) (by rw [HN.out]; omega)
      obtain ⟨g, off, rfl, hg, c0, c1⟩ := HV.out.at hp
      have HPF := Lib.hid (fd_mapS xs k p hp)
      obtain ⟨⟨p_a, fs⟩, ⟨sa, sn, sc⟩⟩ := p
      replace c0 : wr.cell? ⟨g, off + k * 2, none⟩ = some (.string p_a) := by rw [HS.out.below.cell (show g < _ by omega)]; exact c0
      replace c1 : wr.cell? ⟨g, off + k * 2 + 1, none⟩ = some (.slice sa sn sc) := by rw [HS.out.below.cell (show g < _ by omega)]; exact c1
      have HE := Lib.hid (host_clo p_a sa sn sc h b wr (by rw [HS.out.below.cell HBL.out]; exact HC.out))
      have HI := Lib.hid (show isHost h (p_a, fs) = decide (p_a = h) from rfl)
      clear hp
      obtain ⟨D, hD⟩ : ∃ D, decide (p_a = h) = D := ⟨_, rfl⟩
      rw [hD] at HE HI; clear hD
      cases D with
      | true =>
        have HQ := Lib.hid (HP.out.hit HPF.out HI.out)
        go_wp2_with (go_at_call 50; refine HE.out.mono ?_; rintro e w1 ⟨rfl, hg1⟩)
        have HG1 := Lib.hid (HS.out.trans hg1); clear hg1
        go_ret
        exact ⟨ret_ix (by rw [← HR.out]; unfold fdS; rw [HQ.out, ixV_hit (by omega)]), HG1.out⟩
      | false =>
        have HQ := Lib.hid (HP.out.step HPF.out HI.out)
        go_wp2_with (go_at_call 50; refine HE.out.mono ?_; rintro e w1 ⟨rfl, hg1⟩)
        have HG1 := Lib.hid (HS.out.trans hg1); clear hg1
        go_roundw
        case rel => exact ⟨k + 1, by omega, by go_num, HQ.out, HG1.out⟩
        case measure => simp [intOf]; omega
    · have hkn : k = n := by omega
      subst hkn
      have HE := Lib.hid (show fdS (xs.map Prod.fst) h = k from by have h1 := HP.out; have h2 := HN.out; rw [← List.length_map (f := Prod.fst)] at h2; subst h2; exact h1.full)
      go_wp2
      go_ret
      exact ⟨ret_ix (by rw [← HR.out, HE.out, ixV_no]), HS.out⟩

set_option maxRecDepth 100000 in
set_option maxHeartbeats 4000000 in
theorem index_path (v : Value) (xs : List Fl) (h : ByteArray) (b : Nat) (w : World) (hv : ReadsK encF 7 w.heap.size w v xs) (hc : w.cell? ⟨b, 0, none⟩ = some (.string h)) (hl : xs.length ≤ 1099511627776) :
    Calls Tryd.prog 54 #[v, .func (.func 55) #[] #[.pointer (some ⟨b, 0, none⟩)]] w fun e w' => e = .returned (.int .i64 (ixV (fdF xs h) xs.length)) ∧ Grw w w' := by
  obtain ⟨a, cap, rfl, hc1, hc2⟩ := hv.formF
  obtain ⟨n, hn⟩ : ∃ n, xs.length = n := ⟨_, rfl⟩
  obtain ⟨R, hR⟩ : ∃ R, ixV (fdF xs h) n = R := ⟨_, rfl⟩
  rw [hn] at hv hc1 hl ⊢; rw [hR]
  have HV := Lib.hid hv; have HN := Lib.hid hn; have HR := Lib.hid hR; have HC := Lib.hid hc; have HBL := Lib.hid (World.block_lt_of_cell? _ _ hc)
  clear hv hn hR hc
  go_enter Tryd.func54, Tryd.ntmps54
  go_wp2
  go_loopw [8] (fun i wr => ∃ (k : Nat), k ≤ n ∧ i = .int .i64 k ∧ NoneTo (isPath h) xs k ∧ Grw w wr)
    (fun i _ => n - (intOf i).toNat)
  case atStart => exact ⟨0, Nat.zero_le _, rfl, NoneTo.zero _ _, Grw.refl _⟩
  case round =>
    obtain ⟨k, hk, rfl, hp, hs⟩ := hrel
    have HS := Lib.hid hs; have HP := Lib.hid hp
    clear hs hp
    by_cases hlt : (k : Int) < (n : Int)
    · obtain ⟨p_a, f_s, f_k, f_b, f_a, f_h, f_o, hp⟩ := fl_at (xs := xs) (j := k) (by rw [HN.out]; omega)
      obtain ⟨g, off, rfl, hg, c0, c1, c2, c3, c4, c5, c6⟩ := HV.out.file hp
      have HPF := Lib.hid hp
      replace c0 : wr.cell? ⟨g, off + k * 7, none⟩ = some (.string p_a) := by rw [HS.out.below.cell (show g < _ by omega)]; exact c0
      replace c1 : wr.cell? ⟨g, off + k * 7 + 1, none⟩ = some (.int .i64 f_s) := by rw [HS.out.below.cell (show g < _ by omega)]; exact c1
      replace c2 : wr.cell? ⟨g, off + k * 7 + 2, none⟩ = some (.int .i64 f_k) := by rw [HS.out.below.cell (show g < _ by omega)]; exact c2
      replace c3 : wr.cell? ⟨g, off + k * 7 + 3, none⟩ = some (.string f_b) := by rw [HS.out.below.cell (show g < _ by omega)]; exact c3
      replace c4 : wr.cell? ⟨g, off + k * 7 + 4, none⟩ = some (.int .i64 f_a) := by rw [HS.out.below.cell (show g < _ by omega)]; exact c4
      replace c5 : wr.cell? ⟨g, off + k * 7 + 5, none⟩ = some (.bool f_h) := by rw [HS.out.below.cell (show g < _ by omega)]; exact c5
      replace c6 : wr.cell? ⟨g, off + k * 7 + 6, none⟩ = some (.string f_o) := by rw [HS.out.below.cell (show g < _ by omega)]; exact c6
      have HE := Lib.hid (path_clo p_a f_s f_k f_b f_a f_h f_o h b wr (by rw [HS.out.below.cell HBL.out]; exact HC.out))
      have HI := Lib.hid (show isPath h ⟨p_a, ⟨f_s, f_k, f_b, f_a, f_h, f_o⟩⟩ = decide (p_a = h) from rfl)
      clear hp
      obtain ⟨D, hD⟩ : ∃ D, decide (p_a = h) = D := ⟨_, rfl⟩
      rw [hD] at HE HI; clear hD
      cases D with
      | true =>
        have HQ := Lib.hid (HP.out.hit HPF.out HI.out)
        go_wp2_with (go_at_call 55; refine HE.out.mono ?_; rintro e w1 ⟨rfl, hg1⟩)
        have HG1 := Lib.hid (HS.out.trans hg1); clear hg1
        go_ret
        exact ⟨ret_ix (by rw [← HR.out]; unfold fdF; rw [HQ.out, ixV_hit (by omega)]), HG1.out⟩
      | false =>
        have HQ := Lib.hid (HP.out.step HPF.out HI.out)
        go_wp2_with (go_at_call 55; refine HE.out.mono ?_; rintro e w1 ⟨rfl, hg1⟩)
        have HG1 := Lib.hid (HS.out.trans hg1); clear hg1
        go_roundw
        case rel => exact ⟨k + 1, by omega, by go_num, HQ.out, HG1.out⟩
        case measure => simp [intOf]; omega
    · have hkn : k = n := by omega
      subst hkn
      have HE := Lib.hid (show fdF xs h = k from by have h1 := HP.out; have h2 := HN.out; subst h2; exact h1.full)
      go_wp2
      go_ret
      exact ⟨ret_ix (by rw [← HR.out, HE.out, ixV_no]), HS.out⟩

set_option maxRecDepth 100000 in
set_option maxHeartbeats 4000000 in
theorem findS_impl (v : Value) (xs : List Se) (h : ByteArray) (w : World) (hv : ReadV w.heap.size w v xs) (hl : xs.length ≤ 1099511627776) :
    Calls Tryd.prog 39 #[v, .string h] w fun e w' => e = .returned (.int .i64 (ixV (fdS (xs.map Prod.fst) h) xs.length)) ∧ Grw w w' := by
  have hmf : ∀ (fn : Fn) (first cap : Array Value) (w : World), (Instr.makeFunc fn first cap).run Tryd.prog w = .ok (.func fn first cap) w := fun _ _ _ _ => rfl
  obtain ⟨W, hW⟩ : ∃ W, w.alloc (.cells #[.string h] 9) = W := ⟨_, rfl⟩
  have HG := Lib.hid (show Grw w W by rw [← hW]; exact (Grw.refl w).alloc _)
  have HX := Lib.hid (index_host v xs h w.heap.size W (hv.up HG.out.below) (by rw [← hW]; simp) hl)
  obtain ⟨a, cap, rfl, _⟩ := hv.form
  obtain ⟨R, hR⟩ : ∃ R, ixV (fdS (xs.map Prod.fst) h) xs.length = R := ⟨_, rfl⟩
  rw [hR] at HX ⊢
  have HW := Lib.hid hW; clear hW hv hR
  go_enter Tryd.func39, Tryd.ntmps39
  go_wp2_with fail
  rw [HW.out]
  refine HX.out.mono ?_
  rintro e w1 ⟨rfl, hg1⟩
  go_wp2
  go_ret
  exact ⟨rfl, HG.out.trans hg1⟩

set_option maxRecDepth 100000 in
set_option maxHeartbeats 4000000 in
theorem findF_impl (v : Value) (xs : List Fl) (h : ByteArray) (w : World) (hv : ReadsK encF 7 w.heap.size w v xs) (hl : xs.length ≤ 1099511627776) :
    Calls Tryd.prog 46 #[v, .string h] w fun e w' => e = .returned (.int .i64 (ixV (fdF xs h) xs.length)) ∧ Grw w w' := by
  have hmf : ∀ (fn : Fn) (first cap : Array Value) (w : World), (Instr.makeFunc fn first cap).run Tryd.prog w = .ok (.func fn first cap) w := fun _ _ _ _ => rfl
  obtain ⟨W, hW⟩ : ∃ W, w.alloc (.cells #[.string h] 9) = W := ⟨_, rfl⟩
  have HG := Lib.hid (show Grw w W by rw [← hW]; exact (Grw.refl w).alloc _)
  have HX := Lib.hid (index_path v xs h w.heap.size W ((hv.below HG.out.below (Nat.le_refl _)).mono HG.out.below.size) (by rw [← hW]; simp) hl)
  obtain ⟨a, cap, rfl, _⟩ := hv.formF
  obtain ⟨R, hR⟩ : ∃ R, ixV (fdF xs h) xs.length = R := ⟨_, rfl⟩
  rw [hR] at HX ⊢
  have HW := Lib.hid hW; clear hW hv hR
  go_enter Tryd.func46, Tryd.ntmps46
  go_wp2_with fail
  rw [HW.out]
  refine HX.out.mono ?_
  rintro e w1 ⟨rfl, hg1⟩
  go_wp2
  go_ret
  exact ⟨rfl, HG.out.trans hg1⟩

set_option maxRecDepth 100000 in
set_option maxHeartbeats 4000000 in
theorem findS_spec (v : Value) (xs : List Se) (h : ByteArray) (w : World) (hv : ReadV w.heap.size w v xs) (hl : xs.length ≤ 1099511627776) :
    Calls Tryd.prog 32 #[v, .string h] w fun e w' => e = .returned (.int .i64 (ixV (fdS (xs.map Prod.fst) h) xs.length)) ∧ Grw w w' := by
  obtain ⟨a, cap, rfl, hc1, hc2⟩ := hv.form
  obtain ⟨n, hn⟩ : ∃ n, xs.length = n := ⟨_, rfl⟩
  obtain ⟨R, hR⟩ : ∃ R, ixV (fdS (xs.map Prod.fst) h) n = R := ⟨_, rfl⟩
  rw [hn] at hv hc1 hl ⊢; rw [hR]
  have HV := Lib.hid hv; have HN := Lib.hid hn; have HR := Lib.hid hR
  clear hv hn hR
  go_enter Tryd.func32, Tryd.ntmps32
  go_wp2
  go_loopw [5] (fun i wr => ∃ (k : Nat), k ≤ n ∧ i = .int .i64 k ∧ NoneTo (isHost h) (xs.map Prod.fst) k ∧ Grw w wr)
    (fun i _ => n - (intOf i).toNat)
  case atStart => exact ⟨0, Nat.zero_le _, rfl, NoneTo.zero _ _, Grw.refl _⟩
  case round =>
    obtain ⟨k, hk, rfl, hp, hs⟩ := hrel
    have HS := Lib.hid hs; have HP := Lib.hid hp
    clear hs hp
    by_cases hlt : (k : Int) < (n : Int)
    · obtain ⟨p, hp⟩ := se_at (ss := xs) (j := k) (by rw [HN.out]; omega)
      obtain ⟨g, off, rfl, hg, c0, c1⟩ := HV.out.at hp
      have HPF := Lib.hid (fd_mapS xs k p hp)
      obtain ⟨⟨p_a, fs⟩, ⟨sa, sn, sc⟩⟩ := p
      replace c0 : wr.cell? ⟨g, off + k * 2, none⟩ = some (.string p_a) := by rw [HS.out.below.cell (show g < _ by omega)]; exact c0
      clear c1
      have HI := Lib.hid (show isHost h (p_a, fs) = decide (p_a = h) from rfl)
      clear hp
      by_cases hh : p_a = h
      · have e1 : (p_a.toList == h.toList) = true := beqL_yes hh
        have HQ := Lib.hid (HP.out.hit HPF.out (HI.out.trans (decide_eq_true hh)))
        clear hh
        go_wp2
        go_ret
        exact ⟨ret_ix (by rw [← HR.out]; unfold fdS; rw [HQ.out, ixV_hit (by omega)]), HS.out⟩
      · have e1 : (p_a.toList == h.toList) = false := beqL_no hh
        have HQ := Lib.hid (HP.out.step HPF.out (HI.out.trans (decide_eq_false hh)))
        clear hh
        go_wp2
        go_roundw
        case rel => exact ⟨k + 1, by omega, by go_num, HQ.out, HS.out⟩
        case measure => simp [intOf]; omega
    · have hkn : k = n := by omega
      subst hkn
      have HE := Lib.hid (show fdS (xs.map Prod.fst) h = k from by have h1 := HP.out; have h2 := HN.out; rw [← List.length_map (f := Prod.fst)] at h2; subst h2; exact h1.full)
      go_wp2
      go_ret
      exact ⟨ret_ix (by rw [← HR.out, HE.out, ixV_no]), HS.out⟩

set_option maxRecDepth 100000 in
set_option maxHeartbeats 4000000 in
theorem findF_spec (h_n : ByteArray) (v : Value) (xs : List Fl) (h : ByteArray) (w : World) (hv : ReadsK encF 7 w.heap.size w v xs) (hl : xs.length ≤ 1099511627776) :
    Calls Tryd.prog 33 #[.agg #[.string h_n, v], .string h] w fun e w' => e = .returned (.int .i64 (ixV (fdF xs h) xs.length)) ∧ Grw w w' := by
  obtain ⟨a, cap, rfl, hc1, hc2⟩ := hv.formF
  obtain ⟨n, hn⟩ : ∃ n, xs.length = n := ⟨_, rfl⟩
  obtain ⟨R, hR⟩ : ∃ R, ixV (fdF xs h) n = R := ⟨_, rfl⟩
  rw [hn] at hv hc1 hl ⊢; rw [hR]
  obtain ⟨W, hW⟩ : ∃ W, w.alloc (.cells #[.string h_n, .slice a n cap] 29) = W := ⟨_, rfl⟩
  have hg0 : Grw w W := by rw [← hW]; exact (Grw.refl w).alloc _
  have hb1 : W.cell? ⟨w.heap.size, 1, none⟩ = some (.slice a n cap) := by rw [← hW]; simp
  have HG0 := Lib.hid hg0; have HW := Lib.hid hW; have HB1 := Lib.hid hb1; have HBS := Lib.hid (World.block_lt_of_cell? _ _ hb1); clear hg0 hW hb1
  have HV := Lib.hid hv; have HN := Lib.hid hn; have HR := Lib.hid hR
  clear hv hn hR
  go_enter Tryd.func33, Tryd.ntmps33
  go_wp2_with fail
  rw [HW.out]
  go_loopw [5] (fun i wr => ∃ (k : Nat), k ≤ n ∧ i = .int .i64 k ∧ NoneTo (isPath h) xs k ∧ Grw W wr)
    (fun i _ => n - (intOf i).toNat)
  case atStart => exact ⟨0, Nat.zero_le _, rfl, NoneTo.zero _ _, Grw.refl _⟩
  case round =>
    obtain ⟨k, hk, rfl, hp, hs⟩ := hrel
    have HS := Lib.hid (HG0.out.trans hs); have HP := Lib.hid hp
    have c8 : wr.cell? ⟨w.heap.size, 1, none⟩ = some (.slice a n cap) := by rw [hs.below.cell HBS.out]; exact HB1.out
    have HS0 := Lib.hid hs
    clear hs hp
    by_cases hlt : (k : Int) < (n : Int)
    · obtain ⟨p_a, f_s, f_k, f_b, f_a, f_h, f_o, hp⟩ := fl_at (xs := xs) (j := k) (by rw [HN.out]; omega)
      obtain ⟨g, off, rfl, hg, c0, _⟩ := HV.out.file hp
      have HPF := Lib.hid hp
      replace c0 : wr.cell? ⟨g, off + k * 7, none⟩ = some (.string p_a) := by rw [HS.out.below.cell (show g < _ by omega)]; exact c0
      have HI := Lib.hid (show isPath h ⟨p_a, ⟨f_s, f_k, f_b, f_a, f_h, f_o⟩⟩ = decide (p_a = h) from rfl)
      clear hp
      by_cases hh : p_a = h
      · have e1 : (p_a.toList == h.toList) = true := beqL_yes hh
        have HQ := Lib.hid (HP.out.hit HPF.out (HI.out.trans (decide_eq_true hh)))
        clear hh
        go_wp2
        go_ret
        exact ⟨ret_ix (by rw [← HR.out]; unfold fdF; rw [HQ.out, ixV_hit (by omega)]), HS.out⟩
      · have e1 : (p_a.toList == h.toList) = false := beqL_no hh
        have HQ := Lib.hid (HP.out.step HPF.out (HI.out.trans (decide_eq_false hh)))
        clear hh
        go_wp2
        go_roundw
        case rel => exact ⟨k + 1, by omega, by go_num, HQ.out, HS0.out⟩
        case measure => simp [intOf]; omega
    · have hkn : k = n := by omega
      subst hkn
      have HE := Lib.hid (show fdF xs h = k from by have h1 := HP.out; have h2 := HN.out; subst h2; exact h1.full)
      go_wp2
      go_ret
      exact ⟨ret_ix (by rw [← HR.out, HE.out, ixV_no]), HS.out⟩

end Go.Proofs.YtpkicliimhflgaaDoor
namespace Go.Proofs.YtpkicliimhflgaaDoor
open Go.ChangeShapes Go.WideShapes Go.ChangeAt Go.RowKit

theorem MineK.cellG {B n c g j : Nat} {w0 w : World} {xs : List Se} {q : Se} (h : MineK encG 2 29 B w0 w (.slice (some ⟨g, 0, none⟩) n c) xs) (hn : xs.length = n) (hq : xs[j]? = some q) : w.cell? ⟨g, j * 2 + 1, none⟩ = some (sv q.2) ∧ w.frozen? ⟨g, j * 2 + 1, none⟩ = false ∧ w.cell? ⟨g, j * 2, none⟩ = some (.string q.1.1) := by
  have hr := h.row; rw [hn] at hr
  have hj := (List.getElem?_eq_some_iff.1 hq).1
  refine ⟨by rw [hr.cellAt (j * 2 + 1) (by omega), flat_at encG_len hq (by decide)]; rfl, hr.frozenAt _, ?_⟩
  have := flat_at encG_len hq (show 0 < 2 by decide)
  rw [hr.cellAt (j * 2) (by omega)]
  rw [Nat.add_zero] at this
  rw [this]; rfl
theorem OwnK.cellsF {B hi n c g j : Nat} {w : World} {fs : List Fl} {f : Fl} (h : OwnK encF 7 57 B hi w (.slice (some ⟨g, 0, none⟩) n c) fs) (hn : fs.length = n) (hf : fs[j]? = some f) (t : Nat) (ht : t < 7) : w.cell? ⟨g, j * 7 + t, none⟩ = (encF f)[t]? ∧ w.frozen? ⟨g, j * 7 + t, none⟩ = false := by
  have hr := h.1; rw [hn] at hr
  have hj := (List.getElem?_eq_some_iff.1 hf).1
  exact ⟨by rw [hr.cellAt (j * 7 + t) (by omega), flat_at encF_len hf ht], hr.frozenAt _⟩
theorem map_setS {ts : List Se} {j : Nat} {x : Se} : (ts.set j x).map Prod.fst = (ts.map Prod.fst).set j x.1 := by rw [List.map_set]
/-- What putFile answers. -/
def PutOut (B : Nat) (w0 : World) (L : List Sp) (hh pp : ByteArray) (r : Rv) (e : Ending) (w' : World) : Prop :=
  ∃ a n c ts, e = .returned (.tuple #[.slice a n c, .int .i64 (fdS L hh)]) ∧ ts.map Prod.fst = putS L hh pp r ∧ MineV B w0 w' (.slice a n c) ts
theorem putS_at {L : List Sp} {h p : ByteArray} {r : Rv} {j : Nat} {M : List Sp} {s : Sp} (hj : fdS L h = j) (hM : hostS L h = M) (hs : M[j]? = some s) : putS L h p r = M.set j (s.1, putF s.2 p r) := by
  unfold putS; rw [hM, hj, hs]
theorem putF_hit {fs : List Fl} {p : ByteArray} {r : Rv} {f : Nat} (h : fdF fs p = f) (hl : f < fs.length) : putF fs p r = fs.set f ⟨p, r⟩ := by
  unfold putF; rw [h, if_pos hl]
theorem putF_new {fs : List Fl} {p : ByteArray} {r : Rv} (h : fdF fs p = fs.length) : putF fs p r = fs ++ [⟨p, r⟩] := by
  unfold putF; rw [h, if_neg (Nat.lt_irrefl _)]
theorem hostS_old {L : List Sp} {h : ByteArray} (hl : fdS L h < L.length) : hostS L h = L := by unfold hostS; rw [if_pos hl]
theorem hostS_new {L : List Sp} {h : ByteArray} (hl : fdS L h = L.length) : hostS L h = L ++ [(h, [])] := by unfold hostS; rw [hl, if_neg (Nat.lt_irrefl _)]

theorem put_dr {B : Nat} {w0 w : World} {v : Value} {ts : List Se} (h : MineV B w0 w v ts) : MineV B w0 w.drew v ts := h.later (bl_dw (Below.refl _ _))
set_option maxRecDepth 100000 in
set_option maxHeartbeats 8000000 in
theorem putFile_impl {B : Nat} {w0 w : World} (a : Option Addr) (n c : Nat) (ts : List Se) (hh pp : ByteArray) (r_s r_k : Int) (r_b : ByteArray) (r_a : Int) (r_h : Bool) (r_o : ByteArray) (hm : MineV B w0 w (.slice a n c) ts) (hl : ts.length ≤ 1099511627) (hf : ∀ p ∈ ts, p.1.2.length ≤ 1099511627) :
    Calls Tryd.prog 34 #[.slice a n c, .agg #[.string hh, .string pp], .agg #[.int .i64 r_s, .int .i64 r_k, .string r_b, .int .i64 r_a, .bool r_h, .string r_o]] w (PutOut B w0 (ts.map Prod.fst) hh pp ⟨r_s, r_k, r_b, r_a, r_h, r_o⟩) := by
  have mixed : Tryd.prog.follows .mixedOrders = true := by kernel_rfl
  obtain ⟨W0, hW0⟩ : ∃ W, (w.alloc (.cells #[.string hh, .string pp] 45)).alloc (.cells #[.int .i64 r_s, .int .i64 r_k, .string r_b, .int .i64 r_a, .bool r_h, .string r_o] 47) = W := ⟨_, rfl⟩
  have hb0 : Below w.heap.size w W0 := by rw [← hW0]; exact bl_aw (bl_aw (Below.refl _ _) _) _
  have XA0 := Lib.hid (show W0.heap[w.heap.size]? = some (.cells #[.string hh, .string pp] 45 (0, 0)) by rw [← hW0]; exact box2_0 _ _ _)
  have XR0 := Lib.hid (show W0.heap[w.heap.size + 1]? = some (.cells #[.int .i64 r_s, .int .i64 r_k, .string r_b, .int .i64 r_a, .bool r_h, .string r_o] 47 (0, 0)) by rw [← hW0]; exact box2_1 _ _ _)
  have hnn : n = ts.length := by obtain ⟨_, _, e⟩ := hm.form; injection e
  have HM0 := Lib.hid (hm.later hb0); have HW0 := Lib.hid hW0; have HN0 := Lib.hid hnn.symm; have HFL0 := Lib.hid hf
  have hn9 : n ≤ 1099511627 := by omega
  obtain ⟨L, hL⟩ : ∃ L, ts.map Prod.fst = L := ⟨_, rfl⟩
  have HLL := Lib.hid (show L.length = n by rw [← hL, List.length_map]; exact hnn.symm)
  have HFS := Lib.hid (findS_impl (.slice a n c) ts hh W0 ((hm.later hb0).reads (Nat.le_refl _)) (by omega))
  rw [hL] at HFS ⊢
  have HL := Lib.hid hL
  clear hW0 hnn hm hf hb0 hL
  rcases findIdx_or (isHost hh) L with ⟨he, _⟩ | ⟨s, hlt, hs, _, _⟩
  · have hj : fdS L hh = n := by unfold fdS; rw [he]; exact HLL.out
    have HJ' := Lib.hid hj
    have HHO' := Lib.hid (show hostS L hh = L ++ [(hh, [])] from hostS_new (by rw [hj, HLL.out]))
    have hix : ixV (fdS L hh) ts.length = -1 := by rw [hj, HN0.out, ixV_no]
    rw [hix] at HFS; clear hix hj he
    have y0 := box_cell XA0.out (j := 0) rfl
    go_enter Tryd.func34, Tryd.ntmps34
    go_wp2_with fail
    rw [HW0.out]
    refine HFS.out.mono ?_
    rintro e w1 ⟨rfl, hg⟩
    have hb1 := hg.below
    have HMa := Lib.hid (HM0.out.later hb1); have XAa := Lib.hid (below_heap hb1 (heap_lt XA0.out) XA0.out); have XRa := Lib.hid (below_heap hb1 (heap_lt XR0.out) XR0.out)
    clear hg hb1 y0 HFS
    have y0 := box_cell XAa.out (j := 0) rfl
    have hal : Below w1.heap.size w1 (w1.alloc (.cells #[.string hh, .slice none 0 0] 29)) := bl_aw (Below.refl _ _) _
    have HAL := Lib.hid hal
    have HMb := Lib.hid (HMa.out.later hal)
    have HRG := Lib.hid (show ReadsK encG 2 (w1.heap.size + 1) (w1.alloc (.cells #[.string hh, .slice none 0 0] 29)) (.slice (some ⟨w1.heap.size, 0, none⟩) 1 1) [(((hh, []), svNil) : Se)] from readsG_at (T := 29) (nm := hh) (u := .slice none 0 0) _ (hq_nw rfl) rfl rfl)
    clear hal
    go_wp2_with (at_builtin; refine wpList_appV rfl _ _ rfl B w0 _ ts rfl HMb.out _ _ [(((hh, []), svNil) : Se)] rfl HRG.out ?ci ?nd ?cl ?_)
    case ci => intro p hp; rw [List.mem_singleton] at hp; subst hp; exact own_nilF B _
    case nd => rw [show insV [(((hh, []), svNil) : Se)] = [] from rfl, List.append_nil]; exact HMb.out.nod
    case cl => rw [HN0.out]; simp; omega
    intro v5 w4 hm5 hg5
    obtain ⟨a5, c5, hv5⟩ := hm5.form
    have hl5 : (ts ++ [(((hh, []), svNil) : Se)]).length = n + 1 := by rw [List.length_append, HN0.out]; rfl
    obtain ⟨n1, hn1⟩ : ∃ m, n + 1 = m := ⟨_, rfl⟩
    rw [hn1] at hl5
    rw [hl5] at hv5; subst hv5
    have hn19 : n1 ≤ 1099511628 := by omega
    have hnn1 : n < n1 := by omega
    have HN19 := Lib.hid hn1; clear hn1
    have hk5 := keep_of HMb.out.row.row hg5
    have XA := Lib.hid (hk5 _ _ _ (by decide) (below_heap HAL.out (heap_lt XAa.out) XAa.out)); have XR := Lib.hid (hk5 _ _ _ (by decide) (below_heap HAL.out (heap_lt XRa.out) XRa.out))
    have HM1 := Lib.hid hm5; have HN1 := Lib.hid hl5
    have HFL := Lib.hid (show ∀ p ∈ ts ++ [(((hh, []), svNil) : Se)], p.1.2.length ≤ 1099511627 from fun p hp => by
      rcases List.mem_append.1 hp with h | h
      · exact HFL0.out p h
      · rw [List.mem_singleton] at h; subst h; exact Nat.zero_le _)
    obtain ⟨q, hq⟩ : ∃ q : Se, q = ((hh, []), svNil) := ⟨_, rfl⟩
    obtain ⟨j, hjn⟩ : ∃ j, n = j := ⟨_, rfl⟩
    have HQ := Lib.hid (show (ts ++ [(((hh, []), svNil) : Se)])[j]? = some q by rw [hq, List.getElem?_append_right (by rw [HN0.out]; omega), HN0.out, hjn, Nat.sub_self]; rfl)
    have HJ := Lib.hid (show fdS L hh = j by rw [← hjn]; exact HJ'.out)
    have HHO := Lib.hid (show hostS L hh = (ts ++ [(((hh, []), svNil) : Se)]).map Prod.fst by rw [HHO'.out, List.map_append, HL.out]; rfl)
    obtain ⟨ts1, hts1⟩ : ∃ t, ts ++ [(((hh, []), svNil) : Se)] = t := ⟨_, rfl⟩
    rw [hts1] at HM1 HN1 HFL HQ HHO
    subst hjn
    clear hm5 hg5 hl5 hk5 y0 hq hts1 HMa HMb XAa XRa HAL HRG
    have hmr := HM1.out.reads (Nat.le_refl _)
    have hjl := (List.getElem?_eq_some_iff.1 HQ.out).1; rw [HN1.out] at hjl
    obtain ⟨⟨p_a, fs⟩, ⟨sa, sn, sc⟩⟩ := q
    have HIN := Lib.hid (show OwnK encF 7 57 B w4.heap.size w4 (.slice sa sn sc) fs from HM1.out.inn _ (List.mem_of_getElem? HQ.out))
    have HFR := Lib.hid (show ReadsK encF 7 w4.heap.size w4 (.slice sa sn sc) fs from hmr.2 _ (List.mem_of_getElem? HQ.out))
    have hfl := HFL.out _ (List.mem_of_getElem? HQ.out); replace hfl : fs.length ≤ 1099511627 := hfl
    have HSN := Lib.hid (show sn = fs.length by obtain ⟨_, _, e, _⟩ := HFR.out; injection e)
    obtain ⟨g1, rfl⟩ : ∃ g, a5 = some ⟨g, 0, none⟩ := by
      rcases HM1.out.row.row.2 with ⟨e, h0⟩ | ⟨g', cap', cur, e, _⟩
      · have h1 := HN1.out; omega
      · injection e with e1; exact ⟨_, e1⟩
    have hcg := HM1.out.row.cellG HN1.out HQ.out
    have hg1 : g1 < w4.heap.size := (HM1.out.row.row.lt g1 rfl).2
    have HCG := Lib.hid hcg
    have c1' : w4.cell? ⟨g1, n * 2 + 1, none⟩ = some (.slice sa sn sc) := hcg.1
    have c0' : w4.cell? ⟨g1, n * 2, none⟩ = some (.string p_a) := hcg.2.2
    have y1 := box_cell XA.out (j := 1) rfl
    have HA2 := Lib.hid (fun (m : Nat) (os : Array Obj) => show Calls Tryd.prog 46 #[.slice sa sn sc, .string pp] (Sort.grow (w4.drewN m) os) fun e w' => e = .returned (.int .i64 (ixV (fdF fs pp) fs.length)) ∧ Grw (Sort.grow (w4.drewN m) os) w' from findF_impl (.slice sa sn sc) fs pp _ ((HFR.out.below (Grw.below ⟨m, os, rfl⟩) (Nat.le_refl _)).mono (Grw.below ⟨m, os, rfl⟩).size) (by omega))
    have gc1 := cell_grown hg1 c1'; have gc0 := cell_grown hg1 c0'
    have gq1 := cell_grown (heap_lt XA.out) y1
    have hnj : ¬ ((n : Int) < 0) := by omega
    clear c1' c0' y1 hcg hmr
    go_wp2_with fail
    refine wp_region_quiet_grown mixed (by kernel_rfl) ?_
    repeat (go_big_quiet_step (first | (go_at_call 46; refine Calls.grown_of (HA2.out _ _))))
    refine wpQuiet_nil ?_; intro _ hw'; obtain ⟨⟨nq, osq⟩, hw''⟩ := hw'; subst hw''
    have hg2 : Grw w4 (Sort.grow (w4.drewN nq) osq) := ⟨nq, osq, rfl⟩
    obtain ⟨w5, hw5⟩ : ∃ x, Sort.grow (w4.drewN nq) osq = x := ⟨_, rfl⟩
    rw [hw5] at hg2 ⊢; clear hw5 gc1 gc0 gq1
    have hb5 := hg2.below
    have HM5 := Lib.hid (HM1.out.later hb5)
    have XA5 := Lib.hid (below_heap hb5 (heap_lt XA.out) XA.out); have XR5 := Lib.hid (below_heap hb5 (heap_lt XR.out) XR.out)
    have HIN5 := Lib.hid (show OwnK encF 7 57 B w5.heap.size w5 (.slice sa sn sc) fs from HM5.out.inn _ (List.mem_of_getElem? HQ.out))
    have hcg5 := HM5.out.row.cellG HN1.out HQ.out
    have d1 : w5.cell? ⟨g1, n * 2 + 1, none⟩ = some (.slice sa sn sc) := hcg5.1
    have HZ5 := Lib.hid hcg5.2.1
    have hg5 : g1 < w5.heap.size := Nat.lt_of_lt_of_le hg1 hb5.size
    clear hg2 hb5 hcg5 HA2
    have HPS := Lib.hid (show putS L hh pp ⟨r_s, r_k, r_b, r_a, r_h, r_o⟩ = (ts1.map Prod.fst).set n (p_a, putF fs pp ⟨r_s, r_k, r_b, r_a, r_h, r_o⟩) from putS_at HJ.out HHO.out (fd_mapS _ _ _ HQ.out))
    rcases findIdx_or (isPath pp) fs with ⟨he, _⟩ | ⟨fx, hlt2, hs, hp2, _⟩
    · have hix : ixV (fdF fs pp) fs.length = -1 := by unfold fdF; rw [he, ixV_no]
      rw [hix]
      have HE := Lib.hid (putF_new (r := ⟨r_s, r_k, r_b, r_a, r_h, r_o⟩) he); clear he hix
      have y1 := box_cell XA5.out (j := 1) rfl
      have x0 := box_cell XR5.out (j := 0) rfl
      have x1 := box_cell XR5.out (j := 1) rfl
      have x2 := box_cell XR5.out (j := 2) rfl
      have x3 := box_cell XR5.out (j := 3) rfl
      have x4 := box_cell XR5.out (j := 4) rfl
      have x5 := box_cell XR5.out (j := 5) rfl
      have z1 := HZ5.out
      have ha5 := heap_lt XA5.out; have hr5 := heap_lt XR5.out
      have HK1 := Lib.hid (show fs.length + 1 = sn + 1 by rw [HSN.out])
      have HFN := Lib.hid (show sn + 1 ≤ 68719476736 by rw [HSN.out]; omega)
      go_upto_region 8 with (fail)
      go_region_law ((refine step_appF1 (by rfl) _ _ (by rfl) B (.slice sa sn sc) fs (by rfl) (OwnK.later HIN5.out (by repeat' (first | (with_reducible exact Below.refl _ _) | (with_reducible refine bl_dw ?_) | (with_reducible refine bl_aw ?_ _)))).1 (Nat.le_trans HM5.out.row.size (Below.size (show Below w5.heap.size w5 _ from (by repeat' (first | (with_reducible exact Below.refl _ _) | (with_reducible refine bl_dw ?_) | (with_reducible refine bl_aw ?_ _)))))) ⟨pp, ⟨r_s, r_k, r_b, r_a, r_h, r_o⟩⟩ _ (by rfl) (readsF_at (T := 57) ⟨pp, ⟨r_s, r_k, r_b, r_a, r_h, r_o⟩⟩ (by repeat' (first | (with_reducible refine hq_dr ?_) | ((with_reducible refine hq_nw ?_); (first | (with_reducible rfl) | (simp only [size_alloc]; done))) | (with_reducible refine heap_alV ?_ _)))) (sn + 1) HK1.out HFN.out ?_); intro xa xc wF hoF hgF hfF; have hkF := MineV.rowKept (MineV.later HM5.out (by repeat' (first | (with_reducible exact Below.refl _ _) | (with_reducible refine bl_dw ?_) | (with_reducible refine bl_aw ?_ _)))) HQ.out hgF; have hZ := MineV.innerMoved (MineV.later HM5.out (by repeat' (first | (with_reducible exact Below.refl _ _) | (with_reducible refine bl_dw ?_) | (with_reducible refine bl_aw ?_ _)))) HN1.out HQ.out hgF (xa, sn + 1, xc) (fs ++ [(⟨pp, ⟨r_s, r_k, r_b, r_a, r_h, r_o⟩⟩ : Fl)]) hoF hfF; obtain ⟨dF, zF, -⟩ := hkF.cellG HN1.out HQ.out; replace dF : wF.cell? ⟨g1, n * 2 + 1, none⟩ = some (.slice sa sn sc) := dF)
      all_goals
        have HZ := Lib.hid hZ; clear hZ hoF hgF hfF hkF
        go_wp2_with fail
        refine bodyPost_ret (v := .tuple #[.slice (some ⟨g1, 0, none⟩) n1 c5, .int .i64 n]) (by simp [results, Tryd.results34, go_sem]) rfl ⟨_, _, _, _, by rw [HJ.out], ?_, HZ.out⟩
        rw [HPS.out, HE.out]; exact map_setS
    · obtain ⟨f, hf⟩ : ∃ f, fs.findIdx (isPath pp) = f := ⟨_, rfl⟩
      rw [hf] at hlt2 hs
      have hix : ixV (fdF fs pp) fs.length = f := by unfold fdF; rw [hf, ixV_hit hlt2]
      rw [hix]
      have HE := Lib.hid (putF_hit (r := ⟨r_s, r_k, r_b, r_a, r_h, r_o⟩) (show fdF fs pp = f from hf) hlt2); clear hf hix
      have hfs : f < sn := by rw [HSN.out]; exact hlt2
      obtain ⟨g2, rfl⟩ : ∃ g, sa = some ⟨g, 0, none⟩ := by
        rcases HIN5.out.1.2 with ⟨e, h0⟩ | ⟨g', cap', cur, e, _⟩
        · omega
        · cases e; exact ⟨_, rfl⟩
      have hg2l : g2 < w5.heap.size := HIN5.out.2 g2 rfl
      have HOK := HIN5.out
      have hfx : fx.pa = pp := of_decide_eq_true hp2
      have v0 : w5.cell? ⟨g2, f * 7 + 1, none⟩ = some (.int .i64 fx.rv.st) := (HOK.cellsF HSN.out.symm hs 1 (by decide)).1; have u0 := (HOK.cellsF HSN.out.symm hs 1 (by decide)).2
      have v1 : w5.cell? ⟨g2, f * 7 + 2, none⟩ = some (.int .i64 fx.rv.kd) := (HOK.cellsF HSN.out.symm hs 2 (by decide)).1; have u1 := (HOK.cellsF HSN.out.symm hs 2 (by decide)).2
      have v2 : w5.cell? ⟨g2, f * 7 + 3, none⟩ = some (.string fx.rv.bo) := (HOK.cellsF HSN.out.symm hs 3 (by decide)).1; have u2 := (HOK.cellsF HSN.out.symm hs 3 (by decide)).2
      have v3 : w5.cell? ⟨g2, f * 7 + 4, none⟩ = some (.int .i64 fx.rv.ag) := (HOK.cellsF HSN.out.symm hs 4 (by decide)).1; have u3 := (HOK.cellsF HSN.out.symm hs 4 (by decide)).2
      have v4 : w5.cell? ⟨g2, f * 7 + 5, none⟩ = some (.bool fx.rv.sh) := (HOK.cellsF HSN.out.symm hs 5 (by decide)).1; have u4 := (HOK.cellsF HSN.out.symm hs 5 (by decide)).2
      have v5 : w5.cell? ⟨g2, f * 7 + 6, none⟩ = some (.string fx.rv.po) := (HOK.cellsF HSN.out.symm hs 6 (by decide)).1; have u5 := (HOK.cellsF HSN.out.symm hs 6 (by decide)).2
      have x0 := box_cell XR5.out (j := 0) rfl
      have x1 := box_cell XR5.out (j := 1) rfl
      have x2 := box_cell XR5.out (j := 2) rfl
      have x3 := box_cell XR5.out (j := 3) rfl
      have x4 := box_cell XR5.out (j := 4) rfl
      have x5 := box_cell XR5.out (j := 5) rfl
      have ha5 := heap_lt XA5.out; have hr5 := heap_lt XR5.out
      have hrow := HOK.1; rw [HSN.out.symm] at hrow
      have hset := set6F_own hrow hs ⟨r_s, r_k, r_b, r_a, r_h, r_o⟩
      rw [hfx] at hset
      have HZ := Lib.hid (HM5.out.innerSame (q := ((p_a, fs), (some ⟨g2, 0, none⟩, sn, sc))) HQ.out hset.2 (fs.set f ⟨pp, ⟨r_s, r_k, r_b, r_a, r_h, r_o⟩⟩) (by rw [List.length_set, HSN.out.symm]; exact hset.1))
      have HS := Lib.hid hs; clear hset hrow HOK hs hp2 hfx
      have hnf : ¬ ((f : Int) < 0) := by omega
      have hnd : decide ((0 : Int) ≤ (f : Int)) = true := decide_eq_true (by omega)
      go_upto_region 7 with (fail)
      go_region
      all_goals
        go_wp2_with fail
        refine bodyPost_ret (v := .tuple #[.slice (some ⟨g1, 0, none⟩) n1 c5, .int .i64 n]) (by simp [results, Tryd.results34, go_sem]) rfl ⟨_, _, _, _, by rw [HJ.out], ?_, put_dr HZ.out⟩
        rw [HPS.out, HE.out]; exact map_setS
  · obtain ⟨j, hj⟩ : ∃ j, L.findIdx (isHost hh) = j := ⟨_, rfl⟩
    rw [hj] at hlt hs
    rw [HLL.out] at hlt
    have HJ := Lib.hid (show fdS L hh = j from hj)
    have HHO := Lib.hid (show hostS L hh = ts.map Prod.fst by rw [HL.out]; exact hostS_old (by rw [HJ.out, HLL.out]; exact hlt))
    have hix : ixV (fdS L hh) ts.length = j := by rw [HJ.out, HN0.out, ixV_hit hlt]
    rw [hix] at HFS; clear hix hj
    obtain ⟨q, hq, hqs⟩ : ∃ q, ts[j]? = some q ∧ q.1 = s := by
      rw [← HL.out, List.getElem?_map] at hs
      cases hx : ts[j]? with
      | none => rw [hx] at hs; cases hs
      | some q => rw [hx] at hs; exact ⟨q, rfl, Option.some.inj hs⟩
    have HQ := Lib.hid hq; clear hq hs hqs
    have y0 := box_cell XA0.out (j := 0) rfl
    have hnj0 : ¬ ((j : Int) < 0) := by omega
    go_enter Tryd.func34, Tryd.ntmps34
    go_wp2_with fail
    rw [HW0.out]
    refine HFS.out.mono ?_
    rintro e w1 ⟨rfl, hg⟩
    have hb1 := hg.below
    have HM1 := Lib.hid (HM0.out.later hb1); have XA := Lib.hid (below_heap hb1 (heap_lt XA0.out) XA0.out); have XR := Lib.hid (below_heap hb1 (heap_lt XR0.out) XR0.out)
    have HN1 := Lib.hid HN0.out; have HFL := Lib.hid HFL0.out
    clear hg hb1 y0 HFS
    have hmr := HM1.out.reads (Nat.le_refl _)
    have hjl := (List.getElem?_eq_some_iff.1 HQ.out).1; rw [HN1.out] at hjl
    obtain ⟨⟨p_a, fs⟩, ⟨sa, sn, sc⟩⟩ := q
    have HIN := Lib.hid (show OwnK encF 7 57 B w1.heap.size w1 (.slice sa sn sc) fs from HM1.out.inn _ (List.mem_of_getElem? HQ.out))
    have HFR := Lib.hid (show ReadsK encF 7 w1.heap.size w1 (.slice sa sn sc) fs from hmr.2 _ (List.mem_of_getElem? HQ.out))
    have hfl := HFL.out _ (List.mem_of_getElem? HQ.out); replace hfl : fs.length ≤ 1099511627 := hfl
    have HSN := Lib.hid (show sn = fs.length by obtain ⟨_, _, e, _⟩ := HFR.out; injection e)
    obtain ⟨g1, rfl⟩ : ∃ g, a = some ⟨g, 0, none⟩ := by
      rcases HM1.out.row.row.2 with ⟨e, h0⟩ | ⟨g', cap', cur, e, _⟩
      · have h1 := HN1.out; omega
      · injection e with e1; exact ⟨_, e1⟩
    have hcg := HM1.out.row.cellG HN1.out HQ.out
    have hg1 : g1 < w1.heap.size := (HM1.out.row.row.lt g1 rfl).2
    have HCG := Lib.hid hcg
    have c1' : w1.cell? ⟨g1, j * 2 + 1, none⟩ = some (.slice sa sn sc) := hcg.1
    have c0' : w1.cell? ⟨g1, j * 2, none⟩ = some (.string p_a) := hcg.2.2
    have y1 := box_cell XA.out (j := 1) rfl
    have HA2 := Lib.hid (fun (m : Nat) (os : Array Obj) => show Calls Tryd.prog 46 #[.slice sa sn sc, .string pp] (Sort.grow (w1.drewN m) os) fun e w' => e = .returned (.int .i64 (ixV (fdF fs pp) fs.length)) ∧ Grw (Sort.grow (w1.drewN m) os) w' from findF_impl (.slice sa sn sc) fs pp _ ((HFR.out.below (Grw.below ⟨m, os, rfl⟩) (Nat.le_refl _)).mono (Grw.below ⟨m, os, rfl⟩).size) (by omega))
    have gc1 := cell_grown hg1 c1'; have gc0 := cell_grown hg1 c0'
    have gq1 := cell_grown (heap_lt XA.out) y1
    have hnj : ¬ ((j : Int) < 0) := by omega
    clear c1' c0' y1 hcg hmr
    go_wp2_with fail
    refine wp_region_quiet_grown mixed (by kernel_rfl) ?_
    repeat (go_big_quiet_step (first | (go_at_call 46; refine Calls.grown_of (HA2.out _ _))))
    refine wpQuiet_nil ?_; intro _ hw'; obtain ⟨⟨nq, osq⟩, hw''⟩ := hw'; subst hw''
    have hg2 : Grw w1 (Sort.grow (w1.drewN nq) osq) := ⟨nq, osq, rfl⟩
    obtain ⟨w5, hw5⟩ : ∃ x, Sort.grow (w1.drewN nq) osq = x := ⟨_, rfl⟩
    rw [hw5] at hg2 ⊢; clear hw5 gc1 gc0 gq1
    have hb5 := hg2.below
    have HM5 := Lib.hid (HM1.out.later hb5)
    have XA5 := Lib.hid (below_heap hb5 (heap_lt XA.out) XA.out); have XR5 := Lib.hid (below_heap hb5 (heap_lt XR.out) XR.out)
    have HIN5 := Lib.hid (show OwnK encF 7 57 B w5.heap.size w5 (.slice sa sn sc) fs from HM5.out.inn _ (List.mem_of_getElem? HQ.out))
    have hcg5 := HM5.out.row.cellG HN1.out HQ.out
    have d1 : w5.cell? ⟨g1, j * 2 + 1, none⟩ = some (.slice sa sn sc) := hcg5.1
    have HZ5 := Lib.hid hcg5.2.1
    have hg5 : g1 < w5.heap.size := Nat.lt_of_lt_of_le hg1 hb5.size
    clear hg2 hb5 hcg5 HA2
    have HPS := Lib.hid (show putS L hh pp ⟨r_s, r_k, r_b, r_a, r_h, r_o⟩ = (ts.map Prod.fst).set j (p_a, putF fs pp ⟨r_s, r_k, r_b, r_a, r_h, r_o⟩) from putS_at HJ.out HHO.out (fd_mapS _ _ _ HQ.out))
    rcases findIdx_or (isPath pp) fs with ⟨he, _⟩ | ⟨fx, hlt2, hs, hp2, _⟩
    · have hix : ixV (fdF fs pp) fs.length = -1 := by unfold fdF; rw [he, ixV_no]
      rw [hix]
      have HE := Lib.hid (putF_new (r := ⟨r_s, r_k, r_b, r_a, r_h, r_o⟩) he); clear he hix
      have y1 := box_cell XA5.out (j := 1) rfl
      have x0 := box_cell XR5.out (j := 0) rfl
      have x1 := box_cell XR5.out (j := 1) rfl
      have x2 := box_cell XR5.out (j := 2) rfl
      have x3 := box_cell XR5.out (j := 3) rfl
      have x4 := box_cell XR5.out (j := 4) rfl
      have x5 := box_cell XR5.out (j := 5) rfl
      have z1 := HZ5.out
      have ha5 := heap_lt XA5.out; have hr5 := heap_lt XR5.out
      have HK1 := Lib.hid (show fs.length + 1 = sn + 1 by rw [HSN.out])
      have HFN := Lib.hid (show sn + 1 ≤ 68719476736 by rw [HSN.out]; omega)
      go_upto_region 8 with (fail)
      go_region_law ((refine step_appF1 (by rfl) _ _ (by rfl) B (.slice sa sn sc) fs (by rfl) (OwnK.later HIN5.out (by repeat' (first | (with_reducible exact Below.refl _ _) | (with_reducible refine bl_dw ?_) | (with_reducible refine bl_aw ?_ _)))).1 (Nat.le_trans HM5.out.row.size (Below.size (show Below w5.heap.size w5 _ from (by repeat' (first | (with_reducible exact Below.refl _ _) | (with_reducible refine bl_dw ?_) | (with_reducible refine bl_aw ?_ _)))))) ⟨pp, ⟨r_s, r_k, r_b, r_a, r_h, r_o⟩⟩ _ (by rfl) (readsF_at (T := 57) ⟨pp, ⟨r_s, r_k, r_b, r_a, r_h, r_o⟩⟩ (by repeat' (first | (with_reducible refine hq_dr ?_) | ((with_reducible refine hq_nw ?_); (first | (with_reducible rfl) | (simp only [size_alloc]; done))) | (with_reducible refine heap_alV ?_ _)))) (sn + 1) HK1.out HFN.out ?_); intro xa xc wF hoF hgF hfF; have hkF := MineV.rowKept (MineV.later HM5.out (by repeat' (first | (with_reducible exact Below.refl _ _) | (with_reducible refine bl_dw ?_) | (with_reducible refine bl_aw ?_ _)))) HQ.out hgF; have hZ := MineV.innerMoved (MineV.later HM5.out (by repeat' (first | (with_reducible exact Below.refl _ _) | (with_reducible refine bl_dw ?_) | (with_reducible refine bl_aw ?_ _)))) HN1.out HQ.out hgF (xa, sn + 1, xc) (fs ++ [(⟨pp, ⟨r_s, r_k, r_b, r_a, r_h, r_o⟩⟩ : Fl)]) hoF hfF; obtain ⟨dF, zF, -⟩ := hkF.cellG HN1.out HQ.out; replace dF : wF.cell? ⟨g1, j * 2 + 1, none⟩ = some (.slice sa sn sc) := dF)
      all_goals
        have HZ := Lib.hid hZ; clear hZ hoF hgF hfF hkF
        go_wp2_with fail
        refine bodyPost_ret (v := .tuple #[.slice (some ⟨g1, 0, none⟩) n c, .int .i64 j]) (by simp [results, Tryd.results34, go_sem]) rfl ⟨_, _, _, _, by rw [HJ.out], ?_, HZ.out⟩
        rw [HPS.out, HE.out]; exact map_setS
    · obtain ⟨f, hf⟩ : ∃ f, fs.findIdx (isPath pp) = f := ⟨_, rfl⟩
      rw [hf] at hlt2 hs
      have hix : ixV (fdF fs pp) fs.length = f := by unfold fdF; rw [hf, ixV_hit hlt2]
      rw [hix]
      have HE := Lib.hid (putF_hit (r := ⟨r_s, r_k, r_b, r_a, r_h, r_o⟩) (show fdF fs pp = f from hf) hlt2); clear hf hix
      have hfs : f < sn := by rw [HSN.out]; exact hlt2
      obtain ⟨g2, rfl⟩ : ∃ g, sa = some ⟨g, 0, none⟩ := by
        rcases HIN5.out.1.2 with ⟨e, h0⟩ | ⟨g', cap', cur, e, _⟩
        · omega
        · cases e; exact ⟨_, rfl⟩
      have hg2l : g2 < w5.heap.size := HIN5.out.2 g2 rfl
      have HOK := HIN5.out
      have hfx : fx.pa = pp := of_decide_eq_true hp2
      have v0 : w5.cell? ⟨g2, f * 7 + 1, none⟩ = some (.int .i64 fx.rv.st) := (HOK.cellsF HSN.out.symm hs 1 (by decide)).1; have u0 := (HOK.cellsF HSN.out.symm hs 1 (by decide)).2
      have v1 : w5.cell? ⟨g2, f * 7 + 2, none⟩ = some (.int .i64 fx.rv.kd) := (HOK.cellsF HSN.out.symm hs 2 (by decide)).1; have u1 := (HOK.cellsF HSN.out.symm hs 2 (by decide)).2
      have v2 : w5.cell? ⟨g2, f * 7 + 3, none⟩ = some (.string fx.rv.bo) := (HOK.cellsF HSN.out.symm hs 3 (by decide)).1; have u2 := (HOK.cellsF HSN.out.symm hs 3 (by decide)).2
      have v3 : w5.cell? ⟨g2, f * 7 + 4, none⟩ = some (.int .i64 fx.rv.ag) := (HOK.cellsF HSN.out.symm hs 4 (by decide)).1; have u3 := (HOK.cellsF HSN.out.symm hs 4 (by decide)).2
      have v4 : w5.cell? ⟨g2, f * 7 + 5, none⟩ = some (.bool fx.rv.sh) := (HOK.cellsF HSN.out.symm hs 5 (by decide)).1; have u4 := (HOK.cellsF HSN.out.symm hs 5 (by decide)).2
      have v5 : w5.cell? ⟨g2, f * 7 + 6, none⟩ = some (.string fx.rv.po) := (HOK.cellsF HSN.out.symm hs 6 (by decide)).1; have u5 := (HOK.cellsF HSN.out.symm hs 6 (by decide)).2
      have x0 := box_cell XR5.out (j := 0) rfl
      have x1 := box_cell XR5.out (j := 1) rfl
      have x2 := box_cell XR5.out (j := 2) rfl
      have x3 := box_cell XR5.out (j := 3) rfl
      have x4 := box_cell XR5.out (j := 4) rfl
      have x5 := box_cell XR5.out (j := 5) rfl
      have ha5 := heap_lt XA5.out; have hr5 := heap_lt XR5.out
      have hrow := HOK.1; rw [HSN.out.symm] at hrow
      have hset := set6F_own hrow hs ⟨r_s, r_k, r_b, r_a, r_h, r_o⟩
      rw [hfx] at hset
      have HZ := Lib.hid (HM5.out.innerSame (q := ((p_a, fs), (some ⟨g2, 0, none⟩, sn, sc))) HQ.out hset.2 (fs.set f ⟨pp, ⟨r_s, r_k, r_b, r_a, r_h, r_o⟩⟩) (by rw [List.length_set, HSN.out.symm]; exact hset.1))
      have HS := Lib.hid hs; clear hset hrow HOK hs hp2 hfx
      have hnf : ¬ ((f : Int) < 0) := by omega
      have hnd : decide ((0 : Int) ≤ (f : Int)) = true := decide_eq_true (by omega)
      go_upto_region 7 with (fail)
      go_region
      all_goals
        go_wp2_with fail
        refine bodyPost_ret (v := .tuple #[.slice (some ⟨g1, 0, none⟩) n c, .int .i64 j]) (by simp [results, Tryd.results34, go_sem]) rfl ⟨_, _, _, _, by rw [HJ.out], ?_, put_dr HZ.out⟩
        rw [HPS.out, HE.out]; exact map_setS

end Go.Proofs.YtpkicliimhflgaaDoor
namespace Go.Proofs.YtpkicliimhflgaaDoor
open Go.ChangeShapes Go.WideShapes Go.ChangeAt Go.RowKit

theorem host_lt (L : List Sp) (h : ByteArray) : fdS L h < (hostS L h).length := by
  rcases findIdx_or (isHost h) L with ⟨he, _⟩ | ⟨x, hl, _⟩
  · have e : fdS L h = L.length := he
    rw [hostS_new e, e, List.length_append]; simp
  · rw [hostS_old hl]; exact hl
theorem host_mem {L : List Sp} {h : ByteArray} {s : Sp} (hs : s ∈ hostS L h) : s ∈ L ∨ s = (h, []) := by
  unfold hostS at hs
  split at hs
  · exact Or.inl hs
  · rcases List.mem_append.1 hs with k | k
    · exact Or.inl k
    · exact Or.inr (List.mem_singleton.1 k)
theorem putS_some (L : List Sp) (h p : ByteArray) (r : Rv) : ∃ s, (s ∈ L ∨ s = (h, [])) ∧ (hostS L h)[fdS L h]? = some s ∧ putS L h p r = (hostS L h).set (fdS L h) (s.1, putF s.2 p r) ∧ (putS L h p r)[fdS L h]? = some (s.1, putF s.2 p r) := by
  have hl := host_lt L h
  have hs : (hostS L h)[fdS L h]? = some (hostS L h)[fdS L h] := List.getElem?_eq_getElem hl
  have e := putS_at (p := p) (r := r) rfl rfl hs
  exact ⟨_, host_mem (List.getElem_mem hl), hs, e, by rw [e, List.getElem?_set_self hl]⟩
theorem putF_few {fs : List Fl} {p : ByteArray} {r : Rv} (hf : ∀ f ∈ fs, FlFew f) (hr : FlFew ⟨p, r⟩) : ∀ f ∈ putF fs p r, FlFew f := by
  intro f h
  unfold putF at h
  split at h
  · rcases List.mem_or_eq_of_mem_set h with k | k
    · exact hf f k
    · rw [k]; exact hr
  · rcases List.mem_append.1 h with k | k
    · exact hf f k
    · rw [List.mem_singleton.1 k]; exact hr
theorem putF_len (fs : List Fl) (p : ByteArray) (r : Rv) : (putF fs p r).length ≤ fs.length + 1 := by
  unfold putF
  split
  · rw [List.length_set]; omega
  · rw [List.length_append]; exact Nat.le_refl _
theorem putB_at {L : List Sp} {h p : ByteArray} {r : Rv} {s : Sp} (hs : (putS L h p r)[fdS L h]? = some s) : putB L h p r = (decide ((putS L h p r).length ≤ 4) && isSv s.1 s.2) := by
  unfold putB; rw [hs]
theorem putV_yes {L : List Sp} {h p : ByteArray} {r : Rv} (hb : putB L h p r = true) : putV L h p r = putS L h p r := by unfold putV; rw [if_pos hb]
theorem putV_no {L : List Sp} {h p : ByteArray} {r : Rv} (hb : putB L h p r = false) : putV L h p r = L := by unfold putV; rw [if_neg (by rw [hb]; exact Bool.false_ne_true)]
/-- What PutFile answers. -/
def PfOut (L : List Sp) (hh pp : ByteArray) (r : Rv) (w : World) (e : Ending) (w' : World) : Prop :=
  ∃ a n c ts, e = .returned (.tuple #[.slice a n c, .bool (putB L hh pp r)]) ∧ ts.map Prod.fst = putV L hh pp r ∧ MineV w.heap.size w w' (.slice a n c) ts
/-- The server with the file, in the copy. -/
theorem put_at {B : Nat} {w0 w : World} {a : Option Addr} {n c : Nat} {ts : List Se} {L : List Sp} {h p : ByteArray} {r : Rv} {j : Nat} (hm : MineV B w0 w (.slice a n c) ts) (hts : ts.map Prod.fst = putS L h p r) (hj : fdS L h = j)
    (hL : ∀ s ∈ L, s.1.size ≤ 1048576 ∧ s.2.length ≤ 1048576 ∧ ∀ f ∈ s.2, FlFew f) (hh : h.size ≤ 1048576) (hr : FlFew ⟨p, r⟩) :
    ∃ (g : Nat) (ho : ByteArray) (fs : List Fl) (sa : Option Addr) (sn sc : Nat), a = some ⟨g, 0, none⟩ ∧ j < n ∧ ts.length = n ∧ g < w.heap.size ∧ w.cell? ⟨g, j * 2, none⟩ = some (.string ho) ∧ w.cell? ⟨g, j * 2 + 1, none⟩ = some (.slice sa sn sc) ∧ ReadsK encF 7 w.heap.size w (.slice sa sn sc) fs ∧ ho.size ≤ 1048576 ∧ (∀ f ∈ fs, FlFew f) ∧ fs.length ≤ 1048577 ∧ putB L h p r = (decide (n ≤ 4) && isSv ho fs) := by
  obtain ⟨s, hs1, _, _, hs4⟩ := putS_some L h p r
  have hn : ts.length = n := by obtain ⟨_, _, e⟩ := hm.form; injection e with _ e2 _; exact e2.symm
  rw [← hts, hj, List.getElem?_map] at hs4
  obtain ⟨q, hq, hqs⟩ : ∃ q, ts[j]? = some q ∧ q.1 = (s.1, putF s.2 p r) := by
    cases hx : ts[j]? with
    | none => rw [hx] at hs4; cases hs4
    | some q => rw [hx] at hs4; exact ⟨q, rfl, Option.some.inj hs4⟩
  have hjn := (List.getElem?_eq_some_iff.1 hq).1
  obtain ⟨g, rfl⟩ : ∃ g, a = some ⟨g, 0, none⟩ := by
    rcases hm.row.row.2 with ⟨e, h0⟩ | ⟨g', cap', cur, e, _⟩
    · omega
    · injection e with e1; exact ⟨_, e1⟩
  obtain ⟨c1, _, c0⟩ := hm.row.cellG hn hq
  obtain ⟨⟨ho, fs⟩, ⟨sa, sn, sc⟩⟩ := q
  obtain ⟨e1, e2⟩ := Prod.mk.inj hqs
  have hb := putB_at (L := L) (h := h) (p := p) (r := r) (s := (ho, fs)) (by rw [← hts, hj, List.getElem?_map, hq]; rfl)
  rw [← hts, List.length_map, hn] at hb
  have hrd := (hm.reads (Nat.le_refl _)).2 _ (List.mem_of_getElem? hq)
  subst e1; subst e2
  refine ⟨g, s.1, putF s.2 p r, sa, sn, sc, rfl, by omega, hn, (hm.row.row.lt g rfl).2, c0, c1, hrd, ?_, ?_, ?_, hb⟩
  · rcases hs1 with k | k
    · exact (hL s k).1
    · rw [k]; exact hh
  · rcases hs1 with k | k
    · exact putF_few (hL s k).2.2 hr
    · rw [k]; exact putF_few (fun f hf => absurd hf List.not_mem_nil) hr
  · have := putF_len s.2 p r
    rcases hs1 with k | k
    · have := (hL s k).2.1; omega
    · rw [k] at this ⊢; exact Nat.le_trans this (by simp)
theorem ssL {ss : List Se} (ok : SsOk ss) : ∀ s ∈ ss.map Prod.fst, s.1.size ≤ 1048576 ∧ s.2.length ≤ 1048576 ∧ ∀ f ∈ s.2, FlFew f := fun s hs => by
  obtain ⟨p, hp, rfl⟩ := List.mem_map.1 hs
  exact ⟨ok.host p hp, ok.few p hp, ok.file p hp⟩

end Go.Proofs.YtpkicliimhflgaaDoor
namespace Go.Proofs.YtpkicliimhflgaaDoor
open Go.ChangeShapes Go.WideShapes Go.ChangeAt Go.RowKit

set_option maxRecDepth 100000 in
set_option maxHeartbeats 4000000 in
theorem areF_impl (v : Value) (fs : List Fl) (w : World) (hv : ReadsK encF 7 w.heap.size w v fs) (hf : ∀ f ∈ fs, FlFew f) (hm : Max0 w) :
    Calls Tryd.prog 29 #[v] w fun e w' => e = .returned (.bool (decide (fs.length ≤ 10) && flsOk fs)) ∧ Below w.heap.size w w' := by
  have HM := Lib.hid hm; have HF := Lib.hid hf; clear hm hf
  obtain ⟨a, cap, rfl, hc1, hc2⟩ := hv.formF
  obtain ⟨n, hn⟩ : ∃ n, fs.length = n := ⟨_, rfl⟩
  obtain ⟨R, hR⟩ : ∃ R, (decide (n ≤ 10) && flsOk fs) = R := ⟨_, rfl⟩
  rw [hn] at hv hc1 ⊢; rw [hR]
  have HV := Lib.hid hv; have HN := Lib.hid hn; have HR := Lib.hid hR
  clear hv hn hR
  by_cases hl : (n : Int) ≤ 10
  · have hl2 : ¬ ((10 : Int) < (n : Int)) := by omega
    have hl3 : decide ((10 : Int) < (n : Int)) = false := decide_eq_false hl2
    have HL := Lib.hid (show decide (n ≤ 10) = true from decide_eq_true (by omega))
    go_enter Tryd.func29, Tryd.ntmps29
    go_wp2
    go_loopw [10] (fun i wr => ∃ (k : Nat), k ≤ n ∧ i = .int .i64 k ∧ (∀ i f, i < k → fs[i]? = some f → flGood fs f i = true) ∧ Below w.heap.size w wr)
      (fun i _ => n - (intOf i).toNat)
    case atStart => exact ⟨0, Nat.zero_le _, rfl, fun i f h => absurd h (Nat.not_lt_zero _), Below.refl _ _⟩
    case round =>
      obtain ⟨k, hk, rfl, hp, hs⟩ := hrel
      have HB := Lib.hid hs; have HP := Lib.hid hp
      clear hs hp
      by_cases hlt : (k : Int) < (n : Int)
      · obtain ⟨p_a, f_s, f_k, f_b, f_a, f_h, f_o, hp⟩ := fl_at (xs := fs) (j := k) (by rw [HN.out]; omega)
        obtain ⟨g, off, rfl, hg, c0, c1, c2, c3, c4, c5, c6⟩ := HV.out.file hp
        replace c0 : wr.cell? ⟨g, off + k * 7, none⟩ = some (.string p_a) := by rw [HB.out.cell (show g < _ by omega)]; exact c0
        replace c1 : wr.cell? ⟨g, off + k * 7 + 1, none⟩ = some (.int .i64 f_s) := by rw [HB.out.cell (show g < _ by omega)]; exact c1
        replace c2 : wr.cell? ⟨g, off + k * 7 + 2, none⟩ = some (.int .i64 f_k) := by rw [HB.out.cell (show g < _ by omega)]; exact c2
        replace c3 : wr.cell? ⟨g, off + k * 7 + 3, none⟩ = some (.string f_b) := by rw [HB.out.cell (show g < _ by omega)]; exact c3
        replace c4 : wr.cell? ⟨g, off + k * 7 + 4, none⟩ = some (.int .i64 f_a) := by rw [HB.out.cell (show g < _ by omega)]; exact c4
        replace c5 : wr.cell? ⟨g, off + k * 7 + 5, none⟩ = some (.bool f_h) := by rw [HB.out.cell (show g < _ by omega)]; exact c5
        replace c6 : wr.cell? ⟨g, off + k * 7 + 6, none⟩ = some (.string f_o) := by rw [HB.out.cell (show g < _ by omega)]; exact c6
        obtain ⟨z0, z3, z6⟩ := HF.out _ (List.mem_of_getElem? hp)
        replace z0 : p_a.size ≤ 1048576 := z0; replace z6 : f_o.size ≤ 1048576 := z6; clear z3
        have HPF := Lib.hid hp
        have hjk := fdF_le hp rfl
        replace hjk : fdF fs p_a ≤ k := hjk
        obtain ⟨j, hj⟩ : ∃ j, fdF fs p_a = j := ⟨_, rfl⟩
        rw [hj] at hjk
        have HJ := Lib.hid hj; clear hj hp
        have HIX := Lib.hid (show ixV (fdF fs p_a) fs.length = j by rw [HJ.out, HN.out]; exact ixV_hit (by omega))
        have HNM := Lib.hid (fun X => nm_impl p_a (by omega) X)
        have HRS := Lib.hid (fun X hx => isRs_impl f_s f_k f_b f_a f_h f_o z6 X hx)
        have HGD := Lib.hid (show flGood fs ⟨p_a, ⟨f_s, f_k, f_b, f_a, f_h, f_o⟩⟩ k = (isNm p_a && (isRs f_s f_k f_b f_a f_o && decide (k ≤ j))) by unfold flGood rsOk; rw [← HJ.out])
        clear z0 z6
        obtain ⟨W0, hW0⟩ : ∃ W, wr.alloc (.cells #[.string p_a, .int .i64 f_s, .int .i64 f_k, .string f_b, .int .i64 f_a, .bool f_h, .string f_o] 57) = W := ⟨_, rfl⟩
        have hb0 : Below wr.heap.size wr W0 := by rw [← hW0]; exact (Below.refl _ _).alloc (Nat.le_refl _) _
        have q0 : W0.cell? ⟨wr.heap.size, 0, none⟩ = some (.string p_a) := by rw [← hW0]; simp
        have q1 : W0.cell? ⟨wr.heap.size, 1, none⟩ = some (.int .i64 f_s) := by rw [← hW0]; simp
        have q2 : W0.cell? ⟨wr.heap.size, 2, none⟩ = some (.int .i64 f_k) := by rw [← hW0]; simp
        have q3 : W0.cell? ⟨wr.heap.size, 3, none⟩ = some (.string f_b) := by rw [← hW0]; simp
        have q4 : W0.cell? ⟨wr.heap.size, 4, none⟩ = some (.int .i64 f_a) := by rw [← hW0]; simp
        have q5 : W0.cell? ⟨wr.heap.size, 5, none⟩ = some (.bool f_h) := by rw [← hW0]; simp
        have q6 : W0.cell? ⟨wr.heap.size, 6, none⟩ = some (.string f_o) := by rw [← hW0]; simp
        replace HB := Lib.hid (HB.out.trans (hb0.mono HB.out.size))
        have HW0 := Lib.hid hW0; clear hW0 hb0
        go_wp2_with fail
        rw [HW0.out]
        refine (HNM.out _).mono ?_
        rintro e w1 ⟨rfl, rfl⟩
        cases e1 : isNm p_a with
        | false =>
          have HE1 := Lib.hid e1; clear e1
          go_wp2_with fail
          go_ret
          exact ⟨ret_b (by rw [← HR.out, flsOk_no HPF.out (by rw [HGD.out]; simp [HE1.out]), Bool.and_false]), HB.out⟩
        | true =>
          have HE1 := Lib.hid e1; clear e1
          go_wp2_with fail
          refine (HRS.out _ (HM.out.on HB.out)).mono ?_
          rintro e w2 ⟨rfl, hb2⟩
          replace q0 := (hb2.cell (World.block_lt_of_cell? _ _ q0)).trans q0; replace q1 := (hb2.cell (World.block_lt_of_cell? _ _ q1)).trans q1; replace q2 := (hb2.cell (World.block_lt_of_cell? _ _ q2)).trans q2; replace q3 := (hb2.cell (World.block_lt_of_cell? _ _ q3)).trans q3; replace q4 := (hb2.cell (World.block_lt_of_cell? _ _ q4)).trans q4; replace q5 := (hb2.cell (World.block_lt_of_cell? _ _ q5)).trans q5; replace q6 := (hb2.cell (World.block_lt_of_cell? _ _ q6)).trans q6; replace HB := Lib.hid (HB.out.trans (hb2.mono HB.out.size)); clear hb2
          cases e2 : isRs f_s f_k f_b f_a f_o with
          | false =>
            have HE2 := Lib.hid e2; clear e2
            go_wp2_with fail
            go_ret
            exact ⟨ret_b (by rw [← HR.out, flsOk_no HPF.out (by rw [HGD.out]; simp [HE1.out, HE2.out]), Bool.and_false]), HB.out⟩
          | true =>
            have HE2 := Lib.hid e2; clear e2
            go_wp2_with fail
            refine (findF_impl _ fs p_a _ ((HV.out.below HB.out (Nat.le_refl _)).mono HB.out.size) (by rw [HN.out]; omega)).mono ?_
            rintro e w3 ⟨rfl, hg3⟩
            rw [HIX.out]
            replace HB := Lib.hid (HB.out.trans (hg3.below.mono HB.out.size)); clear hg3
            by_cases hj2 : (j : Int) < (k : Int)
            · have HE3 := Lib.hid (show decide (k ≤ j) = false from decide_eq_false (by omega))
              go_wp2_with fail
              go_ret
              exact ⟨ret_b (by rw [← HR.out, flsOk_no HPF.out (by rw [HGD.out]; simp [HE1.out, HE2.out, HE3.out]), Bool.and_false]), HB.out⟩
            · have HQ := Lib.hid (show flGood fs ⟨p_a, ⟨f_s, f_k, f_b, f_a, f_h, f_o⟩⟩ k = true by rw [HGD.out, HE1.out, HE2.out]; exact decide_eq_true (by omega))
              have hj3 : decide ((j : Int) < (k : Int)) = false := decide_eq_false hj2
              go_wp2_with fail
              go_roundw
              case rel =>
                refine ⟨k + 1, by omega, by go_num, fun i f hi hf => ?_, HB.out⟩
                by_cases e : i = k
                · subst e; rw [HPF.out] at hf; cases hf; exact HQ.out
                · exact HP.out i f (by omega) hf
              case measure => simp [intOf]; omega
      · have hkn : k = n := by omega
        subst hkn
        have HE := Lib.hid (show flsOk fs = true from flsOk_yes fun i f hi hf => HP.out i f (by rw [← HN.out]; exact hi) hf)
        go_wp2
        go_ret
        exact ⟨ret_b (by rw [← HR.out, HL.out, HE.out]; rfl), HB.out⟩
  · have hl2 : (10 : Int) < (n : Int) := by omega
    have hl3 : decide ((10 : Int) < (n : Int)) = true := decide_eq_true hl2
    have HL := Lib.hid (show decide (n ≤ 10) = false from decide_eq_false (by omega))
    go_enter Tryd.func29, Tryd.ntmps29
    go_wp2
    go_ret
    exact ⟨ret_b (by rw [← HR.out, HL.out]; rfl), Below.refl _ _⟩

set_option maxRecDepth 100000 in
set_option maxHeartbeats 4000000 in
theorem isSv_impl (ho : ByteArray) (a : Option Addr) (n c : Nat) (fs : List Fl) (w : World) (hv : ReadsK encF 7 w.heap.size w (.slice a n c) fs) (hh : ho.size ≤ 1048576) (hf : ∀ f ∈ fs, FlFew f) (hm : Max0 w) :
    Calls Tryd.prog 9 #[.agg #[.string ho, .slice a n c]] w fun e w' => e = .returned (.bool (isSv ho fs)) ∧ Below w.heap.size w w' := by
  obtain ⟨W0, hW0⟩ : ∃ W, w.alloc (.cells #[.string ho, .slice a n c] 29) = W := ⟨_, rfl⟩
  have hb0 : Below w.heap.size w W0 := by rw [← hW0]; exact (Below.refl _ _).alloc (Nat.le_refl _) _
  have q0 : W0.cell? ⟨w.heap.size, 0, none⟩ = some (.string ho) := by rw [← hW0]; simp
  have q1 : W0.cell? ⟨w.heap.size, 1, none⟩ = some (.slice a n c) := by rw [← hW0]; simp
  have HX := Lib.hid (areF_impl _ fs W0 ((hv.below hb0 (Nat.le_refl _)).mono hb0.size) hf (hm.on hb0))
  have HNM := Lib.hid (fun X => nm_impl ho (by omega) X)
  have HB := Lib.hid hb0; have HW0 := Lib.hid hW0; clear hW0 hb0 hv hf hm
  obtain ⟨D, hD⟩ : ∃ D, (decide (fs.length ≤ 10) && flsOk fs) = D := ⟨_, rfl⟩
  rw [hD] at HX
  have HR := Lib.hid (show isSv ho fs = (isNm ho && D) by unfold isSv; rw [hD]); clear hD
  go_enter Tryd.func9, Tryd.ntmps9
  go_wp2_with fail
  rw [HW0.out]
  refine (HNM.out _).mono ?_
  rintro e w1 ⟨rfl, rfl⟩
  cases e1 : isNm ho with
  | false =>
    have HE1 := Lib.hid e1; clear e1
    go_wp2_with fail
    go_ret
    exact ⟨ret_b (by rw [HR.out, HE1.out]; rfl), HB.out⟩
  | true =>
    have HE1 := Lib.hid e1; clear e1
    go_wp2_with fail
    refine HX.out.mono ?_
    rintro e w2 ⟨rfl, hb2⟩
    go_wp2_with fail
    go_ret
    exact ⟨ret_b (by rw [HR.out, HE1.out]; rfl), HB.out.trans (hb2.mono HB.out.size)⟩

end Go.Proofs.YtpkicliimhflgaaDoor
namespace Go.Proofs.YtpkicliimhflgaaDoor
open Go.ChangeShapes Go.WideShapes Go.ChangeAt Go.RowKit

set_option maxRecDepth 100000 in
set_option maxHeartbeats 16000000 in
theorem put_impl (v : Value) (ss : List Se) (hh pp : ByteArray) (r_s r_k : Int) (r_b : ByteArray) (r_a : Int) (r_h : Bool) (r_o : ByteArray) (w : World) (hv : ReadV w.heap.size w v ss) (ok : SsOk ss) (z1 : hh.size ≤ 1048576) (z2 : pp.size ≤ 1048576) (z3 : r_b.size ≤ 1048576) (z4 : r_o.size ≤ 1048576) (hmx : Max0 w) :
    Calls Tryd.prog 18 #[v, .agg #[.string hh, .string pp], .agg #[.int .i64 r_s, .int .i64 r_k, .string r_b, .int .i64 r_a, .bool r_h, .string r_o]] w (PfOut (ss.map Prod.fst) hh pp ⟨r_s, r_k, r_b, r_a, r_h, r_o⟩ w) := by
  have mixed : Tryd.prog.follows .mixedOrders = true := by kernel_rfl
  obtain ⟨va, vc, rfl, hc1, hc2⟩ := hv.form
  obtain ⟨vn, hvn⟩ : ∃ n, ss.length = n := ⟨_, rfl⟩
  rw [hvn] at hv hc1 ⊢
  have hln0 : vn ≤ 1048576 := by rw [← hvn]; exact ok.len
  obtain ⟨W0, hW0⟩ : ∃ W, (w.alloc (.cells #[.string hh, .string pp] 45)).alloc (.cells #[.int .i64 r_s, .int .i64 r_k, .string r_b, .int .i64 r_a, .bool r_h, .string r_o] 47) = W := ⟨_, rfl⟩
  have hb0 : Below w.heap.size w W0 := by rw [← hW0]; exact bl_aw (bl_aw (Below.refl _ _) _) _
  have XA0 := Lib.hid (show W0.heap[w.heap.size]? = some (.cells #[.string hh, .string pp] 45 (0, 0)) by rw [← hW0]; exact box2_0 _ _ _)
  have XR0 := Lib.hid (show W0.heap[w.heap.size + 1]? = some (.cells #[.int .i64 r_s, .int .i64 r_k, .string r_b, .int .i64 r_a, .bool r_h, .string r_o] 47 (0, 0)) by rw [← hW0]; exact box2_1 _ _ _)
  have HB0 := Lib.hid hb0; have HW0 := Lib.hid hW0; have HVA := Lib.hid hv; have HV0 := Lib.hid (hv.up hb0); have HSO := Lib.hid ok; have HLO := Lib.hid (ssL ok); have HHZ := Lib.hid z1; have HRW := Lib.hid (show FlFew ⟨pp, ⟨r_s, r_k, r_b, r_a, r_h, r_o⟩⟩ from ⟨z2, z3, z4⟩); have HVN := Lib.hid hvn
  clear hW0 hv hb0 hvn ok
  have HMX := Lib.hid hmx; clear hmx
  have KEEP := Lib.hid (fun (w' : World) (h : Below W0.heap.size W0 w') => show Below W0.heap.size W0 w' ∧ w'.cell? ⟨w.heap.size, 0, none⟩ = some (.string hh) ∧ w'.cell? ⟨w.heap.size, 1, none⟩ = some (.string pp) ∧ w'.cell? ⟨w.heap.size + 1, 0, none⟩ = some (.int .i64 r_s) ∧ w'.cell? ⟨w.heap.size + 1, 1, none⟩ = some (.int .i64 r_k) ∧ w'.cell? ⟨w.heap.size + 1, 2, none⟩ = some (.string r_b) ∧ w'.cell? ⟨w.heap.size + 1, 3, none⟩ = some (.int .i64 r_a) ∧ w'.cell? ⟨w.heap.size + 1, 4, none⟩ = some (.bool r_h) ∧ w'.cell? ⟨w.heap.size + 1, 5, none⟩ = some (.string r_o) from ⟨h, box_cell (below_heap h (heap_lt XA0.out) XA0.out) (j := 0) rfl, box_cell (below_heap h (heap_lt XA0.out) XA0.out) (j := 1) rfl, box_cell (below_heap h (heap_lt XR0.out) XR0.out) (j := 0) rfl, box_cell (below_heap h (heap_lt XR0.out) XR0.out) (j := 1) rfl, box_cell (below_heap h (heap_lt XR0.out) XR0.out) (j := 2) rfl, box_cell (below_heap h (heap_lt XR0.out) XR0.out) (j := 3) rfl, box_cell (below_heap h (heap_lt XR0.out) XR0.out) (j := 4) rfl, box_cell (below_heap h (heap_lt XR0.out) XR0.out) (j := 5) rfl⟩)
  have HPF := Lib.hid (fun (a1 : Option Addr) (n1 c1 : Nat) (ts1 : List Se) (X : World) (e : ts1.map Prod.fst = ss.map Prod.fst) (hm : MineV W0.heap.size W0 X (.slice a1 n1 c1) ts1) => show Calls Tryd.prog 34 #[.slice a1 n1 c1, .agg #[.string hh, .string pp], .agg #[.int .i64 r_s, .int .i64 r_k, .string r_b, .int .i64 r_a, .bool r_h, .string r_o]] X (PutOut W0.heap.size W0 (ss.map Prod.fst) hh pp ⟨r_s, r_k, r_b, r_a, r_h, r_o⟩) from e ▸ putFile_impl a1 n1 c1 ts1 hh pp r_s r_k r_b r_a r_h r_o hm (Nat.le_trans (HSO.out.of e).len (by decide)) (fun p hp => Nat.le_trans ((HSO.out.of e).few p hp) (by decide)))
  have qa0 := box_cell XA0.out (j := 0) rfl
  have qa1 := box_cell XA0.out (j := 1) rfl
  have qr0 := box_cell XR0.out (j := 0) rfl
  have qr1 := box_cell XR0.out (j := 1) rfl
  have qr2 := box_cell XR0.out (j := 2) rfl
  have qr3 := box_cell XR0.out (j := 3) rfl
  have qr4 := box_cell XR0.out (j := 4) rfl
  have qr5 := box_cell XR0.out (j := 5) rfl
  have ha0 := heap_lt XA0.out; have hr0 := heap_lt XR0.out
  go_enter Tryd.func18, Tryd.ntmps18
  go_upto_region 1 with (fail)
  rw [HW0.out]
  go_cut [8, 9] from 10 to 17 (fun c d wx => ∃ a2 n2 c2 ts2, c = .slice a2 n2 c2 ∧ d = .int .i64 (fdS (ss.map Prod.fst) hh) ∧ ts2.map Prod.fst = putS (ss.map Prod.fst) hh pp ⟨r_s, r_k, r_b, r_a, r_h, r_o⟩ ∧ MineV W0.heap.size W0 wx (.slice a2 n2 c2) ts2)
  case first =>
    go_region_held3 (fun w' => Below W0.heap.size W0 w' ∧ w'.cell? ⟨w.heap.size, 0, none⟩ = some (.string hh) ∧ w'.cell? ⟨w.heap.size, 1, none⟩ = some (.string pp) ∧ w'.cell? ⟨w.heap.size + 1, 0, none⟩ = some (.int .i64 r_s) ∧ w'.cell? ⟨w.heap.size + 1, 1, none⟩ = some (.int .i64 r_k) ∧ w'.cell? ⟨w.heap.size + 1, 2, none⟩ = some (.string r_b) ∧ w'.cell? ⟨w.heap.size + 1, 3, none⟩ = some (.int .i64 r_a) ∧ w'.cell? ⟨w.heap.size + 1, 4, none⟩ = some (.bool r_h) ∧ w'.cell? ⟨w.heap.size + 1, 5, none⟩ = some (.string r_o)) (exact KEEP.out _ (by repeat' (first | (with_reducible exact Below.refl _ _) | (with_reducible exact hP2) | (with_reducible exact hP1) | (with_reducible refine bl_dw ?_) | (with_reducible refine bl_aw ?_ _)))) (first
      | (go_at_call 35; (with_reducible refine (copyV_impl (.slice va vn vc) ss _ (HV0.out.up (by repeat' (first | (with_reducible exact Below.refl _ _) | (with_reducible refine bl_dw ?_) | (with_reducible refine bl_aw ?_ _)))) (by rw [HVN.out]; omega) (fun p hp => Nat.le_trans (HSO.out.few p hp) (by decide))).mono ?_); rintro e w1 ⟨a1, n1, c1, ts1, rfl, hmap1, hmv1⟩; have hP1 := bl_tr (show Below W0.heap.size W0 _ from (by repeat' (first | (with_reducible exact Below.refl _ _) | (with_reducible refine bl_dw ?_) | (with_reducible refine bl_aw ?_ _)))) hmv1.row.below; have hm1 := hmv1.down hP1 (Below.size (show Below W0.heap.size W0 _ from (by repeat' (first | (with_reducible exact Below.refl _ _) | (with_reducible refine bl_dw ?_) | (with_reducible refine bl_aw ?_ _))))))
      | (go_at_call 34; (with_reducible refine (HPF.out a1 n1 c1 ts1 _ hmap1 (hm1.later (by repeat' (first | (with_reducible exact Below.refl _ _) | (with_reducible refine bl_dw ?_) | (with_reducible refine bl_aw ?_ _))))).mono ?_); rintro e w2 ⟨a2, n2, c2, ts2, rfl, hmap2, hm2⟩; have hP2 := hm2.row.below))
    all_goals
      go_wp2_with fail
      go_meet
      exact ⟨a2, n2, c2, ts2, rfl, rfl, hmap2, by repeat' (first | (with_reducible exact hm2) | (refine put_dr ?_))⟩
  obtain ⟨a2, n2, c2, ts2, rfl, rfl, hmap2, hm2⟩ := hcut
  rename World => wX
  have HM2 := Lib.hid hm2; have HMS := Lib.hid hmap2
  obtain ⟨j, hj⟩ : ∃ j, fdS (ss.map Prod.fst) hh = j := ⟨_, rfl⟩
  rw [hj]
  have HJ := Lib.hid hj
  clear hm2 hmap2 hj qa0 qa1 qr0 qr1 qr2 qr3 qr4 qr5 KEEP HPF
  obtain ⟨g9, ho, fs9, sb, sm, sk, e9, hjn, hln9, hg9, k0, k1, hrd, hz9, hfw9, hfl9, hpb⟩ := put_at HM2.out HMS.out HJ.out HLO.out HHZ.out HRW.out
  subst e9
  have HPB := Lib.hid hpb; have HRD := Lib.hid hrd; have HFW := Lib.hid hfw9; have HBX := Lib.hid (HB0.out.trans (HM2.out.row.below.mono HB0.out.size))
  have hnj9 : ¬ ((j : Int) < 0) := by omega
  clear hpb hrd hfw9
  by_cases h4 : (n2 : Int) ≤ 4
  · have h4b : ¬ ((4 : Int) < (n2 : Int)) := by omega
    have h4d : decide ((4 : Int) < (n2 : Int)) = false := decide_eq_false h4b
    have HD4 := Lib.hid (show decide (n2 ≤ 4) = true from decide_eq_true (by omega))
    go_wp2_with fail
    refine (isSv_impl ho sb sm sk fs9 _ HRD.out hz9 HFW.out (HMX.out.on HBX.out)).mono ?_
    rintro e w8 ⟨rfl, hb8⟩
    have HBX2 := Lib.hid (HBX.out.trans (hb8.mono HBX.out.size)); have HM8 := Lib.hid (HM2.out.later hb8)
    cases e8 : isSv ho fs9 with
    | true =>
      have HPT := Lib.hid (show putB (ss.map Prod.fst) hh pp ⟨r_s, r_k, r_b, r_a, r_h, r_o⟩ = true by rw [HPB.out, HD4.out, e8]; rfl)
      clear e8 hb8
      go_wp2_with fail
      refine bodyPost_ret (v := .tuple #[.slice (some ⟨g9, 0, none⟩) n2 c2, .bool true]) (by simp [results, Tryd.results18, go_sem]) rfl ⟨_, _, _, _, by rw [HPT.out], by rw [putV_yes HPT.out]; exact HMS.out, HM8.out.down HBX2.out HB0.out.size⟩
    | false =>
      have HPT := Lib.hid (show putB (ss.map Prod.fst) hh pp ⟨r_s, r_k, r_b, r_a, r_h, r_o⟩ = false by rw [HPB.out, e8]; cases decide (n2 ≤ 4) <;> rfl)
      clear e8 hb8
      go_wp2_with fail
      refine (copyV_impl (.slice va vn vc) ss _ (HVA.out.up HBX2.out) (by rw [HVN.out]; omega) (fun p hp => Nat.le_trans (HSO.out.few p hp) (by decide))).mono ?_
      rintro e w9 ⟨a3, n3, c3, ts3, rfl, hmap3, hmv3⟩
      have HM3 := Lib.hid (hmv3.down (HBX2.out.trans (hmv3.row.below.mono HBX2.out.size)) HBX2.out.size); clear hmv3
      go_wp2_with fail
      refine bodyPost_ret (v := .tuple #[.slice a3 n3 c3, .bool false]) (by simp [results, Tryd.results18, go_sem]) rfl ⟨_, _, _, ts3, by rw [HPT.out], by rw [putV_no HPT.out]; exact hmap3, HM3.out⟩
  · have h4b : (4 : Int) < (n2 : Int) := by omega
    have h4d : decide ((4 : Int) < (n2 : Int)) = true := decide_eq_true h4b
    have HPT := Lib.hid (show putB (ss.map Prod.fst) hh pp ⟨r_s, r_k, r_b, r_a, r_h, r_o⟩ = false by rw [HPB.out, decide_eq_false (show ¬ (n2 ≤ 4) by omega)]; rfl)
    have HBX2 := HBX
    go_wp2_with fail
    refine (copyV_impl (.slice va vn vc) ss _ (HVA.out.up HBX2.out) (by rw [HVN.out]; omega) (fun p hp => Nat.le_trans (HSO.out.few p hp) (by decide))).mono ?_
    rintro e w9 ⟨a3, n3, c3, ts3, rfl, hmap3, hmv3⟩
    have HM3 := Lib.hid (hmv3.down (HBX2.out.trans (hmv3.row.below.mono HBX2.out.size)) HBX2.out.size); clear hmv3
    go_wp2_with fail
    refine bodyPost_ret (v := .tuple #[.slice a3 n3 c3, .bool false]) (by simp [results, Tryd.results18, go_sem]) rfl ⟨_, _, _, ts3, by rw [HPT.out], by rw [putV_no HPT.out]; exact hmap3, HM3.out⟩

end Go.Proofs.YtpkicliimhflgaaDoor
