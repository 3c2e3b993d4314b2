/- 3 texts in one. -/
import Derived.Test.YtkjjiinccljhjaaDoorPolC
import Derived.Test.YtkjjiinccljhjaaDoorDrawInt
import Derived.Deep.AppendLies
import Derived.Deep.RegionLaw
namespace Go.Proofs.YtkjjiinccljhjaaDoor
/- DrP -/
open Go.ChangeShapes Go.WideShapes Go.ChangeAt Go.RowKit

theorem Kept.only {b : Nat} {w w' : World} (h : Kept b w w') : OnlyB [b] w w' := ⟨h.os, h.tape, h.output, h.size, fun i hi hn => h.block i hi (by simpa using hn)⟩
theorem kept_belowP {b lo : Nat} {w w1 w2 : World} (h : Kept b w w1) (hb : Below lo w1 w2) (hl : w.heap.size ≤ lo) : Kept b w w2 :=
  ⟨hb.os.trans h.os, hb.tape.trans h.tape, hb.output.trans h.output, Nat.le_trans h.size hb.size, fun k hk hn => (hb.block k (by omega)).trans (h.block k hk hn)⟩
theorem Cur.keptLoP {b lo : Nat} {sv : Value} {len : Nat} {w w' : World} (h : Cur b sv len w) (k : Below lo w w') (hl : b < lo) : Cur b sv len w' := by
  obtain ⟨i, x, h1, h2, a, cap, e, h3, h4⟩ := h
  refine ⟨i, x, by rw [k.block b hl]; exact h1, h2, a, cap, e, h3, ?_⟩
  rcases h4 with h4 | ⟨blk, off, e2, hb, hc⟩
  · exact Or.inl h4
  · refine Or.inr ⟨blk, off, e2, hb, fun j hj => ?_⟩
    obtain ⟨n, n0, n1, hn⟩ := hc j hj
    exact ⟨n, n0, n1, by rw [k.cell (by show blk < _; omega)]; exact hn⟩
theorem ownK_keptP {lo hi b : Nat} {w w' : World} {v : Value} {xs : List ByteArray} (h : OwnK encS 1 9 lo hi w v xs) (hk : Kept b w w') (hb : b < lo) : OwnK encS 1 9 lo hi w' v xs :=
  ownK_only h hk.only fun g hg hm => by rw [List.mem_singleton] at hm; have := (h.lt g hg).1; omega
theorem own3_only {lo : Nat} {w w' : World} {bs : List Nat} {v1 v2 v3 : Value} {xs ys zs : List ByteArray} (h : Own3 lo w v1 v2 v3 xs ys zs) (hb : OnlyB bs w w') (hn : ∀ b ∈ bs, b < lo) : Own3 lo w' v1 v2 v3 xs ys zs :=
  ⟨ownL_mono (ownL_only h.1 hb fun g hg hm => by have := (ownL_lt h.1 g hg).1; have := hn g hm; omega) (Nat.le_refl _) hb.size, h.2⟩
theorem own3_low {lo lo' : Nat} {w : World} {v1 v2 v3 : Value} {xs ys zs : List ByteArray} (h : Own3 lo w v1 v2 v3 xs ys zs) (hl : lo' ≤ lo) : Own3 lo' w v1 v2 v3 xs ys zs := ⟨ownL_mono h.1 hl (Nat.le_refl _), h.2⟩
theorem own3_later {lo : Nat} {w w' : World} {v1 v2 v3 : Value} {xs ys zs : List ByteArray} (h : Own3 lo w v1 v2 v3 xs ys zs) (hb : Below w.heap.size w w') : Own3 lo w' v1 v2 v3 xs ys zs := ⟨ownL_mono (ownL_later h.1 hb) (Nat.le_refl _) hb.size, h.2⟩
theorem own3_reads {lo : Nat} {w : World} {v1 v2 v3 : Value} {p : Pol} (h : Own3 lo w v1 v2 v3 p.scr p.sty p.img) : ReadP w.heap.size w v1 v2 v3 p := by
  obtain ⟨o1, o2, o3⟩ := ownL_three.1 h.1
  have f : ∀ {v : Value} {us : List ByteArray}, (rwSs v us).OwnR lo w.heap.size w → ReadsK encS 1 w.heap.size w v us := fun o => strs_of_data (x := rwSs _ _) (rwSs_data _ (.slice none 0 0) _) (Rw.OwnR.reads _ o)
  exact ⟨f o1, f o2, f o3⟩
theorem own3_zero (lo : Nat) (w : World) : Own3 lo w (.slice none 0 0) (.slice none 0 0) (.slice none 0 0) [] [] [] := by
  have h : (rwSs (.slice none 0 0) []).OwnR lo w.heap.size w := rwSs_own ⟨World.ownsRow_nil _ _ _ _, fun g hg => by cases hg⟩
  exact ⟨ownL_three.2 ⟨h, h, h⟩, by decide⟩

/-- append of one string to a slice of the call's own: where it lies. -/
theorem wpList_appSL {w : World} {ops : Array Oper} {rest : List Oper} {o : Oper} {a : Act} {Q : Exit → Act → World → Prop} (hgd : o.guard = none) (s x : Operand)
    (ho : o.op = .call { callee := .builtin .append, args := #[s, x], argTypes := #[24, 24] })
    (B : Nat) (v : Value) (xs : List ByteArray) (hs : a.eval s = v) (hown : w.ownsRow B 9 1 v xs.length (xs.flatMap encS)) (ad : Addr) (c : Nat) (top : Nat) (y : ByteArray) (hx : a.eval x = .slice (some ad) 1 c) (hr : ReadsK encS 1 top w (.slice (some ad) 1 c) [y])
    (hlen : xs.length ≤ 1000) (hB : B ≤ w.heap.size)
    (h : ∀ g n cap w', w'.ownsRow B 9 1 (.slice (some ⟨g, 0, none⟩) n cap) (xs ++ [y]).length ((xs ++ [y]).flatMap encS) → w.grownBy w' v.ownBlock → (v.ownBlock = some g ∨ g = w.heap.size) → g < w'.heap.size → wpList Tryd.prog ops Q rest (a.put o.dst (.slice (some ⟨g, 0, none⟩) n cap)) w') : wpList Tryd.prog ops Q (o :: rest) a w := by
  obtain ⟨i, hi, hz, hsize, hby⟩ := info_parts infoStr
  refine wpList_append_lies _ hgd s x _ ho B _ i _ 1 16 Tryd.underlying24 hi hz hsize hby (by rfl) (by decide) v xs.length _ hs hown ad 1 c ([y].flatMap encS) hx (by rfl) (hr.news encS_len) ?_ (by decide) (by unfold maxLen; omega) (by omega) hB w.heap.size rfl ?_
  · intro u hu
    obtain ⟨z, _, hz⟩ := List.mem_flatMap.1 hu
    exact encS_one z u hz
  · intro g cap w' h1 h2 h3 h4
    refine h g _ cap w' ?_ h2 h3 h4
    rw [List.flatMap_append, List.length_append, List.length_singleton]; exact h1

/-- A list of hosts under way: the list, the names that are drawn from. -/
structure HostsAt (b : Nat) (sv : Value) (len : Nat) (w wr : World) (v : Value) (xs : List ByteArray) (k : Nat) : Prop where
  own : wr.ownsRow w.heap.size 9 1 v xs.length (xs.flatMap encS)
  form : ∃ g n c, v = .slice (some ⟨g, 0, none⟩) n c
  apart : v.ownBlock ≠ some (w.heap.size + 1)
  few : xs.length ≤ k
  short : ∀ x ∈ xs, x.size ≤ 100
  cur : Cur b sv len wr
  kept : Kept b w wr
  lit : wr.heap[w.heap.size + 1]? = some (.cells #[.string ⟨#[104, 111, 109, 101]⟩, .string ⟨#[99, 100, 110]⟩, .string ⟨#[101, 118, 105, 108]⟩] 9 (0, 0))
theorem HostsAt.on {b : Nat} {sv : Value} {len : Nat} {w wr w1 : World} {v : Value} {xs : List ByteArray} {k : Nat} (h : HostsAt b sv len w wr v xs k) (hb : b < w.heap.size) (hc : Cur b sv len w1) (hk : Kept b wr w1) : HostsAt b sv len w w1 v xs k :=
  ⟨(ownK_keptP (lo := w.heap.size) (hi := wr.heap.size) ⟨h.own, fun g hg => (h.own.lt g hg).2⟩ hk hb).1, h.form, h.apart, h.few, h.short, hc, h.kept.trans hk, by rw [hk.block _ (heap_lt h.lit) (by omega)]; exact h.lit⟩
def HostsGot (b : Nat) (sv : Value) (len : Nat) (w : World) (e : Ending) (w' : World) : Prop :=
  ∃ a n c xs, e = .returned (.slice a n c) ∧ OwnK encS 1 9 w.heap.size w'.heap.size w' (.slice a n c) xs ∧ xs.length ≤ 3 ∧ (∀ x ∈ xs, x.size ≤ 100) ∧ Cur b sv len w' ∧ Kept b w w'

set_option maxRecDepth 100000 in
set_option maxHeartbeats 4000000 in
theorem hosts_any (b : Nat) (sv : Value) (len : Nat) (w : World) (hc : Cur b sv len w) :
    Calls Tryd.prog 55 #[.pointer (some ⟨b, 0, none⟩)] w (HostsGot b sv len w) := by
  have HLB := Lib.hid hc.lt
  have hst : HostsAt b sv len w ((w.alloc (.cells #[] 9)).alloc (.cells #[.string ⟨#[104, 111, 109, 101]⟩, .string ⟨#[99, 100, 110]⟩, .string ⟨#[101, 118, 105, 108]⟩] 9)) (.slice (some ⟨w.heap.size, 0, none⟩) 0 0) [] 0 := by
    refine ⟨(World.ownsRow_made (base := w.heap.size) (e := 9) (size := 1) w #[] 0 (Nat.le_refl _) (by decide) (by simp)).alloc _, ⟨_, _, _, rfl⟩, ?_, Nat.le_refl _, (fun _ h => by cases h), (hc.alloc _).alloc _, (Kept.alloc b w _).trans (Kept.alloc b _ _), ?_⟩
    · intro e; have := Option.some.inj e; simp at this
    · have h := heap_alloc_new (w.alloc (.cells #[] 9)) (.cells #[.string ⟨#[104, 111, 109, 101]⟩, .string ⟨#[99, 100, 110]⟩, .string ⟨#[101, 118, 105, 108]⟩] 9)
      rw [size_alloc] at h; exact h
  have HST := Lib.hid hst; clear hst hc
  go_enter Tryd.func55, Tryd.ntmps55
  go_wp2
  go_loopw [3, 9] (fun v i wr => ∃ (k : Nat) (xs : List ByteArray), k ≤ 3 ∧ i = .int .i64 k ∧ HostsAt b sv len w wr v xs k) (fun _ i _ => 3 - (intOf i).toNat)
  case atStart => exact ⟨0, [], Nat.zero_le _, rfl, HST.out⟩
  case round =>
    obtain ⟨k, xs, hk, rfl, hh⟩ := hrel
    by_cases hlt : k < 3
    · have hki : (k : Int) < 3 := by omega
      obtain ⟨s, hsz, cs⟩ : ∃ s : ByteArray, s.size ≤ 100 ∧ wr.cell? ⟨w.heap.size + 1, k, none⟩ = some (.string s) := by
        rcases (show k = 0 ∨ k = 1 ∨ k = 2 by omega) with rfl | rfl | rfl
        · exact ⟨_, by decide, box_cell hh.lit (j := 0) rfl⟩
        · exact ⟨_, by decide, box_cell hh.lit (j := 1) rfl⟩
        · exact ⟨_, by decide, box_cell hh.lit (j := 2) rfl⟩
      obtain ⟨g, n, c, rfl⟩ := hh.form
      have HH := Lib.hid hh; clear hh HST
      go_wp2_with fail
      refine (once_any b sv len 2 _ HH.out.cur).mono ?_
      rintro e w1 ⟨x, rfl, hc1, hk1⟩
      have hh1 := HH.out.on HLB.out hc1 hk1
      have HH1 := Lib.hid hh1; clear hc1 hk1 HH hh1 cs
      cases x with
      | false =>
        go_wp2_with fail
        go_roundw
        case rel => exact ⟨k + 1, xs, by omega, by go_num, ⟨HH1.out.own, HH1.out.form, HH1.out.apart, by have := HH1.out.few; omega, HH1.out.short, HH1.out.cur, HH1.out.kept, HH1.out.lit⟩⟩
        case measure => simp [intOf]; omega
      | true =>
        go_wp2_with (at_builtin; refine wpList_appSL rfl _ _ rfl w.heap.size _ xs rfl (HH1.out.own.alloc _) ⟨w1.heap.size, 0, none⟩ 1 _ s rfl (readsS_one w1 s) ?cl ?cB ?_)
        case cl => have := HH1.out.few; omega
        case cB => rw [size_alloc]; have := HH1.out.kept.size; omega
        intro g' n' c' w' hown hgr hblk hg'
        have hh1 := HH1.out
        have hsz1 : w.heap.size ≤ w1.heap.size := hh1.kept.size
        have hlit := heap_lt hh1.lit
        have hgB : w.heap.size ≤ g := (hh1.own.lt g rfl).1
        have hon : Below w1.heap.size w1 (w1.alloc (.cells #[.string s] 9)) := bl_aw (Below.refl _ _) _
        have hb2 : Below w.heap.size w1 w' := (hon.mono hsz1).grown hgr (by rw [size_alloc]; omega) fun q hq => by cases hq; exact hgB
        have HN := Lib.hid (show HostsAt b sv len w w' (.slice (some ⟨g', 0, none⟩) n' c') (xs ++ [s]) (k + 1) from ⟨by simpa using hown, ⟨_, _, _, rfl⟩, fun e => by
            have e2 : g' = w.heap.size + 1 := Option.some.inj e
            rcases hblk with h | h
            · exact hh1.apart (by rw [h, e2])
            · omega, by rw [List.length_append, List.length_singleton]; have := hh1.few; omega, fun x hx => by
            rcases List.mem_append.1 hx with h | h
            · exact hh1.short x h
            · rw [List.mem_singleton] at h; rw [h]; exact hsz, hh1.cur.keptLoP hb2 HLB.out, kept_belowP hh1.kept hb2 (Nat.le_refl _), by
            rw [hgr.block _ (by rw [size_alloc]; omega) (fun e => hh1.apart e.symm), hon.block _ hlit]; exact hh1.lit⟩)
        clear hown hgr hblk hg' hh1 hlit hgB hon hb2
        go_wp2_with fail
        go_roundw
        case rel => exact ⟨k + 1, _, by omega, by go_num, HN.out⟩
        case measure => simp [intOf]; omega
    · have hki : ¬ (k : Int) < 3 := by omega
      obtain ⟨g, n, c, rfl⟩ := hh.form
      have HH := Lib.hid hh; clear hh HST
      go_wp2_with fail
      go_ret
      exact ⟨_, _, _, xs, rfl, ⟨HH.out.own, fun q hq => (HH.out.own.lt q hq).2⟩, by have := HH.out.few; omega, HH.out.short, HH.out.cur, HH.out.kept⟩

/- DrQ -/
open Go.ChangeShapes Go.WideShapes Go.ChangeAt Go.RowKit

/-- A slice of strings that reads so, in a block from lo on. -/
def Rd1 (lo : Nat) (w : World) (v : Value) (xs : List ByteArray) : Prop := ReadsK encS 1 w.heap.size w v xs ∧ ∀ g, v.ownBlock = some g → lo ≤ g ∧ g < w.heap.size
theorem Rd1.only {lo : Nat} {w w' : World} {v : Value} {xs : List ByteArray} {bs : List Nat} (h : Rd1 lo w v xs) (hb : OnlyB bs w w') (hn : ∀ g, v.ownBlock = some g → g ∉ bs) : Rd1 lo w' v xs := by
  obtain ⟨⟨a, cap, rfl, h1, h2, h3, h4⟩, hl⟩ := h
  refine ⟨⟨a, cap, rfl, h1, h2, h3, ?_⟩, fun g hg => ⟨(hl g hg).1, Nat.lt_of_lt_of_le (hl g hg).2 hb.size⟩⟩
  rcases h4 with h4 | ⟨g, off, rfl, hg, hc⟩
  · exact Or.inl h4
  · exact Or.inr ⟨g, off, rfl, Nat.lt_of_lt_of_le hg hb.size, fun j x hj i hi => by rw [cell_only (a := ⟨g, off + j * 1 + i, none⟩) hb (hn g rfl) hg]; exact hc j x hj i hi⟩
theorem Rd1.kept {lo b : Nat} {w w' : World} {v : Value} {xs : List ByteArray} (h : Rd1 lo w v xs) (hk : Kept b w w') (hb : b < lo) : Rd1 lo w' v xs := h.only hk.only fun g hg hm => by rw [List.mem_singleton] at hm; have := (h.2 g hg).1; omega
theorem Rd1.later {lo : Nat} {w w' : World} {v : Value} {xs : List ByteArray} (h : Rd1 lo w v xs) (hb : Below w.heap.size w w') : Rd1 lo w' v xs := h.only (OnlyB.of_below hb []) fun _ _ hm => by cases hm
theorem Rd1.low {lo lo' : Nat} {w : World} {v : Value} {xs : List ByteArray} (h : Rd1 lo w v xs) (hl : lo' ≤ lo) : Rd1 lo' w v xs := ⟨h.1, fun g hg => ⟨Nat.le_trans hl (h.2 g hg).1, (h.2 g hg).2⟩⟩
theorem Rd1.of_own {lo hi : Nat} {w : World} {v : Value} {xs : List ByteArray} (h : OwnK encS 1 9 lo hi w v xs) : Rd1 lo w v xs := by
  have h2 : OwnK encS 1 9 lo w.heap.size w v xs := ⟨h.1, fun g hg => (h.lt g hg).2⟩
  exact ⟨h2.reads encS_len, fun g hg => h.lt g hg⟩
theorem Rd1.none (lo : Nat) (w : World) : Rd1 lo w (.slice none 0 0) [] := ⟨⟨_, 0, rfl, Nat.le_refl _, by omega, fun _ => rfl, Or.inl rfl⟩, fun g hg => by cases hg⟩
/-- How much a drawn policy holds. -/
structure FewP (xs ys zs : List ByteArray) (t : ByteArray) : Prop where
  n1 : xs.length ≤ 4
  n2 : ys.length ≤ 3
  n3 : zs.length ≤ 5
  s1 : ∀ x ∈ xs, x.size ≤ 100
  s2 : ∀ x ∈ ys, x.size ≤ 100
  s3 : ∀ x ∈ zs, x.size ≤ 100
  s4 : t.size ≤ 100
theorem sum_few : ∀ (xs : List ByteArray), (∀ x ∈ xs, x.size ≤ 100) → sumSt xs ≤ 100 * xs.length
  | [], _ => Nat.le_refl _
  | x :: xs, h => by
    have ih := sum_few xs fun y hy => h y (List.mem_cons_of_mem _ hy)
    have := h x List.mem_cons_self
    unfold sumSt at ih ⊢
    rw [List.map_cons, List.sum_cons, List.length_cons]; omega
theorem FewP.sm {xs ys zs : List ByteArray} {t : ByteArray} (h : FewP xs ys zs t) (b : Bool) : PolSm ⟨b, xs, ys, zs, t⟩ := by
  have h1 := sum_few xs h.s1; have h2 := sum_few ys h.s2; have h3 := sum_few zs h.s3
  have k1 := h.n1; have k2 := h.n2; have k3 := h.n3; have k4 := h.s4
  exact ⟨by show xs.length + sumSt xs ≤ _; omega, by show ys.length + sumSt ys ≤ _; omega, by show zs.length + sumSt zs ≤ _; omega, by show t.size ≤ _; omega⟩
/-- What l9Policy draws. -/
def PolGot (b : Nat) (sv : Value) (len : Nat) (w : World) (e : Ending) (w' : World) : Prop :=
  ∃ (bo : Bool) (a1 : Option Addr) (n1 c1 : Nat) (a2 : Option Addr) (n2 c2 : Nat) (a3 : Option Addr) (n3 c3 : Nat) (xs ys zs : List ByteArray) (t : ByteArray) (h1 : Nat), e = .returned (.agg #[.bool bo, .slice a1 n1 c1, .slice a2 n2 c2, .slice a3 n3 c3, .string t]) ∧ OwnK encS 1 9 w.heap.size h1 w' (.slice a1 n1 c1) xs ∧ w.heap.size ≤ h1 ∧ Rd1 h1 w' (.slice a2 n2 c2) ys ∧ Rd1 h1 w' (.slice a3 n3 c3) zs ∧ FewP xs ys zs t ∧ xs.length ≤ 3 ∧ Cur b sv len w' ∧ Kept b w w'
/-- What l9Any draws. -/
def AnyGotP (b : Nat) (sv : Value) (len : Nat) (w : World) (e : Ending) (w' : World) : Prop :=
  ∃ (bo : Bool) (a1 : Option Addr) (n1 c1 : Nat) (a2 : Option Addr) (n2 c2 : Nat) (a3 : Option Addr) (n3 c3 : Nat) (xs ys zs : List ByteArray) (t : ByteArray), e = .returned (.agg #[.bool bo, .slice a1 n1 c1, .slice a2 n2 c2, .slice a3 n3 c3, .string t]) ∧ Rd1 w.heap.size w' (.slice a1 n1 c1) xs ∧ Rd1 w.heap.size w' (.slice a2 n2 c2) ys ∧ Rd1 w.heap.size w' (.slice a3 n3 c3) zs ∧ FewP xs ys zs t ∧ Cur b sv len w' ∧ Kept b w w'

set_option maxRecDepth 100000 in
set_option maxHeartbeats 4000000 in
theorem policy_any (b : Nat) (sv : Value) (len : Nat) (w : World) (hc : Cur b sv len w) :
    Calls Tryd.prog 46 #[.pointer (some ⟨b, 0, none⟩)] w (PolGot b sv len w) := by
  have HLB := Lib.hid hc.lt
  obtain ⟨W0, hW0⟩ : ∃ x, w.alloc (.cells #[.bool false, .slice none 0 0, .slice none 0 0, .slice none 0 0, .string ⟨#[]⟩] 26) = x := ⟨_, rfl⟩
  have HK0 := Lib.hid (show Kept b w W0 by rw [← hW0]; exact Kept.alloc b w _)
  have HC0 := Lib.hid (show Cur b sv len W0 by rw [← hW0]; exact hc.alloc _)
  have H0 := Lib.hid (show W0.heap[w.heap.size]? = some (.cells #[.bool false, .slice none 0 0, .slice none 0 0, .slice none 0 0, .string ⟨#[]⟩] 26 (0, 0)) by rw [← hW0]; exact heap_alloc_new w _)
  have HW0 := Lib.hid hW0; clear hW0 hc
  go_enter Tryd.func46, Tryd.ntmps46
  go_wp2_with fail
  rw [HW0.out]
  refine (once_any b sv len 2 _ HC0.out).mono ?_
  rintro e w1 ⟨x, rfl, hc1, hk1⟩
  have HBX1 := Lib.hid (show w1.heap[w.heap.size]? = _ from (hk1.block _ (heap_lt H0.out) (by have := HLB.out; omega)).trans H0.out)
  have HK := Lib.hid (HK0.out.trans hk1); have HCU := Lib.hid hc1; clear hc1 hk1
  cases x with
  | true =>
    have y0 := box_cell HBX1.out (j := 0) rfl; have x0 := box_frz HBX1.out 0
    have y1 := box_cell HBX1.out (j := 1) rfl; have x1 := box_frz HBX1.out 1
    have y2 := box_cell HBX1.out (j := 2) rfl; have x2 := box_frz HBX1.out 2
    have y3 := box_cell HBX1.out (j := 3) rfl; have x3 := box_frz HBX1.out 3
    have y4 := box_cell HBX1.out (j := 4) rfl; have x4 := box_frz HBX1.out 4
    go_wp2_with fail
    obtain ⟨w9, hw9⟩ : ∃ x, (((((w1.setCell ⟨w.heap.size, 0, none⟩ (.bool false)).setCell ⟨w.heap.size, 1, none⟩ (.slice none 0 0)).setCell ⟨w.heap.size, 2, none⟩ (.slice none 0 0)).setCell ⟨w.heap.size, 3, none⟩ (.slice none 0 0)).setCell ⟨w.heap.size, 4, none⟩ (.string ⟨#[]⟩)) = x := ⟨_, rfl⟩
    rw [hw9]
    have hon : OnlyB [w.heap.size] w1 w9 := by rw [← hw9]; exact set5_only w1 w.heap.size _ _ _ _ _
    have hb9 := set5_box HBX1.out (.bool false) (.slice none 0 0) (.slice none 0 0) (.slice none 0 0) (.string ⟨#[]⟩)
    rw [show set5 w1 w.heap.size (.bool false) (.slice none 0 0) (.slice none 0 0) (.slice none 0 0) (.string ⟨#[]⟩) = w9 from hw9] at hb9
    have r0 := box_cell hb9 (j := 0) rfl
    have r1 := box_cell hb9 (j := 1) rfl
    have r2 := box_cell hb9 (j := 2) rfl
    have r3 := box_cell hb9 (j := 3) rfl
    have r4 := box_cell hb9 (j := 4) rfl
    refine bodyPost_ret (v := .agg #[.bool false, .slice none 0 0, .slice none 0 0, .slice none 0 0, .string ⟨#[]⟩]) (by simp [results, Tryd.results46, go_sem, r0, r1, r2, r3, r4]) rfl ?_
    have hbl9 : Below w.heap.size w1 w9 := hon.below (fun i hi => by rw [List.mem_singleton] at hi; omega) HK.out.size
    have HN9 := Lib.hid (show ∀ g, w.heap.size < g → g ∉ [w.heap.size] from fun g hg hm => by rw [List.mem_singleton] at hm; omega)
    exact ⟨false, none, 0, 0, none, 0, 0, none, 0, 0, [], [], [], ⟨#[]⟩, w.heap.size, rfl, ⟨World.ownsRow_nil _ _ _ _, fun g hg => by cases hg⟩, Nat.le_refl _, Rd1.none _ _, Rd1.none _ _, ⟨by decide, by decide, by decide, (fun _ h => by cases h), (fun _ h => by cases h), (fun _ h => by cases h), by decide⟩, by decide, HCU.out.keptLoP hbl9 HLB.out, kept_belowP HK.out hbl9 (Nat.le_refl _)⟩
  | false =>
    go_wp2_with fail
    refine (hosts_any b sv len _ HCU.out).mono ?_
    rintro e w2 ⟨a1, n1, c1, xs, rfl, ho1, hl1, hs1, hc1, hk1⟩
    have HBX2 := Lib.hid (show w2.heap[w.heap.size]? = _ from (hk1.block _ (heap_lt HBX1.out) (by have := HLB.out; omega)).trans HBX1.out)
    have HO1 := Lib.hid ho1; have HL1 := Lib.hid hl1; have HS1 := Lib.hid hs1
    have HSZ1 := Lib.hid (show w.heap.size < w1.heap.size from heap_lt HBX1.out)
    have HGR1 := Lib.hid hk1.size
    replace HK := Lib.hid (HK.out.trans hk1); replace HCU := Lib.hid hc1; clear ho1 hl1 hs1 hc1 hk1
    go_wp2_with fail
    refine (hosts_any b sv len _ HCU.out).mono ?_
    rintro e w3 ⟨a2, n2, c2, ys, rfl, ho2, hl2, hs2, hc2, hk2⟩
    have HBX3 := Lib.hid (show w3.heap[w.heap.size]? = _ from (hk2.block _ (heap_lt HBX2.out) (by have := HLB.out; omega)).trans HBX2.out)
    replace HO1 := Lib.hid (ownK_keptP HO1.out hk2 (by have := HLB.out; have := HSZ1.out; omega))
    have HO2 := Lib.hid ho2; have HL2 := Lib.hid hl2; have HS2 := Lib.hid hs2
    have HSZ2 := Lib.hid (show w.heap.size < w2.heap.size from heap_lt HBX2.out)
    have HGR2 := Lib.hid hk2.size
    replace HK := Lib.hid (HK.out.trans hk2); replace HCU := Lib.hid hc2; clear ho2 hl2 hs2 hc2 hk2
    go_wp2_with fail
    refine (hosts_any b sv len _ HCU.out).mono ?_
    rintro e w4 ⟨a3, n3, c3, zs, rfl, ho3, hl3, hs3, hc3, hk3⟩
    have HBX4 := Lib.hid (show w4.heap[w.heap.size]? = _ from (hk3.block _ (heap_lt HBX3.out) (by have := HLB.out; omega)).trans HBX3.out)
    replace HO1 := Lib.hid (ownK_keptP HO1.out hk3 (by have := HLB.out; have := HSZ1.out; omega))
    replace HO2 := Lib.hid (ownK_keptP HO2.out hk3 (by have := HLB.out; have := HSZ2.out; omega))
    have HO3 := Lib.hid ho3; have HL3 := Lib.hid hl3; have HS3 := Lib.hid hs3
    have HSZ3 := Lib.hid (show w.heap.size < w3.heap.size from heap_lt HBX3.out)
    have HGR3 := Lib.hid hk3.size
    replace HK := Lib.hid (HK.out.trans hk3); replace HCU := Lib.hid hc3; clear ho3 hl3 hs3 hc3 hk3
    go_upto_region 4 with (fail)
    obtain ⟨w5, hw5⟩ : ∃ x, w4.alloc (.cells #[.bool true, .slice a1 n1 c1, .slice a2 n2 c2, .slice a3 n3 c3, .string ⟨#[]⟩] 26) = x := ⟨_, rfl⟩
    rw [hw5]
    have hb5 : Below w4.heap.size w4 w5 := by rw [← hw5]; exact bl_aw (Below.refl _ _) _
    have hx5 : w5.heap[w4.heap.size]? = some (.cells #[.bool true, .slice a1 n1 c1, .slice a2 n2 c2, .slice a3 n3 c3, .string ⟨#[]⟩] 26 (0, 0)) := by rw [← hw5]; exact heap_alloc_new w4 _
    have HBX5 := Lib.hid (below_heap hb5 (heap_lt HBX4.out) HBX4.out)
    replace HK := Lib.hid (HK.out.trans (Kept.of_below hb5)); replace HCU := Lib.hid (HCU.out.below hb5)
    replace HO1 := Lib.hid (HO1.out.later hb5)
    replace HO2 := Lib.hid (HO2.out.later hb5)
    replace HO3 := Lib.hid (HO3.out.later hb5)
    clear hb5 hw5
    have hbc : b < w4.heap.size := by have := HLB.out; have := HSZ3.out; have := HGR3.out; omega
    go_wp2_with fail
    refine (once_any b sv len 2 _ HCU.out).mono ?_
    rintro e w6 ⟨y, rfl, hc6, hk6⟩
    have hx6 : w6.heap[w4.heap.size]? = some (.cells #[.bool true, .slice a1 n1 c1, .slice a2 n2 c2, .slice a3 n3 c3, .string ⟨#[]⟩] 26 (0, 0)) := (hk6.block _ (heap_lt hx5) (by omega)).trans hx5
    have HBX6 := Lib.hid (show w6.heap[w.heap.size]? = _ from (hk6.block _ (heap_lt HBX5.out) (by have := HLB.out; omega)).trans HBX5.out)
    replace HK := Lib.hid (HK.out.trans hk6); replace HCU := Lib.hid hc6
    replace HO1 := Lib.hid (ownK_keptP HO1.out hk6 (by have := HLB.out; have := HSZ1.out; omega))
    replace HO2 := Lib.hid (ownK_keptP HO2.out hk6 (by have := HLB.out; have := HSZ2.out; omega))
    replace HO3 := Lib.hid (ownK_keptP HO3.out hk6 (by have := HLB.out; have := HSZ3.out; omega))
    clear hx5 hc6 hk6
    cases y with
    | false =>
      have q0 := box_cell hx6 (j := 0) rfl
      have q1 := box_cell hx6 (j := 1) rfl
      have q2 := box_cell hx6 (j := 2) rfl
      have q3 := box_cell hx6 (j := 3) rfl
      have q4 := box_cell hx6 (j := 4) rfl
      clear hx6
      have y0 := box_cell HBX6.out (j := 0) rfl; have x0 := box_frz HBX6.out 0
      have y1 := box_cell HBX6.out (j := 1) rfl; have x1 := box_frz HBX6.out 1
      have y2 := box_cell HBX6.out (j := 2) rfl; have x2 := box_frz HBX6.out 2
      have y3 := box_cell HBX6.out (j := 3) rfl; have x3 := box_frz HBX6.out 3
      have y4 := box_cell HBX6.out (j := 4) rfl; have x4 := box_frz HBX6.out 4
      go_wp2_with fail
      obtain ⟨w9, hw9⟩ : ∃ x, (((((w6.setCell ⟨w.heap.size, 0, none⟩ (.bool true)).setCell ⟨w.heap.size, 1, none⟩ (.slice a1 n1 c1)).setCell ⟨w.heap.size, 2, none⟩ (.slice a2 n2 c2)).setCell ⟨w.heap.size, 3, none⟩ (.slice a3 n3 c3)).setCell ⟨w.heap.size, 4, none⟩ (.string ⟨#[]⟩)) = x := ⟨_, rfl⟩
      rw [hw9]
      have hon : OnlyB [w.heap.size] w6 w9 := by rw [← hw9]; exact set5_only w6 w.heap.size _ _ _ _ _
      have hb9 := set5_box HBX6.out (.bool true) (.slice a1 n1 c1) (.slice a2 n2 c2) (.slice a3 n3 c3) (.string ⟨#[]⟩)
      rw [show set5 w6 w.heap.size (.bool true) (.slice a1 n1 c1) (.slice a2 n2 c2) (.slice a3 n3 c3) (.string ⟨#[]⟩) = w9 from hw9] at hb9
      have r0 := box_cell hb9 (j := 0) rfl
      have r1 := box_cell hb9 (j := 1) rfl
      have r2 := box_cell hb9 (j := 2) rfl
      have r3 := box_cell hb9 (j := 3) rfl
      have r4 := box_cell hb9 (j := 4) rfl
      refine bodyPost_ret (v := .agg #[.bool true, .slice a1 n1 c1, .slice a2 n2 c2, .slice a3 n3 c3, .string ⟨#[]⟩]) (by simp [results, Tryd.results46, go_sem, r0, r1, r2, r3, r4]) rfl ?_
      have hbl9 : Below w.heap.size w6 w9 := hon.below (fun i hi => by rw [List.mem_singleton] at hi; omega) HK.out.size
      have HN9 := Lib.hid (show ∀ g, w.heap.size < g → g ∉ [w.heap.size] from fun g hg hm => by rw [List.mem_singleton] at hm; omega)
      exact ⟨true, a1, n1, c1, a2, n2, c2, a3, n3, c3, xs, ys, zs, ⟨#[]⟩, w2.heap.size, rfl, ownK_only (HO1.out.mono (Nat.le_of_lt HSZ1.out) (Nat.le_refl _)) hon (fun g hg => HN9.out g (by have := (HO1.out.lt g hg).1; have := HSZ1.out; omega)), Nat.le_of_lt HSZ2.out, (Rd1.of_own HO2.out).only hon (fun g hg => HN9.out g (by have := (HO2.out.lt g hg).1; have := HSZ2.out; omega)), ((Rd1.of_own HO3.out).low HGR2.out).only hon (fun g hg => HN9.out g (by have := (HO3.out.lt g hg).1; have := HSZ3.out; omega)), ⟨by have := HL1.out; omega, HL2.out, by have := HL3.out; omega, HS1.out, HS2.out, HS3.out, by decide⟩, HL1.out, HCU.out.keptLoP hbl9 HLB.out, kept_belowP HK.out hbl9 (Nat.le_refl _)⟩
    | true =>
      have q0 := box_cell hx6 (j := 0) rfl; have z0 := box_frz hx6 0
      have q1 := box_cell hx6 (j := 1) rfl; have z1 := box_frz hx6 1
      have q2 := box_cell hx6 (j := 2) rfl; have z2 := box_frz hx6 2
      have q3 := box_cell hx6 (j := 3) rfl; have z3 := box_frz hx6 3
      have q4 := box_cell hx6 (j := 4) rfl; have z4 := box_frz hx6 4
      go_upto_region 6 with (fail)
      obtain ⟨w7, hw7⟩ : ∃ x, w6.setCell ⟨w4.heap.size, 4, none⟩ (.string ⟨#[110, 55]⟩) = x := ⟨_, rfl⟩
      rw [hw7]
      have hon7 : OnlyB [w4.heap.size] w6 w7 := by rw [← hw7]; exact (OnlyB.refl _ w6).set (by simp)
      have hx7 := heap_one (o := 4) hx6 (.string ⟨#[110, 55]⟩); rw [hw7] at hx7
      have HX7 := Lib.hid (show w7.heap[w4.heap.size]? = some (.cells #[.bool true, .slice a1 n1 c1, .slice a2 n2 c2, .slice a3 n3 c3, .string ⟨#[110, 55]⟩] 26 (0, 0)) from hx7)
      have HBX7 := Lib.hid (show w7.heap[w.heap.size]? = _ from (hon7.block _ (heap_lt HBX6.out) (by rw [List.mem_singleton]; have := HSZ3.out; have := HGR3.out; omega)).trans HBX6.out)
      have hbl7 : Below w4.heap.size w6 w7 := hon7.below (fun i hi => by rw [List.mem_singleton] at hi; omega) (Nat.le_of_lt (heap_lt hx6))
      replace HCU := Lib.hid (HCU.out.keptLoP hbl7 hbc); replace HK := Lib.hid (kept_belowP HK.out (hbl7.mono (Nat.le_of_lt (by have := HSZ3.out; have := HGR3.out; omega))) (Nat.le_refl _))
      replace HO1 := Lib.hid (ownK_only HO1.out hon7 (fun g hg hm => by rw [List.mem_singleton] at hm; have := HO1.out.2 g hg; have := HGR2.out; have := HGR3.out; omega))
      replace HO2 := Lib.hid (ownK_only HO2.out hon7 (fun g hg hm => by rw [List.mem_singleton] at hm; have := HO2.out.2 g hg; have := HGR3.out; omega))
      replace HO3 := Lib.hid (ownK_only HO3.out hon7 (fun g hg hm => by rw [List.mem_singleton] at hm; have := HO3.out.2 g hg; omega))
      clear hx6 hx7 hw7 hon7 hbl7 q0 q1 q2 q3 q4 z0 z1 z2 z3 z4
      have q0 := box_cell HX7.out (j := 0) rfl
      have q1 := box_cell HX7.out (j := 1) rfl
      have q2 := box_cell HX7.out (j := 2) rfl
      have q3 := box_cell HX7.out (j := 3) rfl
      have q4 := box_cell HX7.out (j := 4) rfl
      have y0 := box_cell HBX7.out (j := 0) rfl; have x0 := box_frz HBX7.out 0
      have y1 := box_cell HBX7.out (j := 1) rfl; have x1 := box_frz HBX7.out 1
      have y2 := box_cell HBX7.out (j := 2) rfl; have x2 := box_frz HBX7.out 2
      have y3 := box_cell HBX7.out (j := 3) rfl; have x3 := box_frz HBX7.out 3
      have y4 := box_cell HBX7.out (j := 4) rfl; have x4 := box_frz HBX7.out 4
      go_wp2_with fail
      obtain ⟨w9, hw9⟩ : ∃ x, (((((w7.setCell ⟨w.heap.size, 0, none⟩ (.bool true)).setCell ⟨w.heap.size, 1, none⟩ (.slice a1 n1 c1)).setCell ⟨w.heap.size, 2, none⟩ (.slice a2 n2 c2)).setCell ⟨w.heap.size, 3, none⟩ (.slice a3 n3 c3)).setCell ⟨w.heap.size, 4, none⟩ (.string ⟨#[110, 55]⟩)) = x := ⟨_, rfl⟩
      rw [hw9]
      have hon : OnlyB [w.heap.size] w7 w9 := by rw [← hw9]; exact set5_only w7 w.heap.size _ _ _ _ _
      have hb9 := set5_box HBX7.out (.bool true) (.slice a1 n1 c1) (.slice a2 n2 c2) (.slice a3 n3 c3) (.string ⟨#[110, 55]⟩)
      rw [show set5 w7 w.heap.size (.bool true) (.slice a1 n1 c1) (.slice a2 n2 c2) (.slice a3 n3 c3) (.string ⟨#[110, 55]⟩) = w9 from hw9] at hb9
      have r0 := box_cell hb9 (j := 0) rfl
      have r1 := box_cell hb9 (j := 1) rfl
      have r2 := box_cell hb9 (j := 2) rfl
      have r3 := box_cell hb9 (j := 3) rfl
      have r4 := box_cell hb9 (j := 4) rfl
      refine bodyPost_ret (v := .agg #[.bool true, .slice a1 n1 c1, .slice a2 n2 c2, .slice a3 n3 c3, .string ⟨#[110, 55]⟩]) (by simp [results, Tryd.results46, go_sem, r0, r1, r2, r3, r4]) rfl ?_
      have hbl9 : Below w.heap.size w7 w9 := hon.below (fun i hi => by rw [List.mem_singleton] at hi; omega) HK.out.size
      have HN9 := Lib.hid (show ∀ g, w.heap.size < g → g ∉ [w.heap.size] from fun g hg hm => by rw [List.mem_singleton] at hm; omega)
      exact ⟨true, a1, n1, c1, a2, n2, c2, a3, n3, c3, xs, ys, zs, ⟨#[110, 55]⟩, w2.heap.size, rfl, ownK_only (HO1.out.mono (Nat.le_of_lt HSZ1.out) (Nat.le_refl _)) hon (fun g hg => HN9.out g (by have := (HO1.out.lt g hg).1; have := HSZ1.out; omega)), Nat.le_of_lt HSZ2.out, (Rd1.of_own HO2.out).only hon (fun g hg => HN9.out g (by have := (HO2.out.lt g hg).1; have := HSZ2.out; omega)), ((Rd1.of_own HO3.out).low HGR2.out).only hon (fun g hg => HN9.out g (by have := (HO3.out.lt g hg).1; have := HSZ3.out; omega)), ⟨by have := HL1.out; omega, HL2.out, by have := HL3.out; omega, HS1.out, HS2.out, HS3.out, by decide⟩, HL1.out, HCU.out.keptLoP hbl9 HLB.out, kept_belowP HK.out hbl9 (Nat.le_refl _)⟩

/- DrR -/
open Go.ChangeShapes Go.WideShapes Go.ChangeAt Go.RowKit

theorem cells_blkS {w : World} {g : Nat} {C : Array Value} {T : TypeId} (m : Nat) (hq : w.heap[g]? = some (.cells C T (0, 0))) (hm : C.size = m) (h : C.all strCell = true) : ∀ j, j < m → ∃ s : ByteArray, s.size ≤ 100 ∧ w.cell? ⟨g, j, none⟩ = some (.string s) := by
  subst hm
  intro j hj
  have h1 : strCell C[j] = true := by rw [Array.all_eq_true] at h; exact h j hj
  have h2 : w.cell? ⟨g, j, none⟩ = some C[j] := box_cell hq (by simp [hj])
  rw [h2]
  cases hc : C[j] with
  | string s => rw [hc] at h1; simp only [strCell, decide_eq_true_eq] at h1; exact ⟨s, h1, rfl⟩
  | _ => rw [hc] at h1; simp [strCell] at h1
theorem readsS_blk {w : World} {g : Nat} {s : ByteArray} (hg : w.heap[g]? = some (.cells #[.string s] 9 (0, 0))) : ReadsK encS 1 (g + 1) w (.slice (some ⟨g, 0, none⟩) 1 1) [s] := by
  refine ⟨_, 1, rfl, by simp, by omega, (fun h => by cases h), Or.inr ⟨_, 0, rfl, by omega, fun j x hj i hi => ?_⟩⟩
  have : j = 0 := by have := (List.getElem?_eq_some_iff.1 hj).1; simp at this; omega
  subst this
  obtain rfl : i = 0 := by omega
  cases hj
  exact box_cell hg rfl
theorem readsS_5 {w : World} {g : Nat} {s1 s2 s3 s4 s5 : ByteArray} (hg : w.heap[g]? = some (.cells #[.string s1, .string s2, .string s3, .string s4, .string s5] 9 (0, 0))) : ReadsK encS 1 (g + 1) w (.slice (some ⟨g, 0, none⟩) 5 5) [s1, s2, s3, s4, s5] := by
  refine ⟨_, 5, rfl, by simp, by omega, (fun h => by cases h), Or.inr ⟨_, 0, rfl, by omega, fun j x hj i hi => ?_⟩⟩
  obtain rfl : i = 0 := by omega
  match j, hj with
  | 0, hj => cases hj; exact box_cell hg rfl
  | 1, hj => cases hj; exact box_cell hg rfl
  | 2, hj => cases hj; exact box_cell hg rfl
  | 3, hj => cases hj; exact box_cell hg rfl
  | 4, hj => cases hj; exact box_cell hg rfl
theorem step_appSL {w : World} {ops : Array Oper} {o : Oper} {a : Act} {K : Act → World → Prop} {Q : Exit → Act → World → Prop} {E : Prop} (hgd : o.guard = none) (s x : Operand)
    (ho : o.op = .call { callee := .builtin .append, args := #[s, x], argTypes := #[24, 24] })
    (B : Nat) (v : Value) (xs : List ByteArray) (hs : a.eval s = v) (hown : w.ownsRow B 9 1 v xs.length (xs.flatMap encS)) (ad : Addr) (c : Nat) (top : Nat) (y : ByteArray) (hx : a.eval x = .slice (some ad) 1 c) (hr : ReadsK encS 1 top w (.slice (some ad) 1 c) [y])
    (hlen : xs.length ≤ 1000) (hB : B ≤ w.heap.size)
    (h : ∀ g n cap w', w'.ownsRow B 9 1 (.slice (some ⟨g, 0, none⟩) n cap) (xs ++ [y]).length ((xs ++ [y]).flatMap encS) → w.grownBy w' v.ownBlock → (v.ownBlock = some g ∨ g = w.heap.size) → g < w'.heap.size → K (a.put o.dst (.slice (some ⟨g, 0, none⟩) n cap)) w') :
    if Region.wanted o (yielded ops a.tmps) = true then Oper.wp Tryd.prog o a w K Q else E := by
  obtain ⟨i, hi, hz, hsize, hby⟩ := info_parts infoStr
  refine step_append_lies _ hgd s x _ ho B _ i _ 1 16 Tryd.underlying24 hi hz hsize hby (by rfl) (by decide) v xs.length _ hs hown ad 1 c ([y].flatMap encS) hx (by rfl) (hr.news encS_len) ?_ (by decide) (by unfold maxLen; omega) (by omega) hB w.heap.size rfl ?_
  · intro u hu
    obtain ⟨z, _, hz⟩ := List.mem_flatMap.1 hu
    exact encS_one z u hz
  · intro g cap w' h1 h2 h3 h4
    refine h g _ cap w' ?_ h2 h3 h4
    rw [List.flatMap_append, List.length_append, List.length_singleton]; exact h1
/-- A drawn policy in a box of its own, the box of the answer. -/
structure PAt (b : Nat) (sv : Value) (len : Nat) (w W : World) (c h1 : Nat) (bo : Bool) (v1 v2 v3 : Value) (t : ByteArray) (xs ys zs : List ByteArray) : Prop where
  lb : b < w.heap.size
  lc : w.heap.size < c
  cur : Cur b sv len W
  kept : Kept b w W
  o1 : OwnK encS 1 9 (w.heap.size + 1) h1 W v1 xs
  r2 : Rd1 h1 W v2 ys
  r3 : Rd1 h1 W v3 zs
  lh : w.heap.size + 1 ≤ h1
  a1 : v1.ownBlock ≠ some c
  a2 : v2.ownBlock ≠ some c
  a3 : v3.ownBlock ≠ some c
  bx : W.heap[w.heap.size]? = some (.cells #[.bool false, .slice none 0 0, .slice none 0 0, .slice none 0 0, .string ⟨#[]⟩] 26 (0, 0))
  bc : W.heap[c]? = some (.cells #[.bool bo, v1, v2, v3, .string t] 26 (0, 0))
section
variable {b : Nat} {sv : Value} {len : Nat} {w W W' : World} {c h1 : Nat} {bo : Bool} {v1 v2 v3 : Value} {t : ByteArray} {xs ys zs : List ByteArray}
theorem PAt.draw (h : PAt b sv len w W c h1 bo v1 v2 v3 t xs ys zs) (hc : Cur b sv len W') (hk : Kept b W W') : PAt b sv len w W' c h1 bo v1 v2 v3 t xs ys zs := by
  have lb := h.lb; have lc := h.lc; have lh := h.lh
  exact ⟨lb, lc, hc, h.kept.trans hk, ownK_keptP h.o1 hk (by omega), h.r2.kept hk (by omega), h.r3.kept hk (by omega), lh, h.a1, h.a2, h.a3, (hk.block _ (heap_lt h.bx) (by omega)).trans h.bx, (hk.block _ (heap_lt h.bc) (by omega)).trans h.bc⟩
theorem PAt.on (h : PAt b sv len w W c h1 bo v1 v2 v3 t xs ys zs) (hb : Below W.heap.size W W') : PAt b sv len w W' c h1 bo v1 v2 v3 t xs ys zs := h.draw (h.cur.below hb) (Kept.of_below hb)
/-- A string more among the first hosts. -/
theorem PAt.app (h : PAt b sv len w W c h1 bo v1 v2 v3 t xs ys zs) {g n k : Nat} {s : ByteArray} (hown : W'.ownsRow (w.heap.size + 1) 9 1 (.slice (some ⟨g, 0, none⟩) n k) (xs ++ [s]).length ((xs ++ [s]).flatMap encS)) (hg : W.grownBy W' v1.ownBlock) (hl : v1.ownBlock = some g ∨ g = W.heap.size) :
    Cur b sv len W' ∧ Kept b w W' ∧ Rd1 (w.heap.size + 1) W' (.slice (some ⟨g, 0, none⟩) n k) (xs ++ [s]) ∧ Rd1 h1 W' v2 ys ∧ Rd1 h1 W' v3 zs ∧ g ≠ c ∧ W'.heap[w.heap.size]? = some (.cells #[.bool false, .slice none 0 0, .slice none 0 0, .slice none 0 0, .string ⟨#[]⟩] 26 (0, 0)) ∧ W'.heap[c]? = some (.cells #[.bool bo, v1, v2, v3, .string t] 26 (0, 0)) := by
  have lb := h.lb; have lc := h.lc; have lh := h.lh
  have hon := OnlyB.of_grown hg
  have hbl : Below (w.heap.size + 1) W W' := hon.below (fun i hi => by
    cases hv : v1.ownBlock with
    | none => rw [hv] at hi; cases hi
    | some q => rw [hv] at hi; have := (h.o1.lt q hv).1; have : i = q := by simpa using hi
                omega) (Nat.le_trans (Nat.succ_le_of_lt (heap_lt h.bx)) (Nat.le_refl _))
  have far : ∀ q, h1 ≤ q → q ∉ v1.ownBlock.toList := fun q hq hm => by
    have hv : v1.ownBlock = some q := by simpa using hm
    have := h.o1.2 q hv; omega
  refine ⟨h.cur.keptLoP hbl (by omega), kept_belowP h.kept hbl (by omega), Rd1.of_own (hi := W'.heap.size) ⟨hown, fun q hq => (hown.lt q hq).2⟩, h.r2.only hon fun q hq => far q (h.r2.2 q hq).1, h.r3.only hon fun q hq => far q (h.r3.2 q hq).1, ?_, (hbl.block _ (by omega)).trans h.bx, (hg.block _ (heap_lt h.bc) (fun e => h.a1 e.symm)).trans h.bc⟩
  rcases hl with hl | hl
  · exact fun e => h.a1 (by rw [hl, e])
  · have := heap_lt h.bc; omega
end

set_option maxRecDepth 100000 in
set_option maxHeartbeats 16000000 in
theorem any9_any (b : Nat) (sv : Value) (len : Nat) (w : World) (hc : Cur b sv len w) :
    Calls Tryd.prog 29 #[.pointer (some ⟨b, 0, none⟩)] w (AnyGotP b sv len w) := by
  have HLB := Lib.hid hc.lt
  obtain ⟨W0, hW0⟩ : ∃ x, w.alloc (.cells #[.bool false, .slice none 0 0, .slice none 0 0, .slice none 0 0, .string ⟨#[]⟩] 26) = x := ⟨_, rfl⟩
  have hs0 : W0.heap.size = w.heap.size + 1 := by rw [← hW0, size_alloc]
  have HK0 := Lib.hid (show Kept b w W0 by rw [← hW0]; exact Kept.alloc b w _)
  have HC0 := Lib.hid (show Cur b sv len W0 by rw [← hW0]; exact hc.alloc _)
  have H0 := Lib.hid (show W0.heap[w.heap.size]? = some (.cells #[.bool false, .slice none 0 0, .slice none 0 0, .slice none 0 0, .string ⟨#[]⟩] 26 (0, 0)) by rw [← hW0]; exact heap_alloc_new w _)
  have HW0 := Lib.hid hW0; clear hW0 hc
  go_enter Tryd.func29, Tryd.ntmps29
  go_wp2_with fail
  rw [HW0.out]
  refine (policy_any b sv len _ HC0.out).mono ?_
  rintro e w1 ⟨bo, a1, n1, c1, a2, n2, c2, a3, n3, c3, xs, ys, zs, t, h1, rfl, ho1, hh1, hr2, hr3, hfew, hx3, hc1, hk1⟩
  rw [hs0] at ho1 hh1
  have hlt1 : ∀ g, (Value.slice a1 n1 c1).ownBlock = some g → g < w1.heap.size := fun g hg => (ho1.lt g hg).2
  go_upto_region 2 with (fail)
  obtain ⟨w2, hw2⟩ : ∃ x, w1.alloc (.cells #[.bool bo, .slice a1 n1 c1, .slice a2 n2 c2, .slice a3 n3 c3, .string t] 26) = x := ⟨_, rfl⟩
  rw [hw2]
  have hb2 : Below w1.heap.size w1 w2 := by rw [← hw2]; exact bl_aw (Below.refl _ _) _
  have hx2 : w2.heap[w1.heap.size]? = some (.cells #[.bool bo, .slice a1 n1 c1, .slice a2 n2 c2, .slice a3 n3 c3, .string t] 26 (0, 0)) := by rw [← hw2]; exact heap_alloc_new w1 _
  have hbx1 : w1.heap[w.heap.size]? = some (.cells #[.bool false, .slice none 0 0, .slice none 0 0, .slice none 0 0, .string ⟨#[]⟩] 26 (0, 0)) := (hk1.block _ (heap_lt H0.out) (by have := HLB.out; omega)).trans H0.out
  have HP2 := Lib.hid (show PAt b sv len w w2 w1.heap.size h1 bo (.slice a1 n1 c1) (.slice a2 n2 c2) (.slice a3 n3 c3) t xs ys zs from ⟨HLB.out, heap_lt hbx1, hc1.below hb2, (HK0.out.trans hk1).trans (Kept.of_below hb2), ho1.later hb2, hr2.later hb2, hr3.later hb2, hh1, fun e => absurd (hlt1 _ e) (Nat.lt_irrefl _), fun e => absurd (hr2.2 _ e).2 (Nat.lt_irrefl _), fun e => absurd (hr3.2 _ e).2 (Nat.lt_irrefl _), below_heap hb2 (heap_lt hbx1) hbx1, hx2⟩)
  have HF := Lib.hid hfew; have HX3 := Lib.hid hx3; clear hb2 hx2 hbx1 hlt1 ho1 hh1 hr2 hr3 hfew hx3 hc1 hk1 hw2 hs0
  obtain ⟨c, hc⟩ : ∃ x, w1.heap.size = x := ⟨_, rfl⟩
  rw [hc] at HP2 ⊢; clear hc
  go_wp2_with fail
  refine (below_any b sv len 12 _ HP2.out.cur).mono ?_
  rintro e w3 ⟨x, rfl, hx0, hx1, _, hc3, ho3⟩
  have HP := Lib.hid (HP2.out.draw hc3 ho3.kept); clear hc3 ho3 HP2 hx1
  have hcs := heap_lt HP.out.bc
  have hlc := HP.out.lc; have hlb := HP.out.lb
  by_cases e0 : x = 0
  · subst e0
    have q0 := box_cell HP.out.bc (j := 0) rfl; have z0 := box_frz HP.out.bc 0
    have q1 := box_cell HP.out.bc (j := 1) rfl; have z1 := box_frz HP.out.bc 1
    have q2 := box_cell HP.out.bc (j := 2) rfl; have z2 := box_frz HP.out.bc 2
    have q3 := box_cell HP.out.bc (j := 3) rfl; have z3 := box_frz HP.out.bc 3
    have q4 := box_cell HP.out.bc (j := 4) rfl; have z4 := box_frz HP.out.bc 4
    go_upto_region 4 with (fail)
    go_region_law (first
      | (refine step_appSL (by rfl) (.tmp 11) (.tmp 15) (by rfl) (w.heap.size + 1) _ xs (by rfl) (hP4.on (by repeat' (first | (with_reducible exact Below.refl _ _) | (with_reducible refine bl_dw ?_) | (with_reducible refine bl_aw ?_ _)))).o1.1 _ 1 _ s (by rfl) (readsS_blk (by repeat' (first | (with_reducible refine hq_dr ?_) | ((with_reducible refine hq_nw ?_); (first | (with_reducible rfl) | (simp only [size_alloc]; done)))))) (by have := HX3.out; omega) (Nat.succ_le_of_lt (heap_lt (hP4.on (by repeat' (first | (with_reducible exact Below.refl _ _) | (with_reducible refine bl_dw ?_) | (with_reducible refine bl_aw ?_ _)))).bx)) ?_; intro g n k w5 hown5 hgr5 hlie5 hlt5; obtain ⟨hc5, hk5, hr51, hr52, hr53, hgc, hbx5, hbc5⟩ := (hP4.on (by repeat' (first | (with_reducible exact Below.refl _ _) | (with_reducible refine bl_dw ?_) | (with_reducible refine bl_aw ?_ _)))).app hown5 hgr5 hlie5; have y0 := box_cell hbc5 (j := 1) rfl; have y1 := box_frz hbc5 1)
      | (go_simp; go_at_call 27; refine (str_any b sv len _ 3 3 _ (HP.out.on (by repeat' (first | (with_reducible exact Below.refl _ _) | (with_reducible refine bl_dw ?_) | (with_reducible refine bl_aw ?_ _)))).cur (Nat.ne_of_gt (Nat.lt_of_lt_of_le (Nat.lt_trans hlb (Nat.lt_trans hlc hcs)) (Nat.le_refl _))) (by decide) (by decide) (cells_blkS 3 (by repeat' (first | (with_reducible refine hq_dr ?_) | ((with_reducible refine hq_nw ?_); (first | (with_reducible rfl) | (simp only [size_alloc]; done))))) (by rfl) (by kernel_rfl))).mono ?_; rintro e w4 ⟨s, rfl, hs4, hc4, hk4⟩; have hP4 := (HP.out.on (by repeat' (first | (with_reducible exact Below.refl _ _) | (with_reducible refine bl_dw ?_) | (with_reducible refine bl_aw ?_ _)))).draw hc4 hk4; have x0 := box_cell hP4.bc (j := 1) rfl; have x1 := box_frz hP4.bc 1; have hcs4 := heap_lt hP4.bc))
    all_goals
      obtain ⟨w6, hw6⟩ : ∃ x, w5.setCell ⟨c, 1, none⟩ (.slice (some ⟨g, 0, none⟩) n k) = x := ⟨_, rfl⟩
      rw [hw6]
      have hon6 : OnlyB [c] w5 w6 := by rw [← hw6]; exact (OnlyB.refl _ w5).set (by simp)
      have hx6 := heap_one (o := 1) hbc5 (.slice (some ⟨g, 0, none⟩) n k); rw [hw6] at hx6
      have HX6 := Lib.hid (show w6.heap[c]? = some (.cells #[.bool bo, .slice (some ⟨g, 0, none⟩) n k, .slice a2 n2 c2, .slice a3 n3 c3, .string t] 26 (0, 0)) from hx6)
      have HBX := Lib.hid (show w6.heap[w.heap.size]? = _ from (hon6.block _ (heap_lt hbx5) (by rw [List.mem_singleton]; omega)).trans hbx5)
      have hbl6 : Below c w5 w6 := hon6.below (fun i hi => by rw [List.mem_singleton] at hi; omega) (Nat.le_of_lt (heap_lt hbc5))
      have HCU := Lib.hid (hc5.keptLoP hbl6 (by omega)); have HK := Lib.hid (kept_belowP hk5 (hbl6.mono (Nat.le_of_lt hlc)) (Nat.le_refl _))
      have HR1 := Lib.hid (hr51.only hon6 (fun g hg hm => by rw [List.mem_singleton] at hm; exact hgc ((Option.some.inj hg).trans hm)))
      have HR2 := Lib.hid (hr52.only hon6 (fun g hg hm => by rw [List.mem_singleton] at hm; exact HP.out.a2 (hg.trans (congrArg some hm))))
      have HR3 := Lib.hid (hr53.only hon6 (fun g hg hm => by rw [List.mem_singleton] at hm; exact HP.out.a3 (hg.trans (congrArg some hm))))
      clear q0 q1 q2 q3 q4 z0 z1 z2 z3 z4 x0 x1 y0 y1 hown5 hgr5 hlie5 hlt5 hc5 hk5 hr51 hr52 hr53 hgc hbx5 hbc5 hw6 hon6 hx6 hbl6 hP4 hc4 hk4 hcs4
      have q0 := box_cell HX6.out (j := 0) rfl
      have q1 := box_cell HX6.out (j := 1) rfl
      have q2 := box_cell HX6.out (j := 2) rfl
      have q3 := box_cell HX6.out (j := 3) rfl
      have q4 := box_cell HX6.out (j := 4) rfl
      have y0 := box_cell HBX.out (j := 0) rfl; have x0 := box_frz HBX.out 0
      have y1 := box_cell HBX.out (j := 1) rfl; have x1 := box_frz HBX.out 1
      have y2 := box_cell HBX.out (j := 2) rfl; have x2 := box_frz HBX.out 2
      have y3 := box_cell HBX.out (j := 3) rfl; have x3 := box_frz HBX.out 3
      have y4 := box_cell HBX.out (j := 4) rfl; have x4 := box_frz HBX.out 4
      go_wp2_with fail
      obtain ⟨w9, hw9⟩ : ∃ x, (((((w6.setCell ⟨w.heap.size, 0, none⟩ (.bool bo)).setCell ⟨w.heap.size, 1, none⟩ (.slice (some ⟨g, 0, none⟩) n k)).setCell ⟨w.heap.size, 2, none⟩ (.slice a2 n2 c2)).setCell ⟨w.heap.size, 3, none⟩ (.slice a3 n3 c3)).setCell ⟨w.heap.size, 4, none⟩ (.string t)) = x := ⟨_, rfl⟩
      rw [hw9]
      have hon : OnlyB [w.heap.size] w6 w9 := by rw [← hw9]; exact set5_only w6 w.heap.size _ _ _ _ _
      have hb9 := set5_box HBX.out (.bool bo) (.slice (some ⟨g, 0, none⟩) n k) (.slice a2 n2 c2) (.slice a3 n3 c3) (.string t)
      rw [show set5 w6 w.heap.size (.bool bo) (.slice (some ⟨g, 0, none⟩) n k) (.slice a2 n2 c2) (.slice a3 n3 c3) (.string t) = w9 from hw9] at hb9
      have r0 := box_cell hb9 (j := 0) rfl
      have r1 := box_cell hb9 (j := 1) rfl
      have r2 := box_cell hb9 (j := 2) rfl
      have r3 := box_cell hb9 (j := 3) rfl
      have r4 := box_cell hb9 (j := 4) rfl
      refine bodyPost_ret (v := .agg #[.bool bo, .slice (some ⟨g, 0, none⟩) n k, .slice a2 n2 c2, .slice a3 n3 c3, .string t]) (by simp [results, Tryd.results29, go_sem, r0, r1, r2, r3, r4]) rfl ?_
      have hbl9 : Below w.heap.size w6 w9 := hon.below (fun i hi => by rw [List.mem_singleton] at hi; omega) HK.out.size
      have HN9 := Lib.hid (show ∀ g, w.heap.size < g → g ∉ [w.heap.size] from fun g hg hm => by rw [List.mem_singleton] at hm; omega)
      exact ⟨bo, some ⟨g, 0, none⟩, n, k, a2, n2, c2, a3, n3, c3, xs ++ [s], ys, zs, t, rfl, ((HR1.out.low (show w.heap.size ≤ _ by first | omega | (have := HP.out.lh; omega))).only hon (fun g hg => HN9.out g (by have := (HR1.out.2 g hg).1; have := HP.out.lh; omega))), ((HR2.out.low (show w.heap.size ≤ _ by first | omega | (have := HP.out.lh; omega))).only hon (fun g hg => HN9.out g (by have := (HR2.out.2 g hg).1; have := HP.out.lh; omega))), ((HR3.out.low (show w.heap.size ≤ _ by first | omega | (have := HP.out.lh; omega))).only hon (fun g hg => HN9.out g (by have := (HR3.out.2 g hg).1; have := HP.out.lh; omega))), ⟨by rw [List.length_append, List.length_singleton]; have := HX3.out; omega, HF.out.n2, HF.out.n3, fun x hx => (List.mem_append.1 hx).elim (HF.out.s1 x) (fun h => by rw [List.mem_singleton] at h; rw [h]; exact hs4), HF.out.s2, HF.out.s3, HF.out.s4⟩, HCU.out.keptLoP hbl9 HLB.out, kept_belowP HK.out hbl9 (Nat.le_refl _)⟩
  have f0 : (x == 0) = false := beq_eq_false_iff_ne.2 e0
  by_cases e1 : x = 1
  · subst e1
    clear e0 f0
    go_wp2_with fail
    refine (str_any b sv len _ 3 3 _ (HP.out.on (by repeat' (first | (with_reducible exact Below.refl _ _) | (with_reducible refine bl_dw ?_) | (with_reducible refine bl_aw ?_ _)))).cur (by omega) (by decide) (by decide) (cells_blkS 3 (hq_nw rfl) (by rfl) (by kernel_rfl))).mono ?_
    rintro e w4 ⟨s, rfl, hs4, hc4, hk4⟩
    have hP4 := (HP.out.on (show Below w3.heap.size w3 _ from (by repeat' (first | (with_reducible exact Below.refl _ _) | (with_reducible refine bl_dw ?_) | (with_reducible refine bl_aw ?_ _))))).draw hc4 hk4
    have q0 := box_cell hP4.bc (j := 0) rfl; have z0 := box_frz hP4.bc 0
    have q1 := box_cell hP4.bc (j := 1) rfl; have z1 := box_frz hP4.bc 1
    have q2 := box_cell hP4.bc (j := 2) rfl; have z2 := box_frz hP4.bc 2
    have q3 := box_cell hP4.bc (j := 3) rfl; have z3 := box_frz hP4.bc 3
    have q4 := box_cell hP4.bc (j := 4) rfl; have z4 := box_frz hP4.bc 4
    go_upto_region 9 with (fail)
    obtain ⟨w6, hw6⟩ : ∃ x, w4.setCell ⟨c, 4, none⟩ (.string s) = x := ⟨_, rfl⟩
    rw [hw6]
    have hon6 : OnlyB [c] w4 w6 := by rw [← hw6]; exact (OnlyB.refl _ w4).set (by simp)
    have hx6 := heap_one (o := 4) hP4.bc (.string s); rw [hw6] at hx6
    have HX6 := Lib.hid (show w6.heap[c]? = some (.cells #[.bool bo, .slice a1 n1 c1, .slice a2 n2 c2, .slice a3 n3 c3, .string s] 26 (0, 0)) from hx6)
    have HBX := Lib.hid (show w6.heap[w.heap.size]? = _ from (hon6.block _ (heap_lt hP4.bx) (by rw [List.mem_singleton]; omega)).trans hP4.bx)
    have hbl6 : Below c w4 w6 := hon6.below (fun i hi => by rw [List.mem_singleton] at hi; omega) (Nat.le_of_lt (heap_lt hP4.bc))
    have HCU := Lib.hid (hP4.cur.keptLoP hbl6 (by omega)); have HK := Lib.hid (kept_belowP hP4.kept (hbl6.mono (Nat.le_of_lt hlc)) (Nat.le_refl _))
    have HR1 := Lib.hid ((Rd1.of_own hP4.o1).only hon6 (fun g hg hm => by rw [List.mem_singleton] at hm; exact HP.out.a1 (hg.trans (congrArg some hm))))
    have HR2 := Lib.hid (hP4.r2.only hon6 (fun g hg hm => by rw [List.mem_singleton] at hm; exact HP.out.a2 (hg.trans (congrArg some hm))))
    have HR3 := Lib.hid (hP4.r3.only hon6 (fun g hg hm => by rw [List.mem_singleton] at hm; exact HP.out.a3 (hg.trans (congrArg some hm))))
    clear q0 q1 q2 q3 q4 z0 z1 z2 z3 z4 hw6 hon6 hx6 hbl6 hP4 hc4 hk4
    have q0 := box_cell HX6.out (j := 0) rfl
    have q1 := box_cell HX6.out (j := 1) rfl
    have q2 := box_cell HX6.out (j := 2) rfl
    have q3 := box_cell HX6.out (j := 3) rfl
    have q4 := box_cell HX6.out (j := 4) rfl
    have y0 := box_cell HBX.out (j := 0) rfl; have x0 := box_frz HBX.out 0
    have y1 := box_cell HBX.out (j := 1) rfl; have x1 := box_frz HBX.out 1
    have y2 := box_cell HBX.out (j := 2) rfl; have x2 := box_frz HBX.out 2
    have y3 := box_cell HBX.out (j := 3) rfl; have x3 := box_frz HBX.out 3
    have y4 := box_cell HBX.out (j := 4) rfl; have x4 := box_frz HBX.out 4
    go_wp2_with fail
    obtain ⟨w9, hw9⟩ : ∃ x, (((((w6.setCell ⟨w.heap.size, 0, none⟩ (.bool bo)).setCell ⟨w.heap.size, 1, none⟩ (.slice a1 n1 c1)).setCell ⟨w.heap.size, 2, none⟩ (.slice a2 n2 c2)).setCell ⟨w.heap.size, 3, none⟩ (.slice a3 n3 c3)).setCell ⟨w.heap.size, 4, none⟩ (.string s)) = x := ⟨_, rfl⟩
    rw [hw9]
    have hon : OnlyB [w.heap.size] w6 w9 := by rw [← hw9]; exact set5_only w6 w.heap.size _ _ _ _ _
    have hb9 := set5_box HBX.out (.bool bo) (.slice a1 n1 c1) (.slice a2 n2 c2) (.slice a3 n3 c3) (.string s)
    rw [show set5 w6 w.heap.size (.bool bo) (.slice a1 n1 c1) (.slice a2 n2 c2) (.slice a3 n3 c3) (.string s) = w9 from hw9] at hb9
    have r0 := box_cell hb9 (j := 0) rfl
    have r1 := box_cell hb9 (j := 1) rfl
    have r2 := box_cell hb9 (j := 2) rfl
    have r3 := box_cell hb9 (j := 3) rfl
    have r4 := box_cell hb9 (j := 4) rfl
    refine bodyPost_ret (v := .agg #[.bool bo, .slice a1 n1 c1, .slice a2 n2 c2, .slice a3 n3 c3, .string s]) (by simp [results, Tryd.results29, go_sem, r0, r1, r2, r3, r4]) rfl ?_
    have hbl9 : Below w.heap.size w6 w9 := hon.below (fun i hi => by rw [List.mem_singleton] at hi; omega) HK.out.size
    have HN9 := Lib.hid (show ∀ g, w.heap.size < g → g ∉ [w.heap.size] from fun g hg hm => by rw [List.mem_singleton] at hm; omega)
    exact ⟨bo, a1, n1, c1, a2, n2, c2, a3, n3, c3, xs, ys, zs, s, rfl, ((HR1.out.low (show w.heap.size ≤ _ by first | omega | (have := HP.out.lh; omega))).only hon (fun g hg => HN9.out g (by have := (HR1.out.2 g hg).1; have := HP.out.lh; omega))), ((HR2.out.low (show w.heap.size ≤ _ by first | omega | (have := HP.out.lh; omega))).only hon (fun g hg => HN9.out g (by have := (HR2.out.2 g hg).1; have := HP.out.lh; omega))), ((HR3.out.low (show w.heap.size ≤ _ by first | omega | (have := HP.out.lh; omega))).only hon (fun g hg => HN9.out g (by have := (HR3.out.2 g hg).1; have := HP.out.lh; omega))), ⟨HF.out.n1, HF.out.n2, HF.out.n3, HF.out.s1, HF.out.s2, HF.out.s3, hs4⟩, HCU.out.keptLoP hbl9 HLB.out, kept_belowP HK.out hbl9 (Nat.le_refl _)⟩
  have f1 : (x == 1) = false := beq_eq_false_iff_ne.2 e1
  by_cases e2 : x = 2
  · subst e2
    clear e0 f0 e1 f1
    have q0 := box_cell HP.out.bc (j := 0) rfl; have z0 := box_frz HP.out.bc 0
    have q1 := box_cell HP.out.bc (j := 1) rfl; have z1 := box_frz HP.out.bc 1
    have q2 := box_cell HP.out.bc (j := 2) rfl; have z2 := box_frz HP.out.bc 2
    have q3 := box_cell HP.out.bc (j := 3) rfl; have z3 := box_frz HP.out.bc 3
    have q4 := box_cell HP.out.bc (j := 4) rfl; have z4 := box_frz HP.out.bc 4
    go_upto_region 9 with (fail)
    obtain ⟨w6, hw6⟩ : ∃ x, w3.setCell ⟨c, 3, none⟩ (.slice (some ⟨w3.heap.size, 0, none⟩) 5 5) = x := ⟨_, rfl⟩
    rw [hw6]
    have hon6 : OnlyB [c] w3 w6 := by rw [← hw6]; exact (OnlyB.refl _ w3).set (by simp)
    have hx6 := heap_one (o := 3) HP.out.bc (.slice (some ⟨w3.heap.size, 0, none⟩) 5 5); rw [hw6] at hx6
    have HX6 := Lib.hid (show w6.heap[c]? = some (.cells #[.bool bo, .slice a1 n1 c1, .slice a2 n2 c2, .slice (some ⟨w3.heap.size, 0, none⟩) 5 5, .string t] 26 (0, 0)) from hx6)
    have HBX := Lib.hid (show w6.heap[w.heap.size]? = _ from (hon6.block _ (heap_lt HP.out.bx) (by rw [List.mem_singleton]; omega)).trans HP.out.bx)
    have hbl6 : Below c w3 w6 := hon6.below (fun i hi => by rw [List.mem_singleton] at hi; omega) (Nat.le_of_lt (heap_lt HP.out.bc))
    have HCU := Lib.hid (HP.out.cur.keptLoP hbl6 (by omega)); have HK := Lib.hid (kept_belowP HP.out.kept (hbl6.mono (Nat.le_of_lt hlc)) (Nat.le_refl _))
    have HR1 := Lib.hid ((Rd1.of_own HP.out.o1).only hon6 (fun g hg hm => by rw [List.mem_singleton] at hm; exact HP.out.a1 (hg.trans (congrArg some hm))))
    have HR2 := Lib.hid (HP.out.r2.only hon6 (fun g hg hm => by rw [List.mem_singleton] at hm; exact HP.out.a2 (hg.trans (congrArg some hm))))
    have HR3 := Lib.hid (HP.out.r3.only hon6 (fun g hg hm => by rw [List.mem_singleton] at hm; exact HP.out.a3 (hg.trans (congrArg some hm))))
    have hs6 : w6.heap.size = w3.heap.size := by rw [← hw6]; simp [World.setCell]
    obtain ⟨w7, hw7⟩ : ∃ x, w6.alloc (.cells #[.string ⟨#[97]⟩, .string ⟨#[98]⟩, .string ⟨#[99]⟩, .string ⟨#[100]⟩, .string ⟨#[101]⟩] 9) = x := ⟨_, rfl⟩
    rw [hw7]
    have hb7 : Below w6.heap.size w6 w7 := by rw [← hw7]; exact bl_aw (Below.refl _ _) _
    have hlit : w7.heap[w3.heap.size]? = some (.cells #[.string ⟨#[97]⟩, .string ⟨#[98]⟩, .string ⟨#[99]⟩, .string ⟨#[100]⟩, .string ⟨#[101]⟩] 9 (0, 0)) := by rw [← hw7, ← hs6]; exact heap_alloc_new w6 _
    replace HX6 := Lib.hid (below_heap hb7 (heap_lt HX6.out) HX6.out); replace HBX := Lib.hid (below_heap hb7 (heap_lt HBX.out) HBX.out); replace HCU := Lib.hid (HCU.out.below hb7); replace HK := Lib.hid (HK.out.trans (Kept.of_below hb7)); replace HR1 := Lib.hid (HR1.out.later hb7); replace HR2 := Lib.hid (HR2.out.later hb7)
    replace HR3 := Lib.hid (show Rd1 (w.heap.size + 1) w7 (.slice (some ⟨w3.heap.size, 0, none⟩) 5 5) [⟨#[97]⟩, ⟨#[98]⟩, ⟨#[99]⟩, ⟨#[100]⟩, ⟨#[101]⟩] from ⟨(readsS_5 hlit).mono (heap_lt hlit), fun g hg => by have : w3.heap.size = g := Option.some.inj hg; have := heap_lt hlit; omega⟩)
    clear q0 q1 q2 q3 q4 z0 z1 z2 z3 z4 hw6 hon6 hx6 hbl6 hs6 hw7 hb7 hlit
    obtain ⟨L, hL⟩ : ∃ x, w3.heap.size = x := ⟨_, rfl⟩
    rw [hL] at HX6 HR3 ⊢
    have q0 := box_cell HX6.out (j := 0) rfl
    have q1 := box_cell HX6.out (j := 1) rfl
    have q2 := box_cell HX6.out (j := 2) rfl
    have q3 := box_cell HX6.out (j := 3) rfl
    have q4 := box_cell HX6.out (j := 4) rfl
    have y0 := box_cell HBX.out (j := 0) rfl; have x0 := box_frz HBX.out 0
    have y1 := box_cell HBX.out (j := 1) rfl; have x1 := box_frz HBX.out 1
    have y2 := box_cell HBX.out (j := 2) rfl; have x2 := box_frz HBX.out 2
    have y3 := box_cell HBX.out (j := 3) rfl; have x3 := box_frz HBX.out 3
    have y4 := box_cell HBX.out (j := 4) rfl; have x4 := box_frz HBX.out 4
    go_wp2_with fail
    obtain ⟨w9, hw9⟩ : ∃ x, (((((w7.setCell ⟨w.heap.size, 0, none⟩ (.bool bo)).setCell ⟨w.heap.size, 1, none⟩ (.slice a1 n1 c1)).setCell ⟨w.heap.size, 2, none⟩ (.slice a2 n2 c2)).setCell ⟨w.heap.size, 3, none⟩ (.slice (some ⟨L, 0, none⟩) 5 5)).setCell ⟨w.heap.size, 4, none⟩ (.string t)) = x := ⟨_, rfl⟩
    rw [hw9]
    have hon : OnlyB [w.heap.size] w7 w9 := by rw [← hw9]; exact set5_only w7 w.heap.size _ _ _ _ _
    have hb9 := set5_box HBX.out (.bool bo) (.slice a1 n1 c1) (.slice a2 n2 c2) (.slice (some ⟨L, 0, none⟩) 5 5) (.string t)
    rw [show set5 w7 w.heap.size (.bool bo) (.slice a1 n1 c1) (.slice a2 n2 c2) (.slice (some ⟨L, 0, none⟩) 5 5) (.string t) = w9 from hw9] at hb9
    have r0 := box_cell hb9 (j := 0) rfl
    have r1 := box_cell hb9 (j := 1) rfl
    have r2 := box_cell hb9 (j := 2) rfl
    have r3 := box_cell hb9 (j := 3) rfl
    have r4 := box_cell hb9 (j := 4) rfl
    refine bodyPost_ret (v := .agg #[.bool bo, .slice a1 n1 c1, .slice a2 n2 c2, .slice (some ⟨L, 0, none⟩) 5 5, .string t]) (by simp [results, Tryd.results29, go_sem, r0, r1, r2, r3, r4]) rfl ?_
    have hbl9 : Below w.heap.size w7 w9 := hon.below (fun i hi => by rw [List.mem_singleton] at hi; omega) HK.out.size
    have HN9 := Lib.hid (show ∀ g, w.heap.size < g → g ∉ [w.heap.size] from fun g hg hm => by rw [List.mem_singleton] at hm; omega)
    exact ⟨bo, a1, n1, c1, a2, n2, c2, some ⟨L, 0, none⟩, 5, 5, xs, ys, _, t, rfl, ((HR1.out.low (show w.heap.size ≤ _ by first | omega | (have := HP.out.lh; omega))).only hon (fun g hg => HN9.out g (by have := (HR1.out.2 g hg).1; have := HP.out.lh; omega))), ((HR2.out.low (show w.heap.size ≤ _ by first | omega | (have := HP.out.lh; omega))).only hon (fun g hg => HN9.out g (by have := (HR2.out.2 g hg).1; have := HP.out.lh; omega))), ((HR3.out.low (show w.heap.size ≤ _ by first | omega | (have := HP.out.lh; omega))).only hon (fun g hg => HN9.out g (by have := (HR3.out.2 g hg).1; have := HP.out.lh; omega))), ⟨HF.out.n1, HF.out.n2, by decide, HF.out.s1, HF.out.s2, by decide, HF.out.s4⟩, HCU.out.keptLoP hbl9 HLB.out, kept_belowP HK.out hbl9 (Nat.le_refl _)⟩
  have f2 : (x == 2) = false := beq_eq_false_iff_ne.2 e2
  have HBX := Lib.hid HP.out.bx; have HCU := Lib.hid HP.out.cur; have HK := Lib.hid HP.out.kept; have HR1 := Lib.hid (Rd1.of_own HP.out.o1); have HR2 := Lib.hid HP.out.r2; have HR3 := Lib.hid HP.out.r3
  have q0 := box_cell HP.out.bc (j := 0) rfl
  have q1 := box_cell HP.out.bc (j := 1) rfl
  have q2 := box_cell HP.out.bc (j := 2) rfl
  have q3 := box_cell HP.out.bc (j := 3) rfl
  have q4 := box_cell HP.out.bc (j := 4) rfl
  have y0 := box_cell HBX.out (j := 0) rfl; have x0 := box_frz HBX.out 0
  have y1 := box_cell HBX.out (j := 1) rfl; have x1 := box_frz HBX.out 1
  have y2 := box_cell HBX.out (j := 2) rfl; have x2 := box_frz HBX.out 2
  have y3 := box_cell HBX.out (j := 3) rfl; have x3 := box_frz HBX.out 3
  have y4 := box_cell HBX.out (j := 4) rfl; have x4 := box_frz HBX.out 4
  go_wp2_with fail
  obtain ⟨w9, hw9⟩ : ∃ x, (((((w3.setCell ⟨w.heap.size, 0, none⟩ (.bool bo)).setCell ⟨w.heap.size, 1, none⟩ (.slice a1 n1 c1)).setCell ⟨w.heap.size, 2, none⟩ (.slice a2 n2 c2)).setCell ⟨w.heap.size, 3, none⟩ (.slice a3 n3 c3)).setCell ⟨w.heap.size, 4, none⟩ (.string t)) = x := ⟨_, rfl⟩
  rw [hw9]
  have hon : OnlyB [w.heap.size] w3 w9 := by rw [← hw9]; exact set5_only w3 w.heap.size _ _ _ _ _
  have hb9 := set5_box HBX.out (.bool bo) (.slice a1 n1 c1) (.slice a2 n2 c2) (.slice a3 n3 c3) (.string t)
  rw [show set5 w3 w.heap.size (.bool bo) (.slice a1 n1 c1) (.slice a2 n2 c2) (.slice a3 n3 c3) (.string t) = w9 from hw9] at hb9
  have r0 := box_cell hb9 (j := 0) rfl
  have r1 := box_cell hb9 (j := 1) rfl
  have r2 := box_cell hb9 (j := 2) rfl
  have r3 := box_cell hb9 (j := 3) rfl
  have r4 := box_cell hb9 (j := 4) rfl
  refine bodyPost_ret (v := .agg #[.bool bo, .slice a1 n1 c1, .slice a2 n2 c2, .slice a3 n3 c3, .string t]) (by simp [results, Tryd.results29, go_sem, r0, r1, r2, r3, r4]) rfl ?_
  have hbl9 : Below w.heap.size w3 w9 := hon.below (fun i hi => by rw [List.mem_singleton] at hi; omega) HK.out.size
  have HN9 := Lib.hid (show ∀ g, w.heap.size < g → g ∉ [w.heap.size] from fun g hg hm => by rw [List.mem_singleton] at hm; omega)
  exact ⟨bo, a1, n1, c1, a2, n2, c2, a3, n3, c3, xs, ys, zs, t, rfl, ((HR1.out.low (show w.heap.size ≤ _ by first | omega | (have := HP.out.lh; omega))).only hon (fun g hg => HN9.out g (by have := (HR1.out.2 g hg).1; have := HP.out.lh; omega))), ((HR2.out.low (show w.heap.size ≤ _ by first | omega | (have := HP.out.lh; omega))).only hon (fun g hg => HN9.out g (by have := (HR2.out.2 g hg).1; have := HP.out.lh; omega))), ((HR3.out.low (show w.heap.size ≤ _ by first | omega | (have := HP.out.lh; omega))).only hon (fun g hg => HN9.out g (by have := (HR3.out.2 g hg).1; have := HP.out.lh; omega))), HF.out, HCU.out.keptLoP hbl9 HLB.out, kept_belowP HK.out hbl9 (Nat.le_refl _)⟩
end Go.Proofs.YtkjjiinccljhjaaDoor
