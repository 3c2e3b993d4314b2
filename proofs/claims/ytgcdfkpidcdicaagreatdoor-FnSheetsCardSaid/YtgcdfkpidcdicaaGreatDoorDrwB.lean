/- 6 texts in one. -/
import Derived.Test.YtgcdfkpidcdicaaGreatDoorDrwA
import Derived.Test.YtgcdfkpidcdicaaGreatDoorShA
import Derived.Test.YtgcdfkpidcdicaaGreatDoorBdV
import Derived.Test.YtgcdfkpidcdicaaGreatDoorAddJ
namespace Go.Proofs.YtgcdfkpidcdicaaGreatDoor
/- Dr7S -/
open Go.ChangeShapes Go.WideShapes Go.ChangeAt Go.RowKit

theorem ownK_kept7 {α : Type} {enc : α → List Value} {k : Nat} {e : TypeId} {lo hi b : Nat} {w w' : World} {v : Value} {xs : List α} (h : OwnK enc k e lo hi w v xs) (hk : Kept b w w') (hb : b < lo) : OwnK enc k e lo hi w' v xs := by
  refine ⟨⟨h.1.1, ?_⟩, h.2⟩
  rcases h.1.2 with h1 | ⟨g, cap, cur, e1, h2, h3, h4⟩
  · exact Or.inl h1
  · exact Or.inr ⟨g, cap, cur, e1, h2, by rw [hk.block g (heap_lt h3) (by omega)]; exact h3, h4⟩
theorem kept_below7 {b lo : Nat} {w w1 w2 : World} (h : Kept b w w1) (hb : Below lo w1 w2) (hl : w.heap.size ≤ lo) : Kept b w w2 :=
  ⟨hb.os.trans h.os, hb.tape.trans h.tape, hb.output.trans h.output, Nat.le_trans h.size hb.size, fun k hk hne => (hb.block k (by omega)).trans (h.block k hk hne)⟩
theorem Cur.keptLo7 {b lo : Nat} {sv : Value} {len : Nat} {w w' : World} (h : Cur b sv len w) (k : Below lo w w') (hl : b < lo) : Cur b sv len w' := by
  obtain ⟨i, x, h1, h2, a, cap, e, h3, h4⟩ := h
  refine ⟨i, x, by rw [k.block b hl]; exact h1, h2, a, cap, e, h3, ?_⟩
  rcases h4 with h4 | ⟨blk, off, e2, hb, hc⟩
  · exact Or.inl h4
  · refine Or.inr ⟨blk, off, e2, hb, fun j hj => ?_⟩
    obtain ⟨n, n0, n1, hn⟩ := hc j hj
    exact ⟨n, n0, n1, by rw [k.cell (by show blk < _; omega)]; exact hn⟩
/-- A slice of sheets of the call's own, with all that they hold. -/
structure MineH (B : Nat) (w0 w : World) (v : Value) (ss : List Shv) : Prop where
  row : MineK encH 1 27 B w0 w v ss
  inn : ∀ p ∈ ss, OwnK encU 2 36 B w.heap.size w (sv p.2) p.1
theorem MineH.later {B : Nat} {w0 w w' : World} {v : Value} {ss : List Shv} (h : MineH B w0 w v ss) (hb : Below w.heap.size w w') : MineH B w0 w' v ss :=
  ⟨h.row.later hb, fun p hp => ((h.inn p hp).later hb).mono (Nat.le_refl _) hb.size⟩
theorem MineH.here {B : Nat} {w0 w : World} {v : Value} {ss : List Shv} (h : MineH B w0 w v ss) : MineH B w w v ss := ⟨⟨h.row.row, Below.refl _ _, h.row.size⟩, h.inn⟩
theorem MineH.kept {B b : Nat} {w0 w w' : World} {v : Value} {ss : List Shv} (h : MineH B w0 w v ss) (hk : Kept b w w') (hb : b < B) : MineH B w' w' v ss :=
  ⟨⟨(ownK_kept7 h.row.own hk hb).1, Below.refl _ _, Nat.le_trans h.row.size hk.size⟩, fun p hp => (ownK_kept7 (h.inn p hp) hk hb).mono (Nat.le_refl _) hk.size⟩
theorem MineH.empty (w : World) (B : Nat) (hB : B ≤ w.heap.size) : MineH B (w.alloc (.cells #[] 27)) (w.alloc (.cells #[] 27)) (.slice (some ⟨w.heap.size, 0, none⟩) 0 0) [] :=
  MineH.here ⟨MineK.empty _ _ _ _ w _ (Below.refl _ _) hB, fun p hp => (by cases hp)⟩
theorem MineH.reads {B hi : Nat} {w0 w : World} {v : Value} {ss : List Shv} (h : MineH B w0 w v ss) (hh : w.heap.size ≤ hi) : ReadH hi w v ss :=
  ⟨(h.row.own.reads encH_len).mono hh, fun p hp => ((h.inn p hp).reads encU_len).mono hh⟩
theorem readsH_one (w : World) (p : Shv) {u : Value} (h : sv p.2 = u) : ReadsK encH 1 (w.heap.size + 1) (w.alloc (.cells #[u] 27)) (.slice (some ⟨w.heap.size, 0, none⟩) 1 1) [p] := by
  subst h
  refine ⟨_, 1, rfl, by simp, by omega, (fun h => by cases h), Or.inr ⟨_, 0, rfl, by omega, fun j y hy i hi' => ?_⟩⟩
  have hj : j = 0 := by have := (List.getElem?_eq_some_iff.1 hy).1; simp at this; omega
  subst hj
  simp only [List.getElem?_cons_zero, Option.some.injEq] at hy
  subst hy
  obtain rfl : i = 0 := by omega
  simp [encH]
theorem sh_ne_ru : 27 ≠ 36 := by decide
theorem wpList_appH {w : World} {ops : Array Oper} {rest : List Oper} {o : Oper} {a : Act} {Q : Exit → Act → World → Prop} (hgd : o.guard = none) (s x : Operand)
    (ho : o.op = .call { callee := .builtin .append, args := #[s, x], argTypes := #[30, 30] })
    (B : Nat) (w0 : World) (v : Value) (ts : List Shv) (hs : a.eval s = v) (hM : MineH B w0 w v ts) (vx : Value) (top : Nat) (us : List Shv) (hx : a.eval x = vx) (hr : ReadsK encH 1 top w vx us)
    (hin : ∀ p ∈ us, OwnK encU 2 36 B w.heap.size w (sv p.2) p.1)
    (hlen : ts.length + us.length ≤ 137438953472)
    (h : ∀ v' w', MineH B w0 w' v' (ts ++ us) → wpList Tryz.prog ops Q rest (a.put o.dst v') w') : wpList Tryz.prog ops Q (o :: rest) a w := by
  obtain ⟨i, hi, hz, hsize, hby⟩ := info_parts infoSh
  obtain ⟨ad, cap, rfl, h1, h2, h3, h4⟩ := id hr
  cases ad with
  | none =>
    obtain ⟨rfl, _, rfl⟩ := hr.nil
    refine wpList_append_own_none hgd s x _ ho B _ i 1 Tryz.underlying30 hi v ts.length _ hs hM.row.row hx ?_
    exact h v w (by simpa using hM)
  | some ad =>
    refine wpList_append_own _ hgd s x _ ho B _ i _ 1 24 Tryz.underlying30 hi hz hsize hby (by rfl) (by decide) v ts.length _ hs hM.row.row ad us.length cap (us.flatMap encH) hx (flat_len encH_len us) (hr.news encH_len) ?_ ?_ ?_ hM.row.size ?_
    · intro u hu
      obtain ⟨y, _, hy⟩ := List.mem_flatMap.1 hu
      exact encH_one y u hy
    · unfold maxLen; omega
    · have : (ts.length + us.length) * 24 ≤ (ts.length + us.length) * 1024 := Nat.mul_le_mul_left _ (by omega)
      omega
    · intro v' w' hown hgr hn
      refine h v' w' ⟨hM.row.grow hown hgr, fun p hp => ?_⟩
      have hall : OwnK encU 2 36 B w.heap.size w (sv p.2) p.1 := by
        rcases List.mem_append.1 hp with h | h
        · exact hM.inn p h
        · exact hin p h
      refine ⟨hall.1.kept hgr ?_, fun g hg => Nat.lt_of_lt_of_le (hall.2 g hg) hgr.size⟩
      cases hv : (sv p.2).ownBlock with
      | none => exact Or.inl rfl
      | some g =>
        right
        intro e
        exact rows_ne hM.row.row hall.1 sh_ne_ru e.symm hv
/-- What l7Sheets gives. -/
def ShsGot (b : Nat) (sv : Value) (len : Nat) (w : World) (e : Ending) (w' : World) : Prop :=
  ∃ a n c ss, e = .returned (.slice a n c) ∧ ss.length ≤ 2 ∧ (∀ p ∈ ss, ∃ s : ByteArray, s.size ≤ 1000 ∧ p.1 = prsS s) ∧ MineH w.heap.size w' w' (.slice a n c) ss ∧ Cur b sv len w' ∧ Kept b w w'

set_option maxRecDepth 100000 in
set_option maxHeartbeats 2000000 in
theorem sheets7_any (b : Nat) (sv : Value) (len : Nat) (w : World) (hc : Cur b sv len w) :
    Calls Tryz.prog 74 #[.pointer (some ⟨b, 0, none⟩)] w (ShsGot b sv len w) := by
  have HC := Lib.hid hc; have HLT := Lib.hid hc.lt; clear hc
  go_enter Tryz.func74, Tryz.ntmps74
  go_wp2_with fail
  refine (below_any b sv len 3 _ (HC.out.alloc _)).mono ?_
  rintro e w1 ⟨x, rfl, hx0, hx1, hx2, hc1, ho1⟩
  have hx3 := hx1 (by omega)
  obtain ⟨m, rfl⟩ := Int.eq_ofNat_of_zero_le hx0
  have hm : m ≤ 2 := by omega
  have HC1 := Lib.hid hc1; have HO1 := Lib.hid ((Kept.alloc b w _).trans ho1.kept)
  have HM1 := Lib.hid ((MineH.empty w w.heap.size (Nat.le_refl _)).kept ho1.kept HLT.out)
  clear hc1 ho1 hx1 hx2 hx0 hx3
  go_wp2_with fail
  go_loopw [3, 4] (fun q i wr => ∃ (k : Nat) (a : Option Addr) (n c : Nat) (ss : List Shv), k ≤ 2 ∧ i = .int .i64 k ∧ q = .slice a n c ∧ ss.length + k ≤ 2 ∧ (∀ p ∈ ss, ∃ s : ByteArray, s.size ≤ 1000 ∧ p.1 = prsS s) ∧ MineH w.heap.size wr wr (.slice a n c) ss ∧ Cur b sv len wr ∧ Kept b w wr) (fun _ i _ => (intOf i).toNat)
  case atStart => exact ⟨m, _, _, _, [], hm, rfl, rfl, by simpa using hm, (fun p hp => by cases hp), HM1.out, HC1.out, HO1.out⟩
  case round =>
    obtain ⟨k, a, n, c, ss, hk, rfl, rfl, hl, hall, hmi, hcu, hke⟩ := hrel
    have HCU := Lib.hid hcu; have HK := Lib.hid hke; have HMI := Lib.hid hmi; have HALL := Lib.hid hall; have HLS := Lib.hid hl
    clear hcu hke hmi hall hl HC1 HO1 HM1
    by_cases hlt : (0 : Int) < (k : Int)
    · go_wp2_with fail
      refine (text7_any b sv len _ HCU.out).mono ?_
      rintro e w2 ⟨s, rfl, hs, hc2, ho2⟩
      have hz : s.size ≤ 1000 := hs
      have HZ := Lib.hid hz
      have HC2 := Lib.hid hc2; have HO2 := Lib.hid (HK.out.trans ho2); have HM2 := Lib.hid (HMI.out.kept ho2 HLT.out)
      clear hc2 ho2 hs
      go_wp2_with fail
      refine (psheet_spec s (by omega) _).mono ?_
      rintro e w3 ⟨ra, rn, rc, rfl, hr⟩
      have hb3 := hr.below
      have HB3 := Lib.hid (hb3.mono HO2.out.size)
      have HR := Lib.hid (hr.own.mono HO2.out.size (Nat.le_refl _))
      have HM3 := Lib.hid (HM2.out.later hb3).here
      have HC3 := Lib.hid (HC2.out.below hb3); have HO3 := Lib.hid (HO2.out.trans (Kept.of_below (b := b) hb3))
      clear hr hb3
      have HIN := Lib.hid (show ∀ p ∈ [((prsS s, (ra, rn, rc)) : Shv)], OwnK encU 2 36 w.heap.size (w3.alloc (.cells #[.slice ra rn rc] 27)).heap.size (w3.alloc (.cells #[.slice ra rn rc] 27)) (Go.Proofs.YtgcdfkpidcdicaaGreatDoor.sv p.2) p.1 from fun p hp => by
        rw [List.mem_singleton] at hp; subst hp
        exact (HR.out.later ((Below.refl _ _).alloc (Nat.le_refl _) _)).mono (Nat.le_refl _) (by rw [size_alloc]; omega))
      go_wp2_with (at_builtin; refine wpList_appH rfl _ _ rfl w.heap.size w3 _ ss rfl (HM3.out.later ((Below.refl _ w3).alloc (Nat.le_refl _) (.cells #[.slice ra rn rc] 27))) _ _ [((prsS s, (ra, rn, rc)) : Shv)] rfl (readsH_one w3 (prsS s, (ra, rn, rc)) rfl) HIN.out ?cl ?_)
      case cl => have := HLS.out; show ss.length + 1 ≤ _; omega
      intro v4 w4 hm4
      obtain ⟨a4, c4, rfl⟩ := hm4.row.own.slice
      have HM4 := Lib.hid hm4
      clear hm4
      go_wp2_with fail
      go_roundw
      case rel =>
        refine ⟨k - 1, _, _, _, ss ++ [((prsS s, (ra, rn, rc)) : Shv)], by omega, by go_num, rfl, by have := HLS.out; rw [List.length_append]; show ss.length + 1 + (k - 1) ≤ 2; omega, fun p hp => ?_, HM4.out.here, HC3.out.keptLo7 HM4.out.row.below HLT.out, kept_below7 HO3.out HM4.out.row.below (Nat.le_refl _)⟩
        rcases List.mem_append.1 hp with h | h
        · exact HALL.out p h
        · rw [List.mem_singleton] at h; subst h; exact ⟨s, HZ.out, rfl⟩
      case measure => simp [intOf] <;> omega
    · go_wp2_with fail
      go_ret
      exact ⟨_, _, _, ss, rfl, by have := HLS.out; omega, HALL.out, HMI.out, HCU.out, HK.out⟩

/- BdD -/
/-- No text of a token is longer than the text that it came from. -/
theorem tagB_text {l : List UInt8} {t : Tok} (h : tagB l = some t) : t.text.size = 0 := by
  unfold tagB at h
  split at h
  · cases h
  · split at h
    · split at h
      · cases h; rfl
      · cases h
    · split at h
      · cases h
      · split at h
        · cases h
        · split at h
          · cases h; rfl
          · cases h
theorem feed_text_le (a : List UInt8) : ∀ t ∈ (feedB a).1, t.text.size ≤ a.length := by
  generalize hn : a.length = n
  induction n using Nat.strongRecOn generalizing a with
  | _ n ih =>
    by_cases h1 : 0 < idxB 60 a ∧ idxB 60 a < a.length
    · rw [feed_text h1.1 h1.2]
      intro t ht
      rcases List.mem_cons.1 ht with h | h
      · subst h
        show (ofL (a.take (idxB 60 a))).size ≤ n
        rw [ofL_size, List.length_take]; omega
      · have := ih (a.length - idxB 60 a) (by omega) (a.drop (idxB 60 a)) List.length_drop t h
        omega
    · by_cases h2 : idxB 60 a = 0 ∧ idxB 62 a < a.length
      · rw [feed_tag h2.1 h2.2]
        intro t ht
        rcases List.mem_append.1 ht with h | h
        · have := tagB_text (Option.mem_toList.1 h); omega
        · have := ih (a.length - (idxB 62 a + 1)) (by omega) (a.drop (idxB 62 a + 1)) List.length_drop t h
          omega
      · have hl := idxB_le 60 a
        have hl2 := idxB_le 62 a
        rw [feed_end (x := a) (by omega) h1]
        intro t ht; cases ht
theorem tokens_text_le (s : List UInt8) : ∀ t ∈ tokensB s, t.text.size ≤ s.length := by
  intro t ht
  rcases List.mem_append.1 ht with h | h
  · exact feed_text_le s t h
  · have hf := feed_size s
    unfold endB at h
    split at h
    · cases h
    · rw [List.mem_singleton] at h; subst h
      show (ofL (feedB s).2).size ≤ s.length
      rw [ofL_size]; omega

/-- No name of a token is longer than a name may be. -/
theorem isNm_le {s : ByteArray} (h : isNm s = true) : s.size ≤ 6000 := by
  unfold isNm at h
  simp only [Bool.and_eq_true, decide_eq_true_eq] at h
  omega
theorem tagB_name {l : List UInt8} {t : Tok} (h : tagB l = some t) : t.name.size ≤ 6000 := by
  unfold tagB at h
  split at h
  · cases h
  · split at h
    · split at h
      · rename_i hn; cases h; exact isNm_le hn
      · cases h
    · split at h
      · cases h
      · split at h
        · cases h
        · split at h
          · rename_i hn; cases h; exact isNm_le hn.1
          · cases h
theorem feed_name_le (a : List UInt8) : ∀ t ∈ (feedB a).1, t.name.size ≤ 6000 := by
  generalize hn : a.length = n
  induction n using Nat.strongRecOn generalizing a with
  | _ n ih =>
    by_cases h1 : 0 < idxB 60 a ∧ idxB 60 a < a.length
    · rw [feed_text h1.1 h1.2]
      intro t ht
      rcases List.mem_cons.1 ht with h | h
      · subst h; exact Nat.zero_le _
      · exact ih (a.length - idxB 60 a) (by omega) (a.drop (idxB 60 a)) List.length_drop t h
    · by_cases h2 : idxB 60 a = 0 ∧ idxB 62 a < a.length
      · rw [feed_tag h2.1 h2.2]
        intro t ht
        rcases List.mem_append.1 ht with h | h
        · exact tagB_name (Option.mem_toList.1 h)
        · exact ih (a.length - (idxB 62 a + 1)) (by omega) (a.drop (idxB 62 a + 1)) List.length_drop t h
      · have hl := idxB_le 60 a
        have hl2 := idxB_le 62 a
        rw [feed_end (x := a) (by omega) h1]
        intro t ht; cases ht
theorem tokens_name_le (s : List UInt8) : ∀ t ∈ tokensB s, t.name.size ≤ 6000 := by
  intro t ht
  rcases List.mem_append.1 ht with h | h
  · exact feed_name_le s t h
  · unfold endB at h
    split at h
    · cases h
    · rw [List.mem_singleton] at h; subst h
      exact Nat.zero_le _

/-- Few nodes, few open elements, short texts. -/
structure BdOk (K : Nat) (b : Bd) : Prop where
  nodes : b.nodes.length ≤ 40
  opn : b.opn.length ≤ 8
  pos : 0 < b.opn.length
  text : ∀ x ∈ b.nodes, x.text.size ≤ K
  att : ∀ x ∈ b.nodes, x.attrs.length ≤ 4
  nam : ∀ x ∈ b.nodes, x.name.size ≤ 6000
theorem bdOk_new (K : Nat) : BdOk K bdNew := ⟨by decide, by decide, by decide, fun x hx => by
  have : x = ⟨sPage, ⟨#[]⟩, -1, []⟩ := List.mem_singleton.1 hx
  subst this; exact Nat.zero_le _, fun x hx => by
  have : x = ⟨sPage, ⟨#[]⟩, -1, []⟩ := List.mem_singleton.1 hx
  subst this; exact Nat.zero_le _, fun x hx => by
  have : x = ⟨sPage, ⟨#[]⟩, -1, []⟩ := List.mem_singleton.1 hx
  subst this; show sPage.size ≤ 6000; decide⟩
theorem roomB_lt {b : Bd} (h : ¬ roomB b = false) : b.nodes.length < 40 := by
  have h' : roomB b = true := by cases e : roomB b; exact absurd e h; rfl
  unfold roomB at h'
  simp only [Bool.and_eq_true, decide_eq_true_eq] at h'
  exact h'.1
theorem bdOk_push {K : Nat} {b : Bd} {x : Nd} {l : List Int} (h : BdOk K b) (hr : b.nodes.length < 40) (hx : x.text.size ≤ K) (ha : x.attrs.length ≤ 4) (hn : x.name.size ≤ 6000) (hl : l.length ≤ 8) (hp : 0 < l.length) : BdOk K ⟨b.nodes ++ [x], l⟩ :=
  ⟨by show (b.nodes ++ [x]).length ≤ 40; rw [List.length_append]; show _ + 1 ≤ 40; omega, hl, hp, fun y hy => by
    rcases List.mem_append.1 hy with h1 | h1
    · exact h.text y h1
    · rw [List.mem_singleton] at h1; subst h1; exact hx, fun y hy => by
    rcases List.mem_append.1 hy with h1 | h1
    · exact h.att y h1
    · rw [List.mem_singleton] at h1; subst h1; exact ha, fun y hy => by
    rcases List.mem_append.1 hy with h1 | h1
    · exact h.nam y h1
    · rw [List.mem_singleton] at h1; subst h1; exact hn⟩
theorem closeN_pos {b : Bd} {s : ByteArray} (h : 0 < b.opn.length) : ∀ k, 0 < closeN b s k
  | 0 => h
  | k + 1 => by
    unfold closeN; split
    · exact Nat.succ_pos _
    · exact closeN_pos h k
theorem bdOk_add {K : Nat} {b : Bd} {t : Tok} (h : BdOk K b) (ht : t.text.size ≤ K) (ha : t.attrs.length ≤ 4) (hnm : t.name.size ≤ 6000) : BdOk K (addTok b t).1 := by
  unfold addTok openB textB closeB
  split
  · split
    · exact h
    · rename_i h8
      split
      · exact h
      · rename_i hr
        refine bdOk_push h (roomB_lt hr) (Nat.zero_le _) ha hnm ?_ ?_
        · by_cases hv : isVoid t.name = false
          · rw [if_pos hv, List.length_append]
            have : ¬ 8 ≤ b.opn.length := fun e => h8 ⟨hv, e⟩
            show _ + 1 ≤ 8; omega
          · rw [if_neg hv]; exact h.opn
        · by_cases hv : isVoid t.name = false
          · rw [if_pos hv, List.length_append]
            show 0 < _ + 1; omega
          · rw [if_neg hv]; exact h.pos
  · split
    · refine ⟨h.nodes, ?_, ?_, h.text, h.att, h.nam⟩
      · show (b.opn.take _).length ≤ 8
        rw [List.length_take]; have := h.opn; omega
      · show 0 < (b.opn.take _).length
        rw [List.length_take]; have := h.pos; have := closeN_pos (s := t.name) h.pos (b.opn.length - 1); omega
    · split
      · split
        · exact h
        · rename_i hr
          exact bdOk_push h (roomB_lt fun e => hr (Or.inr e)) ht (Nat.zero_le _) (Nat.zero_le _) h.opn h.pos
      · exact h
theorem bdOk_adds {K : Nat} : ∀ (ts : List Tok) (b : Bd), BdOk K b → (∀ t ∈ ts, t.text.size ≤ K ∧ t.attrs.length ≤ 4 ∧ t.name.size ≤ 6000) → BdOk K (addToks b ts)
  | [], _, h, _ => h
  | t :: ts, _, h, ht => bdOk_adds ts _ (bdOk_add h (ht t List.mem_cons_self).1 (ht t List.mem_cons_self).2.1 (ht t List.mem_cons_self).2.2) fun u hu => ht u (List.mem_cons_of_mem _ hu)

/- DrawPg -/
open Go.ChangeShapes Go.WideShapes Go.ChangeAt Go.RowKit

set_option maxRecDepth 100000 in
set_option maxHeartbeats 2000000 in
theorem page10_any (b : Nat) (sv : Value) (len : Nat) (w : World) (hc : Cur b sv len w) :
    Calls Tryz.prog 90 #[.pointer (some ⟨b, 0, none⟩), .int .i64 10] w (StrP Pg b sv len w) := by
  have HC := Lib.hid hc; clear hc
  go_enter Tryz.func90, Tryz.ntmps90
  go_wp2_with fail
  refine (below_any b sv len 11 _ HC.out).mono ?_
  rintro e w1 ⟨x, rfl, hx0, hx1, hx2, hc1, ho1⟩
  have hx3 := hx1 (by omega)
  obtain ⟨m, rfl⟩ := Int.eq_ofNat_of_zero_le hx0
  have hm : m ≤ 10 := by omega
  have HC1 := Lib.hid hc1; have HO1 := Lib.hid ho1.kept; clear hc1 ho1 hx1 hx2 hx0 hx3
  go_wp2_with fail
  go_loopw [5, 6] (fun s i wr => ∃ (k : Nat) (S : ByteArray), k ≤ 10 ∧ i = .int .i64 k ∧ s = .string S ∧ S.size + 500 * k ≤ 5000 ∧ Cur b sv len wr ∧ Kept b w wr) (fun _ i _ => (intOf i).toNat)
  case atStart => exact ⟨m, ⟨#[]⟩, hm, rfl, rfl, by show 0 + 500 * m ≤ 5000; omega, HC1.out, HO1.out⟩
  case round =>
    obtain ⟨k, S, hk, rfl, rfl, hS, hcu, hke⟩ := hrel
    have HCU := Lib.hid hcu; have HK := Lib.hid hke
    clear hcu hke HC1 HO1
    by_cases hlt : (0 : Int) < (k : Int)
    · go_wp2_with fail
      refine (once_any b sv len 3 _ HCU.out).mono ?_
      rintro e w2 ⟨t, rfl, hc2, ho2⟩
      have HC2 := Lib.hid hc2; have HO2 := Lib.hid (HK.out.trans ho2); have HL2 := Lib.hid hc2.lt
      clear hc2 ho2
      cases t with
      | true =>
        go_wp2_with fail
        refine (str_any b sv len _ 5 5 _ (HC2.out.alloc _) (by have := HL2.out; omega) (by omega) (by omega) ?_).mono ?_
        · exact cells_str _ _ _ _ (by rfl) (by kernel_rfl)
        rintro e w3 ⟨s, rfl, hs, hc3, ho3⟩
        have HC3 := Lib.hid hc3; have HO3 := Lib.hid (HO2.out.trans ((Kept.alloc b w2 _).trans ho3))
        clear hc3 ho3
        go_wp2
        go_roundw
        case rel => exact ⟨k - 1, _, by omega, by go_num, rfl, by rw [size_app]; omega, HC3.out, HO3.out⟩
        case measure => simp [intOf] <;> omega
      | false =>
        go_wp2_with fail
        refine (tag_any b sv len _ HC2.out).mono ?_
        rintro e w3 ⟨s, rfl, hs, hc3, ho3⟩
        have hsz := hs.1
        have HC3 := Lib.hid hc3; have HO3 := Lib.hid (HO2.out.trans ho3)
        clear hc3 ho3 hs
        go_wp2
        go_roundw
        case rel => exact ⟨k - 1, _, by omega, by go_num, rfl, by rw [size_app, size_app, size_app]; show S.size + 1 + s.size + 1 + _ ≤ _; omega, HC3.out, HO3.out⟩
        case measure => simp [intOf] <;> omega
    · go_wp2_with fail
      refine (once_any b sv len 6 _ HCU.out).mono ?_
      rintro e w2 ⟨t, rfl, hc2, ho2⟩
      have HC2 := Lib.hid hc2; have HO2 := Lib.hid (HK.out.trans ho2); have HL2 := Lib.hid hc2.lt
      clear hc2 ho2
      cases t with
      | true =>
        go_wp2_with fail
        refine (str_any b sv len _ 3 3 _ (HC2.out.alloc _) (by have := HL2.out; omega) (by omega) (by omega) ?_).mono ?_
        · exact cells_str _ _ _ _ (by rfl) (by kernel_rfl)
        rintro e w3 ⟨s, rfl, hs, hc3, ho3⟩
        have HC3 := Lib.hid hc3; have HO3 := Lib.hid (HO2.out.trans ((Kept.alloc b w2 _).trans ho3))
        clear hc3 ho3
        go_wp2_with fail
        go_ret
        exact ⟨_, rfl, by show (S ++ s).size ≤ 6000; rw [size_app]; omega, HC3.out, HO3.out⟩
      | false =>
        go_wp2_with fail
        go_ret
        exact ⟨_, rfl, by show S.size ≤ 6000; omega, HC2.out, HO2.out⟩

set_option maxRecDepth 100000 in
set_option maxHeartbeats 2000000 in
theorem page6_any (b : Nat) (sv : Value) (len : Nat) (w : World) (hc : Cur b sv len w) :
    Calls Tryz.prog 90 #[.pointer (some ⟨b, 0, none⟩), .int .i64 6] w (StrP Pg b sv len w) := by
  have HC := Lib.hid hc; clear hc
  go_enter Tryz.func90, Tryz.ntmps90
  go_wp2_with fail
  refine (below_any b sv len 7 _ HC.out).mono ?_
  rintro e w1 ⟨x, rfl, hx0, hx1, hx2, hc1, ho1⟩
  have hx3 := hx1 (by omega)
  obtain ⟨m, rfl⟩ := Int.eq_ofNat_of_zero_le hx0
  have hm : m ≤ 6 := by omega
  have HC1 := Lib.hid hc1; have HO1 := Lib.hid ho1.kept; clear hc1 ho1 hx1 hx2 hx0 hx3
  go_wp2_with fail
  go_loopw [5, 6] (fun s i wr => ∃ (k : Nat) (S : ByteArray), k ≤ 6 ∧ i = .int .i64 k ∧ s = .string S ∧ S.size + 500 * k ≤ 3000 ∧ Cur b sv len wr ∧ Kept b w wr) (fun _ i _ => (intOf i).toNat)
  case atStart => exact ⟨m, ⟨#[]⟩, hm, rfl, rfl, by show 0 + 500 * m ≤ 3000; omega, HC1.out, HO1.out⟩
  case round =>
    obtain ⟨k, S, hk, rfl, rfl, hS, hcu, hke⟩ := hrel
    have HCU := Lib.hid hcu; have HK := Lib.hid hke
    clear hcu hke HC1 HO1
    by_cases hlt : (0 : Int) < (k : Int)
    · go_wp2_with fail
      refine (once_any b sv len 3 _ HCU.out).mono ?_
      rintro e w2 ⟨t, rfl, hc2, ho2⟩
      have HC2 := Lib.hid hc2; have HO2 := Lib.hid (HK.out.trans ho2); have HL2 := Lib.hid hc2.lt
      clear hc2 ho2
      cases t with
      | true =>
        go_wp2_with fail
        refine (str_any b sv len _ 5 5 _ (HC2.out.alloc _) (by have := HL2.out; omega) (by omega) (by omega) ?_).mono ?_
        · exact cells_str _ _ _ _ (by rfl) (by kernel_rfl)
        rintro e w3 ⟨s, rfl, hs, hc3, ho3⟩
        have HC3 := Lib.hid hc3; have HO3 := Lib.hid (HO2.out.trans ((Kept.alloc b w2 _).trans ho3))
        clear hc3 ho3
        go_wp2
        go_roundw
        case rel => exact ⟨k - 1, _, by omega, by go_num, rfl, by rw [size_app]; omega, HC3.out, HO3.out⟩
        case measure => simp [intOf] <;> omega
      | false =>
        go_wp2_with fail
        refine (tag_any b sv len _ HC2.out).mono ?_
        rintro e w3 ⟨s, rfl, hs, hc3, ho3⟩
        have hsz := hs.1
        have HC3 := Lib.hid hc3; have HO3 := Lib.hid (HO2.out.trans ho3)
        clear hc3 ho3 hs
        go_wp2
        go_roundw
        case rel => exact ⟨k - 1, _, by omega, by go_num, rfl, by rw [size_app, size_app, size_app]; show S.size + 1 + s.size + 1 + _ ≤ _; omega, HC3.out, HO3.out⟩
        case measure => simp [intOf] <;> omega
    · go_wp2_with fail
      refine (once_any b sv len 6 _ HCU.out).mono ?_
      rintro e w2 ⟨t, rfl, hc2, ho2⟩
      have HC2 := Lib.hid hc2; have HO2 := Lib.hid (HK.out.trans ho2); have HL2 := Lib.hid hc2.lt
      clear hc2 ho2
      cases t with
      | true =>
        go_wp2_with fail
        refine (str_any b sv len _ 3 3 _ (HC2.out.alloc _) (by have := HL2.out; omega) (by omega) (by omega) ?_).mono ?_
        · exact cells_str _ _ _ _ (by rfl) (by kernel_rfl)
        rintro e w3 ⟨s, rfl, hs, hc3, ho3⟩
        have HC3 := Lib.hid hc3; have HO3 := Lib.hid (HO2.out.trans ((Kept.alloc b w2 _).trans ho3))
        clear hc3 ho3
        go_wp2_with fail
        go_ret
        exact ⟨_, rfl, by show (S ++ s).size ≤ 6000; rw [size_app]; omega, HC3.out, HO3.out⟩
      | false =>
        go_wp2_with fail
        go_ret
        exact ⟨_, rfl, by show S.size ≤ 6000; omega, HC2.out, HO2.out⟩

set_option maxRecDepth 100000 in
set_option maxHeartbeats 2000000 in
theorem page3_any (b : Nat) (sv : Value) (len : Nat) (w : World) (hc : Cur b sv len w) :
    Calls Tryz.prog 90 #[.pointer (some ⟨b, 0, none⟩), .int .i64 3] w (StrP Pg b sv len w) := by
  have HC := Lib.hid hc; clear hc
  go_enter Tryz.func90, Tryz.ntmps90
  go_wp2_with fail
  refine (below_any b sv len 4 _ HC.out).mono ?_
  rintro e w1 ⟨x, rfl, hx0, hx1, hx2, hc1, ho1⟩
  have hx3 := hx1 (by omega)
  obtain ⟨m, rfl⟩ := Int.eq_ofNat_of_zero_le hx0
  have hm : m ≤ 3 := by omega
  have HC1 := Lib.hid hc1; have HO1 := Lib.hid ho1.kept; clear hc1 ho1 hx1 hx2 hx0 hx3
  go_wp2_with fail
  go_loopw [5, 6] (fun s i wr => ∃ (k : Nat) (S : ByteArray), k ≤ 3 ∧ i = .int .i64 k ∧ s = .string S ∧ S.size + 500 * k ≤ 1500 ∧ Cur b sv len wr ∧ Kept b w wr) (fun _ i _ => (intOf i).toNat)
  case atStart => exact ⟨m, ⟨#[]⟩, hm, rfl, rfl, by show 0 + 500 * m ≤ 1500; omega, HC1.out, HO1.out⟩
  case round =>
    obtain ⟨k, S, hk, rfl, rfl, hS, hcu, hke⟩ := hrel
    have HCU := Lib.hid hcu; have HK := Lib.hid hke
    clear hcu hke HC1 HO1
    by_cases hlt : (0 : Int) < (k : Int)
    · go_wp2_with fail
      refine (once_any b sv len 3 _ HCU.out).mono ?_
      rintro e w2 ⟨t, rfl, hc2, ho2⟩
      have HC2 := Lib.hid hc2; have HO2 := Lib.hid (HK.out.trans ho2); have HL2 := Lib.hid hc2.lt
      clear hc2 ho2
      cases t with
      | true =>
        go_wp2_with fail
        refine (str_any b sv len _ 5 5 _ (HC2.out.alloc _) (by have := HL2.out; omega) (by omega) (by omega) ?_).mono ?_
        · exact cells_str _ _ _ _ (by rfl) (by kernel_rfl)
        rintro e w3 ⟨s, rfl, hs, hc3, ho3⟩
        have HC3 := Lib.hid hc3; have HO3 := Lib.hid (HO2.out.trans ((Kept.alloc b w2 _).trans ho3))
        clear hc3 ho3
        go_wp2
        go_roundw
        case rel => exact ⟨k - 1, _, by omega, by go_num, rfl, by rw [size_app]; omega, HC3.out, HO3.out⟩
        case measure => simp [intOf] <;> omega
      | false =>
        go_wp2_with fail
        refine (tag_any b sv len _ HC2.out).mono ?_
        rintro e w3 ⟨s, rfl, hs, hc3, ho3⟩
        have hsz := hs.1
        have HC3 := Lib.hid hc3; have HO3 := Lib.hid (HO2.out.trans ho3)
        clear hc3 ho3 hs
        go_wp2
        go_roundw
        case rel => exact ⟨k - 1, _, by omega, by go_num, rfl, by rw [size_app, size_app, size_app]; show S.size + 1 + s.size + 1 + _ ≤ _; omega, HC3.out, HO3.out⟩
        case measure => simp [intOf] <;> omega
    · go_wp2_with fail
      refine (once_any b sv len 6 _ HCU.out).mono ?_
      rintro e w2 ⟨t, rfl, hc2, ho2⟩
      have HC2 := Lib.hid hc2; have HO2 := Lib.hid (HK.out.trans ho2); have HL2 := Lib.hid hc2.lt
      clear hc2 ho2
      cases t with
      | true =>
        go_wp2_with fail
        refine (str_any b sv len _ 3 3 _ (HC2.out.alloc _) (by have := HL2.out; omega) (by omega) (by omega) ?_).mono ?_
        · exact cells_str _ _ _ _ (by rfl) (by kernel_rfl)
        rintro e w3 ⟨s, rfl, hs, hc3, ho3⟩
        have HC3 := Lib.hid hc3; have HO3 := Lib.hid (HO2.out.trans ((Kept.alloc b w2 _).trans ho3))
        clear hc3 ho3
        go_wp2_with fail
        go_ret
        exact ⟨_, rfl, by show (S ++ s).size ≤ 6000; rw [size_app]; omega, HC3.out, HO3.out⟩
      | false =>
        go_wp2_with fail
        go_ret
        exact ⟨_, rfl, by show S.size ≤ 6000; omega, HC2.out, HO2.out⟩

/- DrawK -/
open Go.ChangeShapes Go.WideShapes Go.ChangeAt Go.RowKit

/-- A draw leaves what the call owns, but for the reader's block. -/
theorem ownK_kept {α : Type} {enc : α → List Value} {k : Nat} {e : TypeId} {lo hi b : Nat} {w w' : World} {v : Value} {xs : List α} (h : OwnK enc k e lo hi w v xs) (hk : Kept b w w') (hb : b < lo) : OwnK enc k e lo hi w' v xs := by
  refine ⟨⟨h.1.1, ?_⟩, h.2⟩
  rcases h.1.2 with h1 | ⟨g, cap, cur, h1, h2, h3, h4⟩
  · exact Or.inl h1
  · exact Or.inr ⟨g, cap, cur, h1, h2, by rw [hk.block g (heap_lt h3) (by omega)]; exact h3, h4⟩
theorem own_kept {k : IntKind} {e : TypeId} {lo hi b : Nat} {w w' : World} {v : Value} {zs : List Int} (h : Own k e lo hi w v zs) (hk : Kept b w w') (hb : b < lo) : Own k e lo hi w' v zs := by
  refine ⟨⟨h.1.1, ?_⟩, h.2⟩
  rcases h.1.2 with h1 | ⟨g, cap, cur, h1, h2, h3, h4⟩
  · exact Or.inl h1
  · exact Or.inr ⟨g, cap, cur, h1, h2, by rw [hk.block g (heap_lt h3) (by omega)]; exact h3, h4⟩
theorem bdM_kept {B b : Nat} {w0 w w' : World} {nv ov : Value} {ns : List Nv} {zs : List Int} (h : BdM B w0 w nv ov ns zs) (hk : Kept b w w') (hb : b < B) : BdM B w' w' nv ov ns zs :=
  ⟨⟨⟨(ownK_kept h.n.row.own hk hb).1, Below.refl _ _, Nat.le_trans h.n.row.size hk.size⟩, fun p hp => (ownK_kept (h.n.inn p hp) hk hb).mono (Nat.le_refl _) hk.size, h.n.nod⟩, ⟨(own_kept h.o.own hk hb).1, Below.refl _ _, Nat.le_trans h.o.size hk.size⟩⟩

theorem kept_set {b r : Nat} {w w' : World} (h : Kept b w w') (hr : w.heap.size ≤ r) (o : Nat) (v : Value) : Kept b w (w'.setCell ⟨r, o, none⟩ v) :=
  ⟨h.os, h.tape, h.output, Nat.le_trans h.size (size_set _ _ _), fun k hk hb => by rw [Below.heap_setCell _ _ _ _ (show k ≠ r by omega)]; exact h.block k hk hb⟩
theorem cur_setB {b r : Nat} {sv : Value} {len : Nat} {w : World} (h : Cur b sv len w) (hr : b < r) (o : Nat) (v : Value) : Cur b sv len (w.setCell ⟨r, o, none⟩ v) := by
  obtain ⟨i, hh, h1, h2, a, cap, h3, h4, h5⟩ := h
  refine ⟨i, hh, by rw [Below.heap_setCell _ _ _ _ (show b ≠ r by omega)]; exact h1, h2, a, cap, h3, h4, ?_⟩
  rcases h5 with h5 | ⟨blk, off, h6, h7, h8⟩
  · exact Or.inl h5
  · refine Or.inr ⟨blk, off, h6, h7, fun j hj => ?_⟩
    obtain ⟨n, n0, n1, n2⟩ := h8 j hj
    exact ⟨n, n0, n1, by rw [World.cell?_of_block (w := w) (Below.heap_setCell _ _ _ _ (show blk ≠ r by omega))]; exact n2⟩
theorem box_kept {b c : Nat} {w w' : World} {x y : Value} (h : Box2 w c x y) (hk : Kept b w w') (hb : c ≠ b) : Box2 w' c x y := (hk.block c h.lt hb).trans h

/-- A builder that was drawn. -/
def BdGot (b : Nat) (sv : Value) (len : Nat) (w : World) (e : Ending) (w' : World) : Prop :=
  ∃ na nn nc oa on oc ns zs, e = .returned (.agg #[.slice na nn nc, .slice oa on oc]) ∧ BdOk 6000 ⟨ns.map Prod.fst, zs⟩ ∧ BdM w.heap.size w' w' (.slice na nn nc) (.slice oa on oc) ns zs ∧ Cur b sv len w' ∧ Kept b w w'

theorem cur_belowB {b B : Nat} {sv : Value} {len : Nat} {w w' : World} (h : Cur b sv len w) (k : Below B w w') (hB : b < B) : Cur b sv len w' := by
  obtain ⟨i, x, h1, h2, a, cap, e, h3, h4⟩ := h
  refine ⟨i, x, by rw [k.block b hB]; exact h1, h2, a, cap, e, h3, ?_⟩
  rcases h4 with h4 | ⟨blk, off, e2, hb, hc⟩
  · exact Or.inl h4
  · refine Or.inr ⟨blk, off, e2, hb, fun j hj => ?_⟩
    obtain ⟨n, n0, n1, hn⟩ := hc j hj
    exact ⟨n, n0, n1, by rw [k.cell (by show blk < _; omega)]; exact hn⟩
theorem kept_down {b : Nat} {w W W' : World} (h : Kept b w W) (k : Below w.heap.size W W') : Kept b w W' :=
  ⟨k.os.trans h.os, k.tape.trans h.tape, k.output.trans h.output, Nat.le_trans h.size k.size, fun i hi hn => (k.block i hi).trans (h.block i hi hn)⟩

theorem hp_al {w : World} {g : Nat} {o : Obj} (h : w.heap[g]? = some o) (o' : Obj) : (w.alloc o').heap[g]? = some o := below_heap ((Below.refl _ w).alloc (Nat.le_refl _) o') (heap_lt h) h
theorem hp_kp {b g : Nat} {w w' : World} {o : Obj} (hk : Kept b w w') (hne : g ≠ b) (h : w.heap[g]? = some o) : w'.heap[g]? = some o := (hk.block g (heap_lt h) hne).trans h

/-- A reader, a builder of the call's own, and two boxes that hold builders. -/
structure AnyAt (b : Nat) (sv : Value) (len : Nat) (w W : World) (c : Nat) (p q x y nv ov : Value) (ns : List Nv) (zs : List Int) : Prop where
  lb : b < w.heap.size
  lc : w.heap.size < c
  cur : Cur b sv len W
  kept : Kept b w W
  m : BdM w.heap.size W W nv ov ns zs
  bx : Box2 W w.heap.size p q
  bc : Box2 W c x y
theorem AnyAt.bel {b : Nat} {sv : Value} {len : Nat} {w W W' : World} {c : Nat} {p q x y nv ov : Value} {ns : List Nv} {zs : List Int} (h : AnyAt b sv len w W c p q x y nv ov ns zs) (hb : Below W.heap.size W W') : AnyAt b sv len w W' c p q x y nv ov ns zs :=
  ⟨h.lb, h.lc, h.cur.below hb, h.kept.trans (Kept.of_below hb), (h.m.later hb).down (Below.refl _ _) (Nat.le_refl _), h.bx.later hb, h.bc.later hb⟩
theorem any_dr {b : Nat} {sv : Value} {len : Nat} {w W : World} {c : Nat} {p q x y nv ov : Value} {ns : List Nv} {zs : List Int} (h : AnyAt b sv len w W c p q x y nv ov ns zs) : AnyAt b sv len w W.drew c p q x y nv ov ns zs := h.bel (Below.refl _ _).drew
theorem any_al {b : Nat} {sv : Value} {len : Nat} {w W : World} {c : Nat} {p q x y nv ov : Value} {ns : List Nv} {zs : List Int} (h : AnyAt b sv len w W c p q x y nv ov ns zs) (o : Obj) : AnyAt b sv len w (W.alloc o) c p q x y nv ov ns zs := h.bel ((Below.refl _ _).alloc (Nat.le_refl _) o)
theorem AnyAt.draw {b : Nat} {sv : Value} {len : Nat} {w W W' : World} {c : Nat} {p q x y nv ov : Value} {ns : List Nv} {zs : List Int} (h : AnyAt b sv len w W c p q x y nv ov ns zs) (hc : Cur b sv len W') (hk : Kept b W W') : AnyAt b sv len w W' c p q x y nv ov ns zs :=
  ⟨h.lb, h.lc, hc, h.kept.trans hk, bdM_kept h.m hk h.lb, box_kept h.bx hk (by have := h.lb; omega), box_kept h.bc hk (by have := h.lb; have := h.lc; omega)⟩
theorem AnyAt.num {b : Nat} {sv : Value} {len : Nat} {w W W' : World} {c : Nat} {p q x y nv ov ov' : Value} {ns : List Nv} {zs zs' : List Int} (h : AnyAt b sv len w W c p q x y nv ov ns zs) (hm : Mine .i64 3 w.heap.size W W' ov' zs') (hg : W.grownBy W' ov.ownBlock) : AnyAt b sv len w W' c p q x y nv ov' ns zs' :=
  ⟨h.lb, h.lc, cur_belowB h.cur hm.below h.lb, kept_down h.kept hm.below, (h.m.num hm hg).down (Below.refl _ _) (Nat.le_refl _), (hg.block _ h.bx.lt (row_ne_box h.m.o.row h.bx bd_ne.2.2.symm)).trans h.bx, (hg.block _ h.bc.lt (row_ne_box h.m.o.row h.bc bd_ne.2.2.symm)).trans h.bc⟩
theorem AnyAt.node {b : Nat} {sv : Value} {len : Nat} {w W W' : World} {c : Nat} {p q x y nv nv' ov : Value} {ns ns' : List Nv} {zs : List Int} (h : AnyAt b sv len w W c p q x y nv ov ns zs) (hm : MineN w.heap.size W W' nv' ns') (hg : W.grownBy W' nv.ownBlock) : AnyAt b sv len w W' c p q x y nv' ov ns' zs :=
  ⟨h.lb, h.lc, cur_belowB h.cur hm.row.below h.lb, kept_down h.kept hm.row.below, (h.m.node hm hg).down (Below.refl _ _) (Nat.le_refl _), (hg.block _ h.bx.lt (row_ne_box h.m.n.row.row h.bx bd_ne.1.symm)).trans h.bx, (hg.block _ h.bc.lt (row_ne_box h.m.n.row.row h.bc bd_ne.1.symm)).trans h.bc⟩
theorem AnyAt.set0 {b : Nat} {sv : Value} {len : Nat} {w W : World} {c : Nat} {p q x y nv ov : Value} {ns : List Nv} {zs : List Int} (h : AnyAt b sv len w W c p q x y nv ov ns zs) (u : Value) : AnyAt b sv len w (W.setCell ⟨c, 0, none⟩ u) c p q u y nv ov ns zs :=
  ⟨h.lb, h.lc, cur_setB h.cur (Nat.lt_trans h.lb h.lc) _ _, kept_set h.kept (Nat.le_of_lt h.lc) _ _, (h.m.setT h.bc (Nat.le_of_lt h.lc)).down (Below.refl _ _) (Nat.le_refl _), h.bx.far (Nat.ne_of_lt h.lc) u, h.bc.set0 u⟩
theorem AnyAt.set1 {b : Nat} {sv : Value} {len : Nat} {w W : World} {c : Nat} {p q x y nv ov : Value} {ns : List Nv} {zs : List Int} (h : AnyAt b sv len w W c p q x y nv ov ns zs) (u : Value) : AnyAt b sv len w (W.setCell ⟨c, 1, none⟩ u) c p q x u nv ov ns zs :=
  ⟨h.lb, h.lc, cur_setB h.cur (Nat.lt_trans h.lb h.lc) _ _, kept_set h.kept (Nat.le_of_lt h.lc) _ _, (h.m.setT h.bc (Nat.le_of_lt h.lc)).down (Below.refl _ _) (Nat.le_refl _), h.bx.far (Nat.ne_of_lt h.lc) u, h.bc.set1 u⟩
/-- append of one number to numbers of the call's own, at a step of a drawn region. -/
theorem step_appIG {w : World} {ops : Array Oper} {o : Oper} {a : Act} {K : Act → World → Prop} {Q : Exit → Act → World → Prop} {E : Prop} (hgd : o.guard = none) (s x : Operand)
    (ho : o.op = .call { callee := .builtin .append, args := #[s, x], argTypes := #[38, 38] })
    (B : Nat) (w0 : World) (v : Value) (zs : List Int) (hs : a.eval s = v) (hM : Mine .i64 3 B w0 w v zs) (ad : Addr) (top : Nat) (z : Int) (hx : a.eval x = .slice (some ad) 1 1) (hr : Reads .i64 top w (.slice (some ad) 1 1) [z])
    (n : Nat) (hn : zs.length = n) (hlen : n ≤ 68719476736)
    (h : ∀ ad' cap' w', Mine .i64 3 B w0 w' (.slice ad' (n + 1) cap') (zs ++ [z]) → w.grownBy w' v.ownBlock → K (a.put o.dst (.slice ad' (n + 1) cap')) w') :
    if Region.wanted o (yielded ops a.tmps) = true then Oper.wp Tryz.prog o a w K Q else E := by
  subst hn
  have hw : Region.wanted o (yielded ops a.tmps) = true := by simp [Region.wanted, hgd]
  rw [if_pos hw]
  obtain ⟨i, hi, hz, hsize, hby⟩ := info_parts infoInt
  refine wp_append_own _ s x _ ho B _ i _ 1 8 Tryz.underlying38 hi hz hsize hby (by rfl) (by decide) v zs.length _ hs hM.row ad 1 1 ([z].map (.int .i64)) hx (by simp) hr.news (nums_oneCell _ _) ?_ ?_ hM.size ?_
  · unfold maxLen; omega
  · omega
  · intro v' w' hown hgr _
    have hM' : Mine .i64 3 B w0 w' v' (zs ++ [z]) := hM.grow (ys := [z]) hown hgr
    obtain ⟨a', c', e⟩ := mine_form hM'
    rw [List.length_append] at e
    subst e
    exact h _ _ w' hM' hgr
theorem readsI_blk {w : World} {g : Nat} {z : Int} (hg : w.heap[g]? = some (.cells #[.int .i64 z] 3 (0, 0))) : Reads .i64 (g + 1) w (.slice (some ⟨g, 0, none⟩) 1 1) [z] := by
  refine ⟨_, 1, rfl, by simp, by omega, (fun h => by cases h), Or.inr ⟨_, 0, rfl, by omega, fun j hj => ?_⟩⟩
  have : j = 0 := by simp at hj; omega
  subst this
  exact box_cell hg rfl
def iCellB : Value → Bool
  | .int .i64 v => decide (-9223372036854775808 ≤ v) && decide (v ≤ 9223372036854775807)
  | _ => false
theorem cells_blk {w : World} {g : Nat} {C : Array Value} {T : TypeId} (m : Nat) (hq : w.heap[g]? = some (.cells C T (0, 0))) (hm : C.size = m) (h : C.all iCellB = true) : ∀ j, j < m → ∃ v : Int, -9223372036854775808 ≤ v ∧ v ≤ 9223372036854775807 ∧ w.cell? ⟨g, j, none⟩ = some (.int .i64 v) := by
  subst hm
  intro j hj
  have h1 : iCellB C[j] = true := by rw [Array.all_eq_true] at h; exact h j hj
  have h2 : w.cell? ⟨g, j, none⟩ = some C[j] := box_cell hq (by simp [hj])
  rw [h2]
  cases hc : C[j] with
  | int k v =>
    rw [hc] at h1
    cases k with
    | i64 => simp only [iCellB, Bool.and_eq_true, decide_eq_true_eq] at h1; exact ⟨v, h1.1, h1.2, rfl⟩
    | _ => simp [iCellB] at h1
  | _ => rw [hc] at h1; simp [iCellB] at h1
theorem cells_gtb {w : World} {g : Nat} {C : Array Value} {T : TypeId} (m : Nat) (hq : w.heap[g]? = some (.cells C T (0, 0))) (hm : C.size = m) (h : C.all gtCell = true) : ∀ j, j < m → ∃ s : ByteArray, Gt s ∧ w.cell? ⟨g, j, none⟩ = some (.string s) := by
  subst hm
  intro j hj
  have h1 : gtCell C[j] = true := by rw [Array.all_eq_true] at h; exact h j hj
  have h2 : w.cell? ⟨g, j, none⟩ = some C[j] := box_cell hq (by simp [hj])
  rw [h2]
  cases hc : C[j] with
  | string s => rw [hc] at h1; exact ⟨s, gtCell_ok h1, rfl⟩
  | _ => rw [hc] at h1; simp [gtCell] at h1

/- DrawF -/
open Go.ChangeShapes Go.WideShapes Go.ChangeAt Go.RowKit

/-- Few nodes, few open elements, short texts: one more of each than a valid builder may have. -/
structure BdFit (b : Bd) : Prop where
  nodes : b.nodes.length ≤ 41
  opn : b.opn.length ≤ 9
  text : ∀ x ∈ b.nodes, x.text.size ≤ 6000
  att : ∀ x ∈ b.nodes, x.attrs.length ≤ 4
  nam : ∀ x ∈ b.nodes, x.name.size ≤ 6000
theorem BdOk.fit {b : Bd} (h : BdOk 6000 b) : BdFit b := ⟨Nat.le_succ_of_le h.nodes, Nat.le_succ_of_le h.opn, h.text, h.att, h.nam⟩
def AnyGot (b : Nat) (sv : Value) (len : Nat) (w : World) (e : Ending) (w' : World) : Prop :=
  ∃ na nn nc oa on oc ns zs, e = .returned (.agg #[.slice na nn nc, .slice oa on oc]) ∧ BdFit ⟨ns.map Prod.fst, zs⟩ ∧ BdM w.heap.size w' w' (.slice na nn nc) (.slice oa on oc) ns zs ∧ Cur b sv len w' ∧ Kept b w w'

/-- What l6Any gives, as a premise: what DrawAny shows. -/
def AnyS : Prop := ∀ (b : Nat) (sv : Value) (len : Nat) (w : World), Cur b sv len w → Calls Tryz.prog 78 #[.pointer (some ⟨b, 0, none⟩)] w (AnyGot b sv len w)
/-- A draw's own reader above its box, a drawn builder, and a box that holds it. -/
structure DrwAt (b : Nat) (sv : Value) (len : Nat) (w W : World) (c : Nat) (p q x y nv ov : Value) (ns : List Nv) (zs : List Int) : Prop where
  lb : w.heap.size < b
  lc : b < c
  cur : Cur b sv len W
  bel : Below w.heap.size w W
  m : BdM (b + 1) W W nv ov ns zs
  bx : Box2 W w.heap.size p q
  bc : Box2 W c x y
theorem DrwAt.on {b : Nat} {sv : Value} {len : Nat} {w W W' : World} {c : Nat} {p q x y nv ov : Value} {ns : List Nv} {zs : List Int} (h : DrwAt b sv len w W c p q x y nv ov ns zs) (hb : Below W.heap.size W W') : DrwAt b sv len w W' c p q x y nv ov ns zs :=
  ⟨h.lb, h.lc, h.cur.below hb, h.bel.trans (hb.mono h.bel.size), (h.m.later hb).down (Below.refl _ _) (Nat.le_refl _), h.bx.later hb, h.bc.later hb⟩
theorem DrwAt.draw {b : Nat} {sv : Value} {len : Nat} {w W W' : World} {c : Nat} {p q x y nv ov : Value} {ns : List Nv} {zs : List Int} (h : DrwAt b sv len w W c p q x y nv ov ns zs) (hc : Cur b sv len W') (hk : Kept b W W') : DrwAt b sv len w W' c p q x y nv ov ns zs :=
  ⟨h.lb, h.lc, hc, h.bel.trans ((hk.below (Nat.le_of_lt h.cur.lt)).mono (Nat.le_of_lt h.lb)), bdM_kept h.m hk (Nat.lt_succ_self _), box_kept h.bx hk (Nat.ne_of_lt h.lb), box_kept h.bc hk (Nat.ne_of_gt h.lc)⟩
theorem DrwAt.fin {b : Nat} {sv : Value} {len : Nat} {w W : World} {c : Nat} {p q x y nv ov : Value} {ns : List Nv} {zs : List Int} (h : DrwAt b sv len w W c p q x y nv ov ns zs) (u v : Value) :
    BdM w.heap.size ((W.setCell ⟨w.heap.size, 0, none⟩ u).setCell ⟨w.heap.size, 1, none⟩ v) ((W.setCell ⟨w.heap.size, 0, none⟩ u).setCell ⟨w.heap.size, 1, none⟩ v) nv ov ns zs ∧ Below w.heap.size w ((W.setCell ⟨w.heap.size, 0, none⟩ u).setCell ⟨w.heap.size, 1, none⟩ v) ∧ Box2 ((W.setCell ⟨w.heap.size, 0, none⟩ u).setCell ⟨w.heap.size, 1, none⟩ v) w.heap.size u v :=
  ⟨((((h.m.down (Below.refl _ _) (B' := w.heap.size) (Nat.le_of_lt (Nat.lt_succ_of_lt h.lb))).setT h.bx (Nat.le_refl _)).setT (h.bx.set0 u) (Nat.le_refl _))).down (Below.refl _ _) (Nat.le_refl _), (h.bel.setCell (Nat.le_refl _) _).setCell (Nat.le_refl _) _, (h.bx.set0 u).set1 v⟩
/-- A draw of a builder and of something beside it. -/
def DrawnB (P : Value → Prop) (w : World) (e : Ending) (w' : World) : Prop :=
  ∃ na nn nc oa on oc ns zs r, e = .returned (.tuple #[.agg #[.slice na nn nc, .slice oa on oc], r]) ∧ P r ∧ BdFit ⟨ns.map Prod.fst, zs⟩ ∧ BdM w.heap.size w' w' (.slice na nn nc) (.slice oa on oc) ns zs ∧ Below w.heap.size w w'

/- Dr7C -/
open Go.ChangeShapes Go.WideShapes Go.ChangeAt Go.RowKit

theorem kept_own7 (w : World) (r o : Nat) (v : Value) : Kept r w (w.setCell ⟨r, o, none⟩ v) :=
  ⟨((Below.refl 0 w).setCell (Nat.zero_le r) v).os, ((Below.refl 0 w).setCell (Nat.zero_le r) v).tape, ((Below.refl 0 w).setCell (Nat.zero_le r) v).output, ((Below.refl 0 w).setCell (Nat.zero_le r) v).size, fun _ _ hk => Below.heap_setCell _ _ _ _ hk⟩
theorem MineH.down {B B' : Nat} {w : World} {v : Value} {ss : List Shv} (h : MineH B w w v ss) (hB : B' ≤ B) : MineH B' w w v ss :=
  ⟨⟨(h.row.own.mono hB (Nat.le_refl _)).1, Below.refl _ _, Nat.le_trans hB h.row.size⟩, fun p hp => (h.inn p hp).mono hB (Nat.le_refl _)⟩
/-- Few sheets, each out of a short text. -/
def ShsIs (ss : List Shv) : Prop := ss.length ≤ 2 ∧ ∀ p ∈ ss, ∃ s : ByteArray, s.size ≤ 1000 ∧ p.1 = prsS s
def DrawnHS (w : World) (e : Ending) (w' : World) : Prop :=
  ∃ (a : Option Addr) (n c : Nat) (ss : List Shv) (nm : ByteArray), e = .returned (.tuple #[.slice a n c, .string nm]) ∧ ShsIs ss ∧ Gt nm ∧ MineH w.heap.size w' w' (.slice a n c) ss ∧ Below w.heap.size w w'
def DrawnHB (w : World) (e : Ending) (w' : World) : Prop :=
  ∃ (a : Option Addr) (n c : Nat) (ss : List Shv) (na : Option Addr) (nn nc : Nat) (oa : Option Addr) (on oc : Nat) (ns : List Nv) (zs : List Int) (z : Int), e = .returned (.tuple #[.slice a n c, .agg #[.slice na nn nc, .slice oa on oc], .int .i64 z]) ∧ -1 ≤ z ∧ z ≤ 16777215 ∧ ShsIs ss ∧ MineH w.heap.size w' w' (.slice a n c) ss ∧ BdFit ⟨ns.map Prod.fst, zs⟩ ∧ BdM w.heap.size w' w' (.slice na nn nc) (.slice oa on oc) ns zs ∧ Below w.heap.size w w'

set_option maxRecDepth 100000 in
set_option maxHeartbeats 2000000 in
theorem drawColorOf_any (sv : Value) (len : Nat) (w : World) (hc : CodeOk w.heap.size w sv len) :
    Calls Tryz.prog 14 #[sv] w (DrawnHS w) := by
  have HCO := Lib.hid hc; clear hc
  go_enter Tryz.func14, Tryz.ntmps14
  go_wp2_with fail
  refine (new_any sv len _ HCO.out).mono ?_
  rintro e w1 ⟨rfl, hc1, hb1⟩
  have HC1 := Lib.hid hc1; have HB1 := Lib.hid hb1; have HL1 := Lib.hid hc1.lt; clear hc1 hb1
  go_wp2_with fail
  refine (sheets7_any _ sv len _ HC1.out).mono ?_
  rintro e w2 ⟨a, n, c, ss, rfl, hl, hall, hm, hc2, hk2⟩
  have HSS := Lib.hid (show ShsIs ss from ⟨hl, hall⟩)
  have HC2 := Lib.hid hc2; have HL2 := Lib.hid hc2.lt; have HM2 := Lib.hid hm; have HK2 := Lib.hid hk2
  clear hl hall hm hc2 hk2
  go_wp2_with fail
  refine (strP_any Gt _ sv len _ 4 4 _ (HC2.out.alloc _) (by have := HL2.out; omega) (by omega) (by omega) ?_).mono ?_
  · exact cells_gt _ _ _ _ (by rfl) (by kernel_rfl)
  rintro e w3 ⟨s, rfl, hs, hc3, hk3⟩
  have HS := Lib.hid hs
  have HK3 := Lib.hid ((Kept.alloc _ w2 _).trans hk3)
  clear hs hc3 hk3
  go_wp2_with fail
  refine bodyPost_ret (v := .tuple #[.slice a n c, .string s]) (by simp [results, Tryz.results14, go_sem]) rfl ?_
  exact ⟨a, n, c, ss, s, rfl, HSS.out, HS.out, (HM2.out.kept HK3.out HL1.out).down (Nat.le_of_lt HL1.out), HB1.out.trans ((HK2.out.trans HK3.out).below (Nat.le_of_lt HL1.out))⟩

set_option maxRecDepth 100000 in
set_option maxHeartbeats 4000000 in
theorem drawColorAt_any (HA : AnyS) (sv : Value) (len : Nat) (w : World) (hc : CodeOk w.heap.size w sv len) :
    Calls Tryz.prog 16 #[sv] w (DrawnHB w) := by
  have HCO := Lib.hid hc; have HAN := Lib.hid HA; clear hc HA
  go_enter Tryz.func16, Tryz.ntmps16
  go_wp2_with fail
  refine (new_any sv len _ (codeOk_later HCO.out ((Below.refl _ w).alloc (Nat.le_refl _) _))).mono ?_
  rintro e w0 ⟨rfl, hc1, hb1⟩
  simp only [size_alloc] at hc1 hb1 ⊢
  have HC0 := Lib.hid hc1; have HL0 := Lib.hid hc1.lt
  have HX0 := Lib.hid (below_heap hb1 (Nat.lt_succ_self _) (Box2.new w (.slice none 0 0) (.slice none 0 0)))
  have HB0 := Lib.hid (((Below.refl _ w).alloc (Nat.le_refl _) (.cells #[.slice none 0 0, .slice none 0 0] 40)).trans (hb1.mono (Nat.le_succ _)))
  clear hc1 hb1
  go_wp2_with fail
  refine (sheets7_any _ sv len _ HC0.out).mono ?_
  rintro e w1 ⟨sa, sn, sc, ss, rfl, hl, hall, hsm, hc1, hk1⟩
  have HSS := Lib.hid (show ShsIs ss from ⟨hl, hall⟩)
  have HC1 := Lib.hid hc1; have HL1 := Lib.hid hc1.lt
  have HX1 := Lib.hid (box_kept HX0.out hk1 (Nat.ne_of_lt (Nat.lt_succ_self _)))
  have HB1 := Lib.hid (HB0.out.trans ((hk1.below (Nat.le_of_lt HL0.out)).mono (Nat.le_succ _)))
  have HSM1 := Lib.hid hsm
  clear hl hall hsm hc1 hk1
  go_wp2_with fail
  refine (HAN.out _ sv len _ HC1.out).mono ?_
  rintro e w2 ⟨na, nn, nc, oa, on, oc, ns, zs, rfl, hfit, hm, hc2, hk2⟩
  have HD0 := Lib.hid (show DrwAt (w.heap.size + 1) sv len w (w2.alloc (.cells #[.slice na nn nc, .slice oa on oc] 40)) w2.heap.size (.slice none 0 0) (.slice none 0 0) (.slice na nn nc) (.slice oa on oc) (.slice na nn nc) (.slice oa on oc) ns zs from
    ⟨Nat.lt_succ_self _, Nat.lt_of_lt_of_le HC1.out.lt hk2.size, hc2.alloc _, (HB1.out.trans ((hk2.below (Nat.le_of_lt HC1.out.lt)).mono (Nat.le_succ _))).alloc (Nat.le_trans HB1.out.size hk2.size) _, (hm.later ((Below.refl _ _).alloc (Nat.le_refl _) _)).down (Below.refl _ _) HC1.out.lt, (box_kept HX1.out hk2 (Nat.ne_of_lt (Nat.lt_succ_self _))).alloc _, Box2.new _ _ _⟩)
  have HSM2 := Lib.hid (((HSM1.out.kept hk2 HL0.out).later ((Below.refl _ w2).alloc (Nat.le_refl _) (.cells #[.slice na nn nc, .slice oa on oc] 40))).here)
  have HFIT := Lib.hid hfit
  have hnn : nn ≤ 41 := by
    obtain ⟨a, c', e⟩ := mineN_form hm.n
    cases e
    have h := hfit.nodes
    rw [show (Bd.mk (ns.map Prod.fst) zs).nodes = ns.map Prod.fst from rfl, List.length_map] at h
    exact h
  clear hfit hm hc2 hk2
  obtain ⟨c, hc⟩ : ∃ c, w2.heap.size = c := ⟨_, rfl⟩
  go_wp2_with fail
  obtain ⟨W3, hW3⟩ : ∃ W, w2.alloc (.cells #[.slice na nn nc, .slice oa on oc] 40) = W := ⟨_, rfl⟩
  try simp only [hc]
  rw [hW3, hc] at HD0
  rw [hW3] at HSM2
  rw [hW3]
  have HD := HD0
  obtain ⟨⟨c0, c1⟩, f0, f1⟩ := HD.out.bc.cells
  obtain ⟨⟨p0, p1⟩, p2, p3⟩ := HD.out.bx.cells
  have v1 := HD.out.bc.lt
  have v2 := HD.out.bx.lt
  have v3 := HD.out.cur.lt
  clear HD0 hc hW3
  go_region_law (go_simp; go_at_call 79; refine (below_any _ sv len _ _ (HD.out.on (by repeat' (first | (with_reducible exact Below.refl _ _) | (with_reducible refine bl_dr ?_) | (with_reducible refine bl_al ?_ _)))).cur).mono ?_; rintro e w4 ⟨y, rfl, hy0, hy1, hy2, hBc, hBo⟩; have hyw : IntKind.i64.wrap (y - 1) = y - 1 := (by rw [IntKind.wrap_i64]; omega); have hB := DrwAt.draw (HD.out.on (by repeat' (first | (with_reducible exact Below.refl _ _) | (with_reducible refine bl_dr ?_) | (with_reducible refine bl_al ?_ _)))) hBc hBo.kept; have hSM := (HSM2.out.later (by repeat' (first | (with_reducible exact Below.refl _ _) | (with_reducible refine bl_dr ?_) | (with_reducible refine bl_al ?_ _)))).kept hBo.kept HL0.out; obtain ⟨⟨x0, x1⟩, x2, x3⟩ := hB.bc.cells; obtain ⟨⟨z0, z1⟩, z2, z3⟩ := hB.bx.cells)
  all_goals (
    have HB5 := Lib.hid hB
    have HSM := Lib.hid (((hSM.kept (kept_own7 _ w.heap.size 0 (.slice na nn nc)) (by have := HL0.out; omega)).kept (kept_own7 _ w.heap.size 1 (.slice oa on oc)) (by have := HL0.out; omega)).down (B' := w.heap.size) (by have := HL0.out; omega))
    have HP := Lib.hid (show -1 ≤ y - 1 ∧ y - 1 ≤ 16777215 by omega)
    clear hB hSM x0 x1 x2 x3 z0 z1 z2 z3 c0 c1 f0 f1 p0 p1 p2 p3 hBc hBo
    have HFIN := Lib.hid (HB5.out.fin (.slice na nn nc) (.slice oa on oc))
    obtain ⟨⟨r0, r1⟩, -⟩ := HFIN.out.2.2.cells
    (try go_wp2_with fail)
    refine bodyPost_ret (v := .tuple #[.slice sa sn sc, .agg #[.slice na nn nc, .slice oa on oc], .int .i64 (y - 1)]) (by simp [results, Tryz.results16, go_sem, r0, r1]) rfl ?_
    exact ⟨sa, sn, sc, ss, na, nn, nc, oa, on, oc, ns, zs, _, rfl, HP.out.1, HP.out.2, HSS.out, HSM.out, HFIT.out, HFIN.out.1, HFIN.out.2.1⟩)
end Go.Proofs.YtgcdfkpidcdicaaGreatDoor
