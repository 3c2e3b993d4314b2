/- Plain facts on strings as lists of bytes. No program. Helper contracts over the functions with which the laws copy, compare, measure and mark slices, by program (deep.py). Asked: what lies in memory is as named. Helper contracts over the functions with which the laws copy, compare, mark and look again at slices of bytes. Asked: the slices read as the lists named. Helper contracts over the functions with which the laws copy, compare, mark and look again at slices of integers. Asked: the slices read as the lists named. -/
import Derived.Below
import Derived.Lib.Strings
import Derived.Lib.Walk
import Derived.Lib.Slices
import Derived.Lib.Bytealg
import Derived.Laws.Strings
import Derived.Test.YtpkicliimhflgaaGreatDoorMf1
import Derived.Shelf.SlSortCmp.QuietGrown
namespace Go.Proofs.YtpkicliimhflgaaGreatDoor

theorem bytesEq {a b : ByteArray} (h : a.data.toList = b.data.toList) : a = b := by
  cases a with | mk x => cases b with | mk y => rw [show x = y from Array.toList_inj.1 h]
theorem beqL_yes {a b : ByteArray} (h : a = b) : (a.toList == b.toList) = true := by rw [h]; exact beq_self_eq_true _
theorem beqL_no {a b : ByteArray} (h : a ≠ b) : (a.toList == b.toList) = false := by
  rw [beq_eq_false_iff_ne, ByteArray.toList_eq, ByteArray.toList_eq]
  exact fun e => h (bytesEq e)
theorem append_list (a b : ByteArray) : (a ++ b).data.toList = a.data.toList ++ b.data.toList := by rw [ByteArray.data_append, Array.toList_append]
theorem size_list (a : ByteArray) : a.data.toList.length = a.size := Array.length_toList
/-- A string of these bytes. -/
def ofL (l : List UInt8) : ByteArray := ⟨l.toArray⟩
theorem ofL_list (l : List UInt8) : (ofL l).data.toList = l := rfl
theorem ofL_of (s : ByteArray) : ofL s.data.toList = s := bytesEq rfl
theorem ofL_size (l : List UInt8) : (ofL l).size = l.length := by show l.toArray.size = _; simp
theorem ofL_append (l m : List UInt8) : ofL (l ++ m) = ofL l ++ ofL m := bytesEq (by rw [append_list]; rfl)
theorem ofL_inj {l m : List UInt8} (h : ofL l = ofL m) : l = m := by rw [← ofL_list l, h, ofL_list]
theorem extract_eq (s : ByteArray) (a b : Nat) : s.extract a b = ofL ((s.data.toList.drop a).take (b - a)) := bytesEq (by rw [Lib.extract_data]; rfl)
theorem extract_pre (s : ByteArray) (b : Nat) : s.extract 0 b = ofL (s.data.toList.take b) := by rw [extract_eq, List.drop_zero, Nat.sub_zero]
theorem extract_suf (s : ByteArray) (a : Nat) : s.extract a s.size = ofL (s.data.toList.drop a) := by
  rw [extract_eq, List.take_of_length_le (by rw [List.length_drop, size_list]; exact Nat.le_refl _)]

/-- The first place of a byte, or the length. -/
def idxB (c : UInt8) : List UInt8 → Nat
  | [] => 0
  | b :: l => if b = c then 0 else idxB c l + 1
theorem idxB_le (c : UInt8) : ∀ l, idxB c l ≤ l.length
  | [] => Nat.le_refl _
  | b :: l => by
    unfold idxB
    have := idxB_le c l
    split <;> simp <;> omega
theorem idxB_at {c : UInt8} : ∀ {l : List UInt8}, idxB c l < l.length → l[idxB c l]? = some c
  | [], h => absurd h (Nat.not_lt_zero _)
  | b :: l, h => by
    by_cases e : b = c
    · subst e; unfold idxB; rw [if_pos rfl]; rfl
    · have h2 : idxB c (b :: l) = idxB c l + 1 := by conv => lhs; unfold idxB; rw [if_neg e]
      rw [h2] at h ⊢
      rw [List.getElem?_cons_succ]
      exact idxB_at (by simpa using h)
theorem idxB_before {c : UInt8} : ∀ {l : List UInt8} {j : Nat}, j < idxB c l → l[j]? ≠ some c
  | [], _, h => absurd h (Nat.not_lt_zero _)
  | b :: l, j, h => by
    by_cases e : b = c
    · subst e; unfold idxB at h; rw [if_pos rfl] at h; exact absurd h (Nat.not_lt_zero _)
    · have h2 : idxB c (b :: l) = idxB c l + 1 := by conv => lhs; unfold idxB; rw [if_neg e]
      rw [h2] at h
      cases j with
      | zero => simp [e]
      | succ j => rw [List.getElem?_cons_succ]; exact idxB_before (by omega)
theorem idxB_first {c : UInt8} {l : List UInt8} {i : Nat} (h1 : l[i]? = some c) (h2 : ∀ j, j < i → l[j]? ≠ some c) : idxB c l = i := by
  have hi : i < l.length := (List.getElem?_eq_some_iff.1 h1).1
  rcases Nat.lt_trichotomy (idxB c l) i with h | h | h
  · exact absurd (idxB_at (by omega)) (h2 _ h)
  · exact h
  · exact absurd h1 (idxB_before h)
theorem idxB_none {c : UInt8} {l : List UInt8} (h : ∀ j : Nat, l[j]? ≠ some c) : idxB c l = l.length := by
  have := idxB_le c l
  rcases Nat.lt_or_ge (idxB c l) l.length with h1 | h1
  · exact absurd (idxB_at h1) (h _)
  · omega
theorem idxB_lt_append {c : UInt8} {l : List UInt8} (m : List UInt8) (h : idxB c l < l.length) : idxB c (l ++ m) = idxB c l := by
  refine idxB_first ?_ fun j hj => ?_
  · rw [List.getElem?_append_left h]; exact idxB_at h
  · rw [List.getElem?_append_left (by omega)]; exact idxB_before hj
theorem idxB_free {c : UInt8} {l : List UInt8} (h : ∀ b ∈ l, b ≠ c) : idxB c l = l.length :=
  idxB_none fun _ hj => h c (List.mem_of_getElem? hj) rfl
theorem idxB_free_append {c : UInt8} {l : List UInt8} (m : List UInt8) (h : ∀ b ∈ l, b ≠ c) : idxB c (l ++ c :: m) = l.length := by
  refine idxB_first ?_ fun j hj => ?_
  · rw [List.getElem?_append_right (Nat.le_refl _), Nat.sub_self]; rfl
  · rw [List.getElem?_append_left hj]; exact fun hc => h c (List.mem_of_getElem? hc) rfl

/-- The pieces between the bytes c. -/
def splitB (c : UInt8) : List UInt8 → List (List UInt8)
  | [] => [[]]
  | b :: l => if b = c then [] :: splitB c l else match splitB c l with
    | [] => [[b]]
    | p :: ps => (b :: p) :: ps
def joinB (c : UInt8) : List (List UInt8) → List UInt8
  | [] => []
  | [p] => p
  | p :: q :: ps => p ++ c :: joinB c (q :: ps)
theorem splitB_ne (c : UInt8) : ∀ l, splitB c l ≠ []
  | [] => by unfold splitB; exact List.cons_ne_nil _ _
  | b :: l => by
    unfold splitB
    split
    · exact List.cons_ne_nil _ _
    · split <;> exact List.cons_ne_nil _ _
theorem joinB_cons (c : UInt8) (p : List UInt8) {ps : List (List UInt8)} (h : ps ≠ []) : joinB c (p :: ps) = p ++ c :: joinB c ps := by
  cases ps with
  | nil => exact absurd rfl h
  | cons q ps => rfl
theorem joinB_split (c : UInt8) : ∀ l, joinB c (splitB c l) = l
  | [] => rfl
  | b :: l => by
    have ih := joinB_split c l
    by_cases e : b = c
    · subst e
      have h2 : splitB b (b :: l) = [] :: splitB b l := by conv => lhs; unfold splitB; rw [if_pos rfl]
      rw [h2, joinB_cons _ _ (splitB_ne _ _), ih]; rfl
    · cases hs : splitB c l with
      | nil => exact absurd hs (splitB_ne _ _)
      | cons p ps =>
        have h2 : splitB c (b :: l) = (b :: p) :: ps := by conv => lhs; unfold splitB; rw [if_neg e, hs]
        rw [h2]
        rw [hs] at ih
        cases ps with
        | nil => show b :: p = b :: l; rw [← ih]; rfl
        | cons q ps => show b :: (p ++ c :: joinB c (q :: ps)) = b :: l; rw [← ih]; rfl
theorem splitB_free {c : UInt8} : ∀ {l : List UInt8}, (∀ b ∈ l, b ≠ c) → splitB c l = [l]
  | [], _ => rfl
  | b :: l, h => by
    have e : b ≠ c := h b List.mem_cons_self
    have ih := splitB_free (l := l) fun x hx => h x (List.mem_cons_of_mem _ hx)
    unfold splitB; rw [if_neg e, ih]
theorem splitB_at {c : UInt8} : ∀ {l : List UInt8} (m : List UInt8), (∀ b ∈ l, b ≠ c) → splitB c (l ++ c :: m) = l :: splitB c m
  | [], m, _ => by show splitB c (c :: m) = _; conv => lhs; unfold splitB; rw [if_pos rfl]
  | b :: l, m, h => by
    have e : b ≠ c := h b List.mem_cons_self
    have ih := splitB_at (l := l) m fun x hx => h x (List.mem_cons_of_mem _ hx)
    show splitB c (b :: (l ++ c :: m)) = _
    conv => lhs; unfold splitB; rw [if_neg e, ih]
/-- No piece holds the byte. -/
theorem splitB_mem {c : UInt8} : ∀ {l : List UInt8} {p : List UInt8}, p ∈ splitB c l → ∀ b ∈ p, b ≠ c
  | [], p, hp => by
    unfold splitB at hp
    rw [List.mem_singleton] at hp; subst hp
    intro b hb; cases hb
  | b :: l, p, hp => by
    by_cases e : b = c
    · unfold splitB at hp; rw [if_pos e] at hp
      rcases List.mem_cons.1 hp with h | h
      · subst h; intro x hx; cases hx
      · exact splitB_mem h
    · cases hs : splitB c l with
      | nil => exact absurd hs (splitB_ne _ _)
      | cons q qs =>
        unfold splitB at hp; rw [if_neg e, hs] at hp
        rcases List.mem_cons.1 hp with h | h
        · subst h
          intro x hx
          rcases List.mem_cons.1 hx with h2 | h2
          · rw [h2]; exact e
          · exact splitB_mem (l := l) (by rw [hs]; exact List.mem_cons_self) x h2
        · exact splitB_mem (l := l) (by rw [hs]; exact List.mem_cons_of_mem _ h)
theorem splitB_length (c : UInt8) : ∀ l, (splitB c l).length ≤ l.length + 1
  | [] => Nat.le_refl _
  | b :: l => by
    have ih := splitB_length c l
    unfold splitB
    split
    · simp; omega
    · cases hs : splitB c l with
      | nil => simp
      | cons q qs => rw [hs] at ih; simp at ih ⊢; omega
theorem splitB_piece {c : UInt8} : ∀ {l : List UInt8} {p : List UInt8}, p ∈ splitB c l → p.length ≤ l.length
  | [], p, hp => by
    unfold splitB at hp
    rw [List.mem_singleton] at hp; subst hp; exact Nat.le_refl _
  | b :: l, p, hp => by
    by_cases e : b = c
    · unfold splitB at hp; rw [if_pos e] at hp
      rcases List.mem_cons.1 hp with h | h
      · subst h; exact Nat.zero_le _
      · have := splitB_piece h; simp; omega
    · cases hs : splitB c l with
      | nil => exact absurd hs (splitB_ne _ _)
      | cons q qs =>
        unfold splitB at hp; rw [if_neg e, hs] at hp
        rcases List.mem_cons.1 hp with h | h
        · subst h
          have := splitB_piece (l := l) (p := q) (by rw [hs]; exact List.mem_cons_self)
          simp; omega
        · have := splitB_piece (l := l) (p := p) (by rw [hs]; exact List.mem_cons_of_mem _ h)
          simp; omega
/-- One round of a loop that divides a text: from 'from' on, up to the byte at i. -/
theorem split_round {c : UInt8} {l : List UInt8} {a i : Nat} (hai : a ≤ i) (hi : l[i]? = some c) (hf : ∀ j, a ≤ j → j < i → l[j]? ≠ some c) :
    splitB c (l.drop a) = (l.drop a).take (i - a) :: splitB c (l.drop (i + 1)) := by
  have hil : i < l.length := (List.getElem?_eq_some_iff.1 hi).1
  have e : l.drop a = (l.drop a).take (i - a) ++ c :: l.drop (i + 1) := by
    conv => lhs; rw [← List.take_append_drop (i - a) (l.drop a)]
    rw [List.drop_drop, show a + (i - a) = i by omega, List.drop_eq_getElem_cons hil]
    congr 2
    exact (Option.some.inj ((List.getElem?_eq_getElem hil).symm.trans hi))
  conv => lhs; rw [e]
  refine splitB_at _ fun b hb hbc => ?_
  obtain ⟨j, hj⟩ := List.mem_iff_getElem?.1 hb
  have hjl : j < i - a := by
    have := (List.getElem?_eq_some_iff.1 hj).1
    rw [List.length_take] at this; omega
  rw [List.getElem?_take, if_pos hjl, List.getElem?_drop, hbc] at hj
  exact hf (a + j) (by omega) (by omega) hj
theorem split_last {c : UInt8} {l : List UInt8} {a : Nat} (hf : ∀ j, a ≤ j → l[j]? ≠ some c) : splitB c (l.drop a) = [l.drop a] := by
  refine splitB_free fun b hb hbc => ?_
  obtain ⟨j, hj⟩ := List.mem_iff_getElem?.1 hb
  rw [List.getElem?_drop, hbc] at hj
  exact hf (a + j) (by omega) hj

end Go.Proofs.YtpkicliimhflgaaGreatDoor
namespace Go.Proofs.YtpkicliimhflgaaGreatDoor
open Go.ChangeShapes Go.WideShapes Go.ChangeAt Go.RowKit

theorem mark_anyI (k : Nat) (q : Int) (hq : q = k) (hk : k ≤ 4611686018427387904) (w : World) :
    Calls Tryz.prog 90 #[.int .i64 q] w fun e w' => e = .returned (.string (mt k)) ∧ Grw w w' := by
  subst hq; exact mark_any k hk w

/-- What a slice of this type holds. -/
def IsAttrS (x : Rw) : Prop := ∃ v n e cs, x = .sl v n 2 e cs ∧ ∀ j, j < n → ∃ (a0 : ByteArray) (a1 : ByteArray), cs[j * 2]? = some (.leaf (.string a0)) ∧ cs[j * 2 + 1]? = some (.leaf (.string a1))
theorem is_sl_AttrS {x : Rw} (h : IsAttrS x) : ∃ v n k e cs, x = .sl v n k e cs := by
  obtain ⟨v, n, e, cs, rfl, _⟩ := h
  exact ⟨v, n, _, e, cs, rfl⟩

set_option maxRecDepth 100000 in
set_option maxHeartbeats 4000000 in
theorem mk_AttrS (x : Rw) (hx : IsAttrS x) (lo hi k0 : Nat) (q : Int) (hq : q = k0) (w : World) (ho : x.OwnR lo hi w) (hd : x.blocks.Nodup) (hk : k0 + x.count ≤ 4611686018427387904) :
    Calls Tryz.prog 128 #[x.cell, .int .i64 q] w fun e w' => e = .returned (.int .i64 ((k0 + x.count : Nat) : Int)) ∧ (x.mark k0).OwnR lo hi w' ∧ OnlyB x.blocks w w' := by
  subst hq
  obtain ⟨v, n, e0, cs, rfl, hrow⟩ := hx
  rw [Rw.cell_sl]; rw [Rw.count] at hk ⊢; rw [mark_cell_sl]
  have ho2 := ho; rw [Rw.OwnR] at ho2
  have hlen : cs.length = n * 2 := by have := ho2.1.1.1; rwa [List.length_map] at this
  have hrw := ho2.1.1.2; clear ho2
  have HROW := Lib.hid hrow; have HD := Lib.hid hd; have HO0 := Lib.hid ho; have HLEN := Lib.hid hlen; have HK := Lib.hid hk; clear hrow hd ho hlen hk
  rcases hrw with ⟨rfl, h0⟩ | ⟨g, cap, cur, rfl, hg, _, hcap, hm, _⟩
  · subst h0
    have hz : cs = [] := List.eq_nil_of_length_eq_zero (by have := HLEN.out; omega)
    subst hz
    go_enter Tryz.func128, Tryz.ntmps128
    go_wp2
    refine wp_loop_rounds 1 ?_
    rw [rounds_succ]
    go_wp2
    go_ret
    exact ⟨by simp [countL], by rw [markL]; exact HO0.out, OnlyB.refl _ _⟩
  · unfold maxLen at hm
    obtain ⟨st, hst⟩ : ∃ f : Nat → List Rw, f = markTo cs k0 := ⟨_, rfl⟩
    obtain ⟨cn, hcn⟩ : ∃ f : Nat → Nat, f = fun m => k0 + countL (cs.take m) := ⟨_, rfl⟩
    have HST := Lib.hid hst; have HCN := Lib.hid hcn; clear hst hcn
    have HTOP := Lib.hid (fun m => show cn m ≤ 4611686018427387904 by rw [HCN.out]; have := countL_take_le cs m; have := HK.out; show k0 + countL (cs.take m) ≤ _; omega)
    have HNOT := Lib.hid (show g ∉ blocksL cs by have := HD.out; rw [Rw.blocks] at this; exact (List.nodup_cons.1 (show (g :: blocksL cs).Nodup from this)).1)
    have HOB := Lib.hid (show ∀ m, blocksL (st m) = blocksL cs from fun m => by rw [HST.out]; exact markTo_blocks cs k0 m)
    go_enter Tryz.func128, Tryz.ntmps128
    go_wp2
    go_loopw [1, 5] (fun m i wr => ∃ (j : Nat), j ≤ n ∧ i = .int .i64 j ∧ m = .int .i64 (cn (j * 2) : Int) ∧ (Rw.sl (.slice (some ⟨g, 0, none⟩) n cap) n 2 e0 (st (j * 2))).OwnR lo hi wr ∧ OnlyB (Rw.sl (.slice (some ⟨g, 0, none⟩) n cap) n 2 e0 cs).blocks w wr)
      (fun _ i _ => n - (intOf i).toNat)
    case atStart => exact ⟨0, Nat.zero_le _, rfl, by rw [HCN.out]; simp [countL], by rw [HST.out, Nat.zero_mul, markTo_zero]; exact HO0.out, OnlyB.refl _ _⟩
    case round =>
      obtain ⟨j, hj, rfl, rfl, hown, hon⟩ := hrel
      have HO := Lib.hid hown; have HN := Lib.hid hon
      clear hown hon
      by_cases hlt : (j : Int) < (n : Int)
      · obtain ⟨a0, a1, f0, f1⟩ := HROW.out j (by omega)
        have hc0 : cn (j * 2 + 1) = cn (j * 2) + 1 := by rw [HCN.out]; have := countL_more f0; rw [Rw.count] at this; show k0 + countL (cs.take (j * 2 + 1)) = k0 + countL (cs.take (j * 2)) + _; omega
        have hs0 : (st (j * 2)).set (j * 2) (.leaf (.string (mt (cn (j * 2))))) = st (j * 2 + 1) := by rw [HST.out, HCN.out]; have := markTo_next f0 k0; rw [mark_leaf] at this; exact this
        have ha0 : (st (j * 2))[j * 2]? = some (.leaf (.string a0)) := by rw [HST.out]; exact markTo_at f0 k0
        have HC0 := Lib.hid hc0; have HS0 := Lib.hid hs0; have HA0 := Lib.hid ha0; clear hc0 hs0 ha0 f0
        have hc1 : cn (j * 2 + 2) = cn (j * 2 + 1) + 1 := by rw [HCN.out]; have := countL_more f1; rw [Rw.count] at this; show k0 + countL (cs.take (j * 2 + 1 + 1)) = k0 + countL (cs.take (j * 2 + 1)) + _; omega
        have hs1 : (st (j * 2 + 1)).set (j * 2 + 1) (.leaf (.string (mt (cn (j * 2 + 1))))) = st (j * 2 + 2) := by rw [HST.out, HCN.out]; have := markTo_next f1 k0; rw [mark_leaf] at this; exact this
        have ha1 : (st (j * 2 + 1))[j * 2 + 1]? = some (.leaf (.string a1)) := by rw [HST.out]; exact markTo_at f1 k0
        have HC1 := Lib.hid hc1; have HS1 := Lib.hid hs1; have HA1 := Lib.hid ha1; clear hc1 hs1 ha1 f1
        obtain ⟨q0, hq0⟩ : ∃ q, cn (j * 2) = q := ⟨_, rfl⟩
        obtain ⟨q1, hq1⟩ : ∃ q, cn (j * 2 + 1) = q := ⟨_, rfl⟩
        obtain ⟨q2, hq2⟩ : ∃ q, cn (j * 2 + 2) = q := ⟨_, rfl⟩
        rw [hq0, hq1] at HC0
        rw [hq0] at HS0
        rw [hq1, hq2] at HC1
        rw [hq1] at HS1
        have ht0 : q0 ≤ 4611686018427387904 := by rw [← hq0]; exact HTOP.out _
        have ht1 : q1 ≤ 4611686018427387904 := by rw [← hq1]; exact HTOP.out _
        have ht2 : q2 ≤ 4611686018427387904 := by rw [← hq2]; exact HTOP.out _
        rw [hq0]
        have HE := Lib.hid (show cn ((j + 1) * 2) = q2 by rw [Nat.add_mul, Nat.one_mul]; exact hq2)
        clear hq0 hq1 hq2
        go_wp2_with fail
        refine (mark_anyI q0 _ rfl (by omega) _).mono ?_
        rintro e w0 ⟨rfl, hg0⟩
        have HO0a := Lib.hid (HO.out.later hg0.below)
        have HN0a := Lib.hid (HN.out.trans (OnlyB.of_below hg0.below _))
        have r0 := HO0a.out; rw [Rw.OwnR] at r0
        have d0 : w0.cell? ⟨g, j * 2, none⟩ = some (.string a0) := by rw [r0.1.1.cellAt (j * 2) (by omega), List.getElem?_map, HA0.out]; rfl
        have z0 : w0.frozen? ⟨g, j * 2, none⟩ = false := r0.1.1.frozenAt _
        have hsto := HO0a.out.store (v := .string (mt q0)) (by rw [HOB.out]; exact HNOT.out) HA0.out rfl
        rw [HS0.out] at hsto
        have HO0' := Lib.hid hsto.1; have HN0' := Lib.hid (HN0a.out.trans (hsto.2.1.mono (by intro i hi; rw [Rw.blocks]; exact List.mem_append.2 (Or.inl hi)))); clear hsto r0 hg0
        go_wp2_with fail
        refine (mark_anyI q1 _ (by have := HC0.out; omega) (by omega) _).mono ?_
        rintro e w1 ⟨rfl, hg1⟩
        have HO1a := Lib.hid (HO0'.out.later hg1.below)
        have HN1a := Lib.hid (HN0'.out.trans (OnlyB.of_below hg1.below _))
        have r1 := HO1a.out; rw [Rw.OwnR] at r1
        have d1 : w1.cell? ⟨g, j * 2 + 1, none⟩ = some (.string a1) := by rw [r1.1.1.cellAt (j * 2 + 1) (by omega), List.getElem?_map, HA1.out]; rfl
        have z1 : w1.frozen? ⟨g, j * 2 + 1, none⟩ = false := r1.1.1.frozenAt _
        have hsto := HO1a.out.store (v := .string (mt q1)) (by rw [HOB.out]; exact HNOT.out) HA1.out rfl
        rw [HS1.out] at hsto
        have HO1' := Lib.hid hsto.1; have HN1' := Lib.hid (HN1a.out.trans (hsto.2.1.mono (by intro i hi; rw [Rw.blocks]; exact List.mem_append.2 (Or.inl hi)))); clear hsto r1 hg1
        go_wp2_with fail
        go_roundw
        case rel => exact ⟨j + 1, by omega, by go_num, by rw [HE.out]; have := HC0.out; have := HC1.out; go_num, by rw [Nat.add_mul, Nat.one_mul]; exact HO1'.out, HN1'.out⟩
        case measure => simp [intOf]; omega
      · have hjn : j = n := by omega
        subst hjn
        have HF := Lib.hid (show cn (j * 2) = k0 + countL cs by rw [HCN.out]; show k0 + countL (cs.take (j * 2)) = _; rw [List.take_of_length_le (by have := HLEN.out; omega)])
        have HG := Lib.hid (show st (j * 2) = markL cs k0 by rw [HST.out]; exact markTo_full cs k0 (by have := HLEN.out; omega))
        go_wp2_with fail
        go_ret
        exact ⟨by rw [HF.out]; rfl, by rw [← HG.out]; exact HO.out, HN.out⟩

set_option maxRecDepth 100000 in
set_option maxHeartbeats 4000000 in
theorem hd_AttrS (x : Rw) (hx : IsAttrS x) (hi k0 : Nat) (q : Int) (hq : q = k0) (w : World) (hr : (x.mark k0).ReadR hi w) (hh : hi ≤ w.heap.size) (hk : k0 + x.count ≤ 4611686018427387904) :
    Calls Tryz.prog 129 #[x.cell, .int .i64 q] w fun e w' => e = .returned (.int .i64 ((k0 + x.count : Nat) : Int)) ∧ Grw w w' := by
  have mixed : Tryz.prog.follows .mixedOrders = true := by kernel_rfl
  subst hq
  obtain ⟨v, n, e0, cs, rfl, hrow⟩ := hx
  rw [Rw.cell_sl]; rw [Rw.count] at hk ⊢; rw [mark_cell_sl, Rw.ReadR] at hr
  obtain ⟨⟨a, cap, rfl, hlen, hc1, hc2, _, hcells⟩, hrin⟩ := hr
  rw [markL_len] at hlen
  have HROW := Lib.hid hrow; have HLEN := Lib.hid hlen; have HK := Lib.hid hk; have HC := Lib.hid hcells; have HIN := Lib.hid hrin; clear hrow hlen hk hcells hrin
  obtain ⟨cn, hcn⟩ : ∃ f : Nat → Nat, f = fun m => k0 + countL (cs.take m) := ⟨_, rfl⟩
  have HCN := Lib.hid hcn; clear hcn
  have HTOP := Lib.hid (fun m => show cn m ≤ 4611686018427387904 by rw [HCN.out]; have := countL_take_le cs m; have := HK.out; show k0 + countL (cs.take m) ≤ _; omega)
  go_enter Tryz.func129, Tryz.ntmps129
  go_wp2
  go_loopw [1, 5] (fun m i wr => ∃ (j : Nat), j ≤ n ∧ i = .int .i64 j ∧ m = .int .i64 (cn (j * 2) : Int) ∧ Grw w wr)
    (fun _ i _ => n - (intOf i).toNat)
  case atStart => exact ⟨0, Nat.zero_le _, rfl, by rw [HCN.out]; simp [countL], Grw.refl _⟩
  case round =>
    obtain ⟨j, hj, rfl, rfl, hs⟩ := hrel
    have HS := Lib.hid hs
    clear hs
    by_cases hlt : (j : Int) < (n : Int)
    · rcases HC.out with h0 | ⟨g, off, rfl, hg, hcells⟩
      · omega
      · have HCL := Lib.hid hcells; clear hcells
        obtain ⟨a0, a1, f0, f1⟩ := HROW.out j (by omega)
        have hc0 : cn (j * 2 + 1) = cn (j * 2) + 1 := by rw [HCN.out]; have := countL_more f0; rw [Rw.count] at this; show k0 + countL (cs.take (j * 2 + 1)) = k0 + countL (cs.take (j * 2)) + _; omega
        have hm0 : (markL cs k0)[j * 2]? = some (.leaf (.string (mt (cn (j * 2))))) := by rw [HCN.out]; have := markL_at f0 k0; rw [mark_leaf] at this; exact this
        have hl0 : w.cell? ⟨g, off + j * 2, none⟩ = some (.string (mt (cn (j * 2)))) := HCL.out (j * 2) _ (by rw [List.getElem?_map, hm0]; rfl)
        have HC0 := Lib.hid hc0; have HL0 := Lib.hid hl0; clear hc0 hl0 f0 hm0
        have hc1 : cn (j * 2 + 2) = cn (j * 2 + 1) + 1 := by rw [HCN.out]; have := countL_more f1; rw [Rw.count] at this; show k0 + countL (cs.take (j * 2 + 1 + 1)) = k0 + countL (cs.take (j * 2 + 1)) + _; omega
        have hm1 : (markL cs k0)[j * 2 + 1]? = some (.leaf (.string (mt (cn (j * 2 + 1))))) := by rw [HCN.out]; have := markL_at f1 k0; rw [mark_leaf] at this; exact this
        have hl1 : w.cell? ⟨g, off + j * 2 + 1, none⟩ = some (.string (mt (cn (j * 2 + 1)))) := by rw [Nat.add_assoc]; exact HCL.out (j * 2 + 1) _ (by rw [List.getElem?_map, hm1]; rfl)
        have HC1 := Lib.hid hc1; have HL1 := Lib.hid hl1; clear hc1 hl1 f1 hm1
        obtain ⟨q0, hq0⟩ : ∃ q, cn (j * 2) = q := ⟨_, rfl⟩
        obtain ⟨q1, hq1⟩ : ∃ q, cn (j * 2 + 1) = q := ⟨_, rfl⟩
        obtain ⟨q2, hq2⟩ : ∃ q, cn (j * 2 + 2) = q := ⟨_, rfl⟩
        rw [hq0, hq1] at HC0
        rw [hq0] at HL0
        rw [hq1, hq2] at HC1
        rw [hq1] at HL1
        have ht0 : q0 ≤ 4611686018427387904 := by rw [← hq0]; exact HTOP.out _
        have ht1 : q1 ≤ 4611686018427387904 := by rw [← hq1]; exact HTOP.out _
        have ht2 : q2 ≤ 4611686018427387904 := by rw [← hq2]; exact HTOP.out _
        rw [hq0]
        have HE := Lib.hid (show cn ((j + 1) * 2) = q2 by rw [Nat.add_mul, Nat.one_mul]; exact hq2)
        clear hq0 hq1 hq2
        have e0 : ((mt q0).toList == (mt q0).toList) = true := beqL_yes rfl
        have c0 : ∀ m os, (Sort.grow (wr.drewN m) os).cell? ⟨g, off + j * 2, none⟩ = some (.string (mt q0)) := cell_grown (show g < wr.heap.size by have := HS.out.below.size; omega) (by rw [HS.out.below.cell (show g < _ by omega)]; exact HL0.out)
        have HM0 := Lib.hid (fun (q : Int) (hq : q = q0) W => mark_anyI q0 q hq ht0 W)
        obtain ⟨m0, hm0⟩ : ∃ m, mt q0 = m := ⟨_, rfl⟩
        rw [hm0] at c0 HM0 e0; clear hm0
        go_wp2_with fail
        refine wp_region_quiet_grown mixed (by kernel_rfl) ?_
        repeat (go_big_quiet_step (first | (go_at_call 90; refine Calls.grown_of (HM0.out _ ?_ _); have := HC0.out; have := HC1.out; omega)))
        refine wpQuiet_nil ?_; intro _ hw'; obtain ⟨⟨nq, osq⟩, hw''⟩ := hw'; subst hw''
        have HG0 := Lib.hid (HS.out.trans ⟨nq, osq, rfl⟩)
        obtain ⟨w0, hw0⟩ : ∃ x, Sort.grow (wr.drewN nq) osq = x := ⟨_, rfl⟩
        rw [hw0] at HG0 ⊢; clear hw0 c0
        have e1 : ((mt q1).toList == (mt q1).toList) = true := beqL_yes rfl
        have c1 : ∀ m os, (Sort.grow (w0.drewN m) os).cell? ⟨g, off + j * 2 + 1, none⟩ = some (.string (mt q1)) := cell_grown (show g < w0.heap.size by have := HG0.out.below.size; omega) (by rw [HG0.out.below.cell (show g < _ by omega)]; exact HL1.out)
        have HM1 := Lib.hid (fun (q : Int) (hq : q = q1) W => mark_anyI q1 q hq ht1 W)
        obtain ⟨m1, hm1⟩ : ∃ m, mt q1 = m := ⟨_, rfl⟩
        rw [hm1] at c1 HM1 e1; clear hm1
        go_wp2_with fail
        refine wp_region_quiet_grown mixed (by kernel_rfl) ?_
        repeat (go_big_quiet_step (first | (go_at_call 90; refine Calls.grown_of (HM1.out _ ?_ _); have := HC0.out; have := HC1.out; omega)))
        refine wpQuiet_nil ?_; intro _ hw'; obtain ⟨⟨nq, osq⟩, hw''⟩ := hw'; subst hw''
        have HG1 := Lib.hid (HG0.out.trans ⟨nq, osq, rfl⟩)
        obtain ⟨w1, hw1⟩ : ∃ x, Sort.grow (w0.drewN nq) osq = x := ⟨_, rfl⟩
        rw [hw1] at HG1 ⊢; clear hw1 c1
        go_wp2_with fail
        go_roundw
        case rel => exact ⟨j + 1, by omega, by go_num, by rw [HE.out]; have := HC0.out; have := HC1.out; go_num, HG1.out⟩
        case measure => simp [intOf]; omega
    · have hjn : j = n := by omega
      subst hjn
      have HF := Lib.hid (show cn (j * 2) = k0 + countL cs by rw [HCN.out]; show k0 + countL (cs.take (j * 2)) = _; rw [List.take_of_length_le (by have := HLEN.out; omega)])
      go_wp2_with fail
      go_ret
      exact ⟨by rw [HF.out]; rfl, HS.out⟩

set_option maxHeartbeats 2000000 in
theorem eq_Attr (a0 : ByteArray) (a1 : ByteArray) (w : World)  :
    Calls Tryz.prog 170 #[.agg #[.string a0, .string a1], .agg #[.string a0, .string a1]] w fun e w' => e = .returned (.bool true) ∧ Grw w w' := by
  have e0 : (a0.toList == a0.toList) = true := beqL_yes rfl
  have e1 : (a1.toList == a1.toList) = true := beqL_yes rfl
  go_enter Tryz.func170, Tryz.ntmps170
  go_wp2_with fail
  go_ret
  exact ⟨rfl, ((Grw.refl w).alloc _).alloc _⟩

set_option maxHeartbeats 2000000 in
theorem to_Attr (a0 : ByteArray) (a1 : ByteArray) (w : World) :
    Calls Tryz.prog 169 #[.agg #[.string a0, .string a1]] w fun e w' => e = .returned (.agg #[.string a0, .string a1]) ∧ Grw w w' := by
  go_enter Tryz.func169, Tryz.ntmps169
  go_wp2_with fail
  refine bodyPost_ret (v := .agg #[.string a0, .string a1]) (by simp [results, Tryz.results169, go_sem]) rfl ⟨rfl, ?_⟩
  exact (((Grw.refl _).alloc _).alloc _).alloc _

set_option maxRecDepth 100000 in
set_option maxHeartbeats 4000000 in
theorem eq_AttrS (x y : Rw) (hx : IsAttrS x) (hy : IsAttrS y) (hd : x.data = y.data) (w : World) (rx : x.ReadR w.heap.size w) (ry : y.ReadR w.heap.size w) :
    Calls Tryz.prog 155 #[x.cell, y.cell] w fun e w' => e = .returned (.bool true) ∧ Grw w w' := by
  have mixed : Tryz.prog.follows .mixedOrders = true := by kernel_rfl
  obtain ⟨v, n, e0, cs, rfl, hrow⟩ := hx
  obtain ⟨v', n', e0', cs', rfl, hrow'⟩ := hy
  rw [Rw.data, Rw.data] at hd
  have hdd := (Dt.sl.inj hd).2; clear hd
  rw [Rw.ReadR] at rx ry
  rw [Rw.cell_sl, Rw.cell_sl]
  obtain ⟨⟨a, cap, rfl, hlen, hc1, hc2, _, hcells⟩, hin⟩ := rx
  obtain ⟨⟨a', cap', rfl, hlen', hc1', hc2', _, hcells'⟩, hin'⟩ := ry
  have hnn : n = n' := by have := congrArg List.length hdd; rw [dataL_len, dataL_len] at this; omega
  subst hnn
  have HROW := Lib.hid hrow; have HROW' := Lib.hid hrow'; have HD := Lib.hid hdd; have HC := Lib.hid hcells; have HC' := Lib.hid hcells'; have HIN := Lib.hid hin; have HIN' := Lib.hid hin'
  clear hrow hrow' hdd hcells hcells' hin hin' hlen hlen'
  go_enter Tryz.func155, Tryz.ntmps155
  go_wp2
  go_loopw [5] (fun i wr => ∃ (j : Nat), j ≤ n ∧ i = .int .i64 j ∧ Grw w wr)
    (fun i _ => n - (intOf i).toNat)
  case atStart => exact ⟨0, Nat.zero_le _, rfl, Grw.refl _⟩
  case round =>
    obtain ⟨j, hj, rfl, hs⟩ := hrel
    have HS := Lib.hid hs
    clear hs
    by_cases hlt : (j : Int) < (n : Int)
    · rcases HC.out with h0 | ⟨g, off, rfl, hg, hcells⟩
      · omega
      · rcases HC'.out with h0 | ⟨g', off', rfl, hg', hcells'⟩
        · omega
        · have HCL := Lib.hid hcells; have HCL' := Lib.hid hcells'; clear hcells hcells'
          obtain ⟨a0, a1, f0, f1⟩ := HROW.out j (by omega)
          obtain ⟨b0, b1, f0', f1'⟩ := HROW'.out j (by omega)
          have hd0 := data_same HD.out f0 f0'
          have hv0 := leaf_same hd0; obtain rfl : a0 = b0 := by cases hv0; rfl
          clear hd0 hv0
          have c0 : ∀ m os, (Sort.grow (wr.drewN m) os).cell? ⟨g, off + j * 2, none⟩ = some (.string a0) := cell_grown (show g < wr.heap.size by have := HS.out.below.size; omega) (by rw [HS.out.below.cell (show g < _ by omega)]; exact HCL.out (j * 2) _ (by rw [List.getElem?_map, f0]; rfl))
          have c0' : ∀ m os, (Sort.grow (wr.drewN m) os).cell? ⟨g', off' + j * 2, none⟩ = some (.string a0) := cell_grown (show g' < wr.heap.size by have := HS.out.below.size; omega) (by rw [HS.out.below.cell (show g' < _ by omega)]; exact HCL'.out (j * 2) _ (by rw [List.getElem?_map, f0']; rfl))
          have hd1 := data_same HD.out f1 f1'
          have hv1 := leaf_same hd1; obtain rfl : a1 = b1 := by cases hv1; rfl
          clear hd1 hv1
          have c1 : ∀ m os, (Sort.grow (wr.drewN m) os).cell? ⟨g, off + j * 2 + 1, none⟩ = some (.string a1) := cell_grown (show g < wr.heap.size by have := HS.out.below.size; omega) (by rw [HS.out.below.cell (show g < _ by omega)]; rw [Nat.add_assoc]; exact HCL.out (j * 2 + 1) _ (by rw [List.getElem?_map, f1]; rfl))
          have c1' : ∀ m os, (Sort.grow (wr.drewN m) os).cell? ⟨g', off' + j * 2 + 1, none⟩ = some (.string a1) := cell_grown (show g' < wr.heap.size by have := HS.out.below.size; omega) (by rw [HS.out.below.cell (show g' < _ by omega)]; rw [Nat.add_assoc]; exact HCL'.out (j * 2 + 1) _ (by rw [List.getElem?_map, f1']; rfl))
          have HE := Lib.hid (fun (n : Nat) (os : Array Obj) => eq_Attr a0 a1 (Sort.grow (wr.drewN n) os))
          clear f0 f0' f1 f1'
          go_wp2_with fail
          refine wp_region_quiet_grown mixed (by kernel_rfl) ?_
          repeat (go_big_quiet_step (first | (go_at_call 170; refine Calls.grown_of (HE.out _ _))))
          refine wpQuiet_nil ?_; intro _ hw'; obtain ⟨⟨nq, osq⟩, hw''⟩ := hw'; subst hw''
          have HG1 := Lib.hid (HS.out.trans ⟨nq, osq, rfl⟩)
          obtain ⟨w1, hw1⟩ : ∃ x, Sort.grow (wr.drewN nq) osq = x := ⟨_, rfl⟩
          rw [hw1] at HG1 ⊢; clear hw1 c0 c0' c1 c1'
          go_wp2_with fail
          go_roundw
          case rel => exact ⟨j + 1, by omega, by go_num, HG1.out⟩
          case measure => simp [intOf]; omega
    · have hkn : decide ((j : Int) < (n : Int)) = false := decide_eq_false hlt
      go_wp2_with fail
      go_ret
      exact ⟨rfl, HS.out⟩

def SzAttr (a0 : ByteArray) (a1 : ByteArray) (left : Int) (w : World) (e : Ending) (w' : World) : Prop :=
  ∃ r : Int, e = .returned (.int .i64 r) ∧ -1 ≤ r ∧ (0 ≤ r → r + (a0.size : Nat) + (a1.size : Nat) = left) ∧ Grw w w'
set_option maxHeartbeats 2000000 in
theorem sz_Attr (a0 : ByteArray) (a1 : ByteArray) (left : Int) (l1 : -1 ≤ left) (l2 : left ≤ 1099511627776) (w : World) (z0 : a0.size ≤ 9223372036854775807) (z1 : a1.size ≤ 9223372036854775807) :
    Calls Tryz.prog 168 #[.agg #[.string a0, .string a1], .int .i64 left] w (SzAttr a0 a1 left w) := by
  have HB := Lib.hid ((Grw.refl w).alloc (.cells #[.string a0, .string a1] 233))
  by_cases c0 : left - a0.size < 0
  · go_enter Tryz.func168, Tryz.ntmps168
    go_wp2_with fail
    go_ret
    exact ⟨-1, rfl, by omega, by omega, HB.out⟩
  by_cases c1 : left - a0.size - a1.size < 0
  · go_enter Tryz.func168, Tryz.ntmps168
    go_wp2_with fail
    go_ret
    exact ⟨-1, rfl, by omega, by omega, HB.out⟩
  go_enter Tryz.func168, Tryz.ntmps168
  go_wp2_with fail
  go_ret
  exact ⟨left - a0.size - a1.size, rfl, by omega, by omega, HB.out⟩

set_option maxRecDepth 100000 in
set_option maxHeartbeats 4000000 in
theorem sz_AttrS (x : Rw) (hx : IsAttrS x) (left : Int) (l1 : 0 ≤ left) (l2 : left ≤ 1099511627776) (w : World) (rx : x.ReadR w.heap.size w) (hz : x.Small) :
    Calls Tryz.prog 151 #[x.cell, .int .i64 left] w fun e w' => ∃ r : Int, e = .returned (.int .i64 r) ∧ -1 ≤ r ∧ (0 ≤ r → r + (x.weight : Nat) = left) ∧ Grw w w' := by
  obtain ⟨v, n, e0, cs, rfl, hrow⟩ := hx
  rw [Rw.ReadR] at rx; rw [Rw.Small] at hz; rw [Rw.cell_sl, Rw.weight]
  obtain ⟨⟨a, cap, rfl, hlen, hc1, hc2, _, hcells⟩, hin⟩ := rx
  have HROW := Lib.hid hrow; have HC := Lib.hid hcells; have HIN := Lib.hid hin; have HZ := Lib.hid (smallL_iff.1 hz); have HLEN := Lib.hid hlen
  clear hrow hcells hin hz hlen
  obtain ⟨wt, hwt⟩ : ∃ f : Nat → Nat, f = fun m => weightL (cs.take m) := ⟨_, rfl⟩
  have HWT := Lib.hid hwt; clear hwt
  by_cases h0 : left - n < 0
  · go_enter Tryz.func151, Tryz.ntmps151
    go_wp2
    go_ret
    exact ⟨-1, rfl, by omega, by omega, Grw.refl _⟩
  · go_enter Tryz.func151, Tryz.ntmps151
    go_wp2
    go_loopw [1, 5] (fun q i wr => ∃ (j : Nat) (r : Int), j ≤ n ∧ i = .int .i64 j ∧ q = .int .i64 r ∧ 0 ≤ r ∧ r + n + (wt (j * 2) : Nat) = left ∧ Grw w wr)
      (fun _ i _ => n - (intOf i).toNat)
    case atStart => exact ⟨0, left - n, Nat.zero_le _, rfl, rfl, by omega, by rw [HWT.out]; (simp [weightL]; try omega), Grw.refl _⟩
    case round =>
      obtain ⟨j, r, hj, rfl, rfl, hr0, hr1, hs⟩ := hrel
      have HS := Lib.hid hs; have HR1 := Lib.hid hr1
      have hr2 : r ≤ 1099511627776 := by omega
      clear hs hr1
      by_cases hlt : (j : Int) < (n : Int)
      · rcases HC.out with hz0 | ⟨g, off, rfl, hg, hcells⟩
        · omega
        · have HCL := Lib.hid hcells; clear hcells
          obtain ⟨a0, a1, f0, f1⟩ := HROW.out j (by omega)
          have c0 : wr.cell? ⟨g, off + j * 2, none⟩ = some (.string a0) := by rw [HS.out.below.cell (show g < _ by omega)]; exact HCL.out (j * 2) _ (by rw [List.getElem?_map, f0]; rfl)
          have z0 : a0.size ≤ 9223372036854775807 := by have := HZ.out _ (List.mem_of_getElem? f0); rw [Rw.Small] at this; exact this
          have hw0 : weightL (cs.take (j * 2 + 1)) = weightL (cs.take (j * 2)) + _ := weightL_more f0; rw [Rw.weight] at hw0; simp only [weightV] at hw0
          have c1 : wr.cell? ⟨g, off + j * 2 + 1, none⟩ = some (.string a1) := by rw [HS.out.below.cell (show g < _ by omega)]; rw [Nat.add_assoc]; exact HCL.out (j * 2 + 1) _ (by rw [List.getElem?_map, f1]; rfl)
          have z1 : a1.size ≤ 9223372036854775807 := by have := HZ.out _ (List.mem_of_getElem? f1); rw [Rw.Small] at this; exact this
          have hw1 : weightL (cs.take (j * 2 + 2)) = weightL (cs.take (j * 2 + 1)) + _ := weightL_more f1; rw [Rw.weight] at hw1; simp only [weightV] at hw1
          have HW := Lib.hid (show wt ((j + 1) * 2) = wt (j * 2) + (a0.size + a1.size) by rw [HWT.out, Nat.add_mul, Nat.one_mul]; show weightL (cs.take (j * 2 + 2)) = weightL (cs.take (j * 2)) + _; omega)
          clear hw0 hw1
          go_wp2_with fail
          refine (sz_Attr a0 a1 r (by omega) hr2 _ z0 z1).mono ?_
          rintro e w2 ⟨r2, rfl, hr3, hr4, hg2⟩
          have HG2 := Lib.hid (HS.out.trans hg2); clear hg2
          by_cases hneg : r2 < 0
          · go_wp2_with fail
            go_ret
            exact ⟨-1, rfl, by omega, by omega, HG2.out⟩
          · have hr5 := hr4 (by omega)
            clear hr4
            have HR5 := Lib.hid hr5; clear hr5
            go_wp2_with fail
            go_roundw
            case rel => exact ⟨j + 1, r2, by omega, by go_num, rfl, by omega, by rw [HW.out]; have := HR5.out; have := HR1.out; omega, HG2.out⟩
            case measure => simp [intOf]; omega
      · have hjn : j = n := by omega
        subst hjn
        have HF := Lib.hid (show wt (j * 2) = weightL cs by rw [HWT.out]; show weightL (cs.take (j * 2)) = _; rw [List.take_of_length_le (by have := HLEN.out; omega)])
        go_wp2_with fail
        go_ret
        exact ⟨r, rfl, by omega, fun _ => by have := HF.out; have := HR1.out; omega, HS.out⟩

theorem info_AttrS : (Tryz.prog.info? 178).map (fun i => (i.zero, i.size, i.bytes)) = some (some (.agg #[.string ⟨#[]⟩, .string ⟨#[]⟩]), 2, 32) := by kernel_rfl
set_option maxRecDepth 100000 in
set_option maxHeartbeats 4000000 in
theorem to_AttrS (x : Rw) (hx : IsAttrS x) (w : World) (rx : x.ReadR w.heap.size w) (hl : x.weight ≤ 4398046511104) :
    Calls Tryz.prog 153 #[x.cell] w fun e w' => ∃ y : Rw, e = .returned y.cell ∧ IsAttrS y ∧ y.data = x.data ∧ y.blocks.Nodup ∧ y.OwnR w.heap.size w'.heap.size w' ∧ Below w.heap.size w w' := by
  obtain ⟨i0, hi0, hz0, hz1, hz2⟩ := info_parts info_AttrS
  obtain ⟨v, n, e0, cs, rfl, hrow⟩ := hx
  rw [Rw.ReadR] at rx; rw [Rw.weight] at hl; rw [Rw.cell_sl, Rw.data]
  obtain ⟨⟨a, cap, rfl, hlen, hc1, hc2, _, hcells⟩, hin⟩ := rx
  have hnl : n ≤ 4398046511104 := by omega
  have hall : ∀ c ∈ cs, c.blocks = [] ∧ c.cell.oneCell' = true ∧ c = .leaf c.cell := rows_all (K := 2) (by decide) hlen _ fun j hj t ht => by
    obtain ⟨a0, a1, f0, f1⟩ := hrow j hj
    rcases (show t = 0 ∨ t = 1 by omega) with rfl | rfl
    · exact ⟨_, f0, by rw [Rw.blocks], rfl, rfl⟩
    · exact ⟨_, f1, by rw [Rw.blocks], rfl, rfl⟩
  have HROW := Lib.hid hrow; have HC := Lib.hid hcells; have HLEN := Lib.hid hlen; have HI := Lib.hid hz2; have HALL := Lib.hid hall
  clear hrow hcells hin hlen hz2 hall hl
  go_enter Tryz.func153, Tryz.ntmps153
  go_wp2_with (at_make; refine wpList_make_full _ rfl _ _ 115 rfl w.heap.size 178 i0 (.agg #[.string ⟨#[]⟩, .string ⟨#[]⟩]) 2 Tryz.underlying115 hi0 hz0 hz1 .i64 .i64 _ _ n rfl rfl rfl rfl ?c1 ?c2 (Nat.le_refl _) ?_)
  case c1 => rw [HI.out]; omega
  case c2 => unfold maxLen; omega
  intro w1 hown1 hgr1
  have hb1 : Below w.heap.size w w1 := (Below.refl _ _).grown hgr1 (Nat.le_refl _) (fun k h => by cases h)
  have HO1 := Lib.hid hown1; have HB1 := Lib.hid hb1; clear hown1 hgr1 hb1
  go_wp2
  go_loopw [4] (fun i wr => ∃ (j : Nat) (us : List Value), j ≤ n ∧ i = .int .i64 j ∧ wr.ownsRow w.heap.size 178 2 (.slice (some ⟨w.heap.size, 0, none⟩) n n) n us ∧ (∀ i, i < j * 2 → us[i]? = (cs.map Rw.cell)[i]?) ∧ Below w.heap.size w wr)
    (fun i _ => n - (intOf i).toNat)
  case atStart => exact ⟨0, _, Nat.zero_le _, rfl, HO1.out, fun i hi => by omega, HB1.out⟩
  case round =>
    obtain ⟨j, us, hj, rfl, hown, hup, hbw⟩ := hrel
    have HO := Lib.hid hown; have HU := Lib.hid hup; have HB := Lib.hid hbw
    clear hown hup hbw HO1 HB1
    by_cases hlt : (j : Int) < (n : Int)
    · rcases HC.out with h0 | ⟨g, off, rfl, hg, hcells⟩
      · omega
      · have HCL := Lib.hid hcells; clear hcells
        obtain ⟨a0, a1, f0, f1⟩ := HROW.out j (by omega)
        have c0 : wr.cell? ⟨g, off + j * 2, none⟩ = some (.string a0) := by rw [HB.out.cell (show g < _ by omega)]; exact HCL.out (j * 2) _ (by rw [List.getElem?_map, f0]; rfl)
        have HM0 := Lib.hid (show (cs.map Rw.cell)[j * 2]? = some (.string a0) by rw [List.getElem?_map, f0]; rfl)
        have c1 : wr.cell? ⟨g, off + j * 2 + 1, none⟩ = some (.string a1) := by rw [HB.out.cell (show g < _ by omega)]; rw [Nat.add_assoc]; exact HCL.out (j * 2 + 1) _ (by rw [List.getElem?_map, f1]; rfl)
        have HM1 := Lib.hid (show (cs.map Rw.cell)[j * 2 + 1]? = some (.string a1) by rw [List.getElem?_map, f1]; rfl)
        clear f0 f1
        go_wp2_with fail
        refine (to_Attr a0 a1 _).mono ?_
        rintro e w2 ⟨rfl, hg2⟩
        have hb2 := hg2.below
        have hown2 := ownsRow_only HO.out (OnlyB.of_below hb2 []) (fun _ _ hm => by cases hm)
        have hxl : us.length = n * 2 := HO.out.1
        obtain ⟨u0, hu0⟩ : ∃ u, us[j * 2]? = some u := ⟨_, List.getElem?_eq_getElem (by omega)⟩
        have d0 : w2.cell? ⟨w.heap.size, j * 2, none⟩ = some u0 := by rw [hown2.cellAt (j * 2) (by omega)]; exact hu0
        have z0 : w2.frozen? ⟨w.heap.size, j * 2, none⟩ = false := hown2.frozenAt _
        obtain ⟨u1, hu1⟩ : ∃ u, us[j * 2 + 1]? = some u := ⟨_, List.getElem?_eq_getElem (by omega)⟩
        have d1 : w2.cell? ⟨w.heap.size, j * 2 + 1, none⟩ = some u1 := by rw [hown2.cellAt (j * 2 + 1) (by omega)]; exact hu1
        have z1 : w2.frozen? ⟨w.heap.size, j * 2 + 1, none⟩ = false := hown2.frozenAt _
        have HO2 := Lib.hid hown2; have HX := Lib.hid hxl
        have HB2 := Lib.hid (HB.out.trans (hb2.mono HB.out.size))
        clear hu0 hu1 hown2 hb2 hg2 hxl
        go_wp2
        go_roundw
        case rel =>
          refine ⟨j + 1, _, by omega, by go_num, ((HO2.out.stored _ _).1.stored _ _).1, fun i hi => ?_, ((HB2.out.setCell (Nat.le_refl _) _).setCell (Nat.le_refl _) _)⟩
          have hxl := HX.out
          by_cases i1 : i = j * 2 + 1
          · rw [i1, List.getElem?_set_self (by first | omega | (simp only [List.length_set]; omega))]; exact HM1.out.symm
          by_cases i0 : i = j * 2
          · rw [i0, List.getElem?_set_ne (by omega), List.getElem?_set_self (by first | omega | (simp only [List.length_set]; omega))]; exact HM0.out.symm
          rw [List.getElem?_set_ne (by omega), List.getElem?_set_ne (by omega)]; exact HU.out i (by omega)
        case measure => simp [intOf]; omega
    · have hjn : j = n := by omega
      subst hjn
      have hus : us = cs.map Rw.cell := by
        apply List.ext_getElem?
        intro i
        by_cases hi : i < j * 2
        · exact HU.out i hi
        · rw [List.getElem?_eq_none (by have := HO.out.1; omega), List.getElem?_eq_none (by rw [List.length_map]; have := HLEN.out; omega)]
      have HF := Lib.hid hus; clear hus
      have hbn := blocksL_nil fun c hc => (HALL.out c hc).1
      have HBN := Lib.hid hbn; clear hbn
      go_wp2
      go_ret
      refine ⟨.sl (.slice (some ⟨w.heap.size, 0, none⟩) j j) j 2 178 cs, rfl, ⟨_, _, _, _, rfl, HROW.out⟩, by rw [Rw.data], ?_, ?_, HB.out⟩
      · rw [Rw.blocks, HBN.out]; simp [Value.ownBlock]
      · rw [Rw.OwnR]
        refine ⟨⟨by rw [← HF.out]; exact HO.out, fun g hg => (HO.out.lt g hg).2⟩, ownRL_iff.2 fun c hc => ?_⟩
        obtain ⟨_, h2, h3⟩ := HALL.out c hc
        rw [h3, Rw.OwnR]; exact h2

end Go.Proofs.YtpkicliimhflgaaGreatDoor
namespace Go.Proofs.YtpkicliimhflgaaGreatDoor
open Go.ChangeShapes Go.WideShapes Go.ChangeAt Go.RowKit

/-- A new slice of these numbers, the call's own; of what lay in memory nothing is written. -/
def New (k : IntKind) (e : TypeId) (zs : List Int) (w : World) (en : Ending) (w' : World) : Prop :=
  ∃ v, en = .returned v ∧ Own k e w.heap.size w'.heap.size w' v zs ∧ Below w.heap.size w w'

/-- The marks that a law writes: byte(k), byte(k+1), .. -/
def marks (k n : Nat) : List Int := (List.range n).map (fun i => (((k + i) % 256 : Nat) : Int))
theorem marks_len (k n : Nat) : (marks k n).length = n := by simp [marks]
theorem marks_at {k n j : Nat} (h : j < n) : (marks k n).getD j 0 = ((k : Int) + (j : Int)) % 256 := by
  rw [List.getD_eq_getElem?_getD]
  simp [marks, h]

def Marked (k : IntKind) (e : TypeId) (lo hi : Nat) (v : Value) (ms : List Int) (m : Int) (w : World) (en : Ending) (w' : World) : Prop :=
  en = .returned (.int .i64 m) ∧ Own k e lo hi w' v ms ∧ w.grownBy w' v.ownBlock

end Go.Proofs.YtpkicliimhflgaaGreatDoor
namespace Go.Proofs.YtpkicliimhflgaaGreatDoor
open Go.ChangeShapes Go.WideShapes Go.ChangeAt Go.RowKit

set_option maxHeartbeats 1000000 in
theorem to64_any (v : Value) (hi : Nat) (zs : List Int) (w : World) (hr : Reads .i64 hi w v zs) (hh : hi ≤ w.heap.size) (hl : zs.length ≤ 17592186044416) :
    Calls Tryz.prog 79 #[v] w (New .i64 3 zs w) := by
  obtain ⟨i0, hi0, hz0, hz1, hz2⟩ := info_parts info64
  obtain ⟨a, cap, rfl, hc1, hc2, _, hcells⟩ := hr
  have HC := Lib.hid hcells; clear hcells
  have HI := Lib.hid hz2; clear hz2
  obtain ⟨n, hn⟩ : ∃ n, zs.length = n := ⟨_, rfl⟩
  rw [hn] at hl hc1 ⊢
  go_enter Tryz.func79, Tryz.ntmps79
  go_wp2_with (at_make; refine wpList_make_full _ rfl _ _ 39 rfl w.heap.size 3 i0 (.int .i64 0) 1 Tryz.underlying39 hi0 hz0 hz1 .i64 .i64 _ _ n rfl rfl rfl rfl ?c1 ?c2 (Nat.le_refl _) ?_)
  case c1 => rw [HI.out]; omega
  case c2 => unfold maxLen; omega
  intro w1 hown1 hgr1
  have hb1 : Below w.heap.size w w1 := (Below.refl _ _).grown hgr1 (Nat.le_refl _) (fun k h => by cases h)
  have HO1 := Lib.hid hown1; have HB1 := Lib.hid hb1; clear hown1 hgr1 hb1
  go_wp2
  go_loopw [4] (fun i wr => ∃ (k : Nat) (xs : List Value), k ≤ n ∧ i = .int .i64 k ∧ wr.ownsRow w.heap.size 3 1 (.slice (some ⟨w.heap.size, 0, none⟩) n n) n xs ∧ Upto .i64 zs k xs ∧ Below w.heap.size w wr)
    (fun i _ => n - (intOf i).toNat)
  case atStart => exact ⟨0, _, Nat.zero_le _, rfl, HO1.out, Upto.zero _ _ _, HB1.out⟩
  case round =>
    obtain ⟨k, xs, hk, rfl, hown, hup, hbw⟩ := hrel
    have HO := Lib.hid hown; have HU := Lib.hid hup; have HB := Lib.hid hbw
    clear hown hup hbw HO1 HB1
    by_cases hlt : (k : Int) < (n : Int)
    · rcases HC.out with h0 | ⟨g, off, rfl, hg, hcells⟩
      · omega
      · have c1 : wr.cell? ⟨g, off + k, none⟩ = some (.int .i64 (zs.getD k 0)) := by rw [HB.out.cell (show g < _ by omega)]; exact hcells k (by omega)
        have c2 : wr.cell? ⟨w.heap.size, k, none⟩ = xs[k]? := HO.out.cellAt k (by omega)
        have hxl : xs.length = n := by have := HO.out.1; omega
        obtain ⟨u, hu⟩ : ∃ u, xs[k]? = some u := ⟨_, List.getElem?_eq_getElem (by omega)⟩
        rw [hu] at c2
        have f2 : wr.frozen? ⟨w.heap.size, k, none⟩ = false := HO.out.frozenAt k
        clear hcells hu
        go_wp2
        go_roundw
        case rel => exact ⟨k + 1, _, by omega, by go_num, (HO.out.stored k _).1, HU.out.set (by omega), HB.out.setCell (Nat.le_refl _) _⟩
        case measure => simp [intOf]; omega
    · have hkn : k = n := by omega
      subst hkn
      go_wp2
      go_ret
      refine ⟨_, rfl, ⟨?_, ?_⟩, HB.out⟩
      · have h1 := HO.out
        rw [HU.out.full (by have := h1.1; omega) hn] at h1
        rw [hn]; exact h1
      · intro g hg; exact (HO.out.lt g hg).2

set_option maxHeartbeats 1000000 in
theorem eq64_any (v u : Value) (hi hi' : Nat) (zs : List Int) (w : World) (hv : Reads .i64 hi w v zs) (hu : Reads .i64 hi' w u zs) :
    Calls Tryz.prog 82 #[v, u] w fun e w' => e = .returned (.bool true) ∧ Same w w' := by
  obtain ⟨a, cap, rfl, hc1, hc2, _, hcells⟩ := hv
  obtain ⟨a', cap', rfl, hc1', hc2', _, hcells'⟩ := hu
  have HC := Lib.hid hcells; have HC' := Lib.hid hcells'; clear hcells hcells'
  obtain ⟨n, hn⟩ : ∃ n, zs.length = n := ⟨_, rfl⟩
  rw [hn] at hc1 hc1' HC HC' ⊢
  have HN := Lib.hid hn; clear hn
  go_enter Tryz.func82, Tryz.ntmps82
  go_wp2
  go_loopw [5] (fun i wr => ∃ (k : Nat), k ≤ n ∧ i = .int .i64 k ∧ Same w wr)
    (fun i _ => n - (intOf i).toNat)
  case atStart => exact ⟨0, Nat.zero_le _, rfl, Same.refl _⟩
  case round =>
    obtain ⟨k, hk, rfl, hs⟩ := hrel
    have HS := Lib.hid hs
    clear hs
    by_cases hlt : (k : Int) < (n : Int)
    · rcases HC.out with h0 | ⟨g, off, rfl, hg, hcells⟩
      · omega
      · rcases HC'.out with h0 | ⟨g', off', rfl, hg', hcells'⟩
        · omega
        · have c1 : wr.cell? ⟨g, off + k, none⟩ = some (.int .i64 (zs.getD k 0)) := by rw [HS.out.cell]; exact hcells k (by omega)
          have c2 : wr.cell? ⟨g', off' + k, none⟩ = some (.int .i64 (zs.getD k 0)) := by rw [HS.out.cell]; exact hcells' k (by omega)
          obtain ⟨z, hz⟩ : ∃ z, zs.getD k 0 = z := ⟨_, rfl⟩
          rw [hz] at c1 c2
          clear hcells hcells' hz
          go_wp2
          go_quiet (fail)
          go_wp2
          go_roundw
          case rel => exact ⟨k + 1, by omega, by go_num, HS.out.trans ⟨rfl, rfl, rfl, rfl⟩⟩
          case measure => simp [intOf]; omega
    · have hkn : decide ((k : Int) < (n : Int)) = false := decide_eq_false hlt
      go_wp2
      go_ret
      exact ⟨rfl, HS.out⟩

/-- The marks that a law writes: k, k+1, .. -/
def marksI (k n : Nat) : List Int := (List.range n).map (fun i => ((k + i : Nat) : Int))
theorem marksI_len (k n : Nat) : (marksI k n).length = n := by simp [marksI]
theorem marksI_at {k n j : Nat} (h : j < n) : (marksI k n).getD j 0 = ((k : Int) + (j : Int)) := by
  rw [List.getD_eq_getElem?_getD]
  simp [marksI, h]

set_option maxHeartbeats 1000000 in
theorem mark64_any (v : Value) (lo hi : Nat) (zs : List Int) (k0 : Nat) (q : Int) (hq : q = k0) (w : World) (hv : Own .i64 3 lo hi w v zs) (hk : (k0 : Int) + (zs.length : Int) ≤ 4611686018427387904) :
    Calls Tryz.prog 85 #[v, .int .i64 q] w (Marked .i64 3 lo hi v (marksI k0 zs.length) ((k0 : Int) + (zs.length : Int)) w) := by
  subst hq
  obtain ⟨hv1, hv2⟩ := hv
  obtain ⟨n, hn⟩ : ∃ n, zs.length = n := ⟨_, rfl⟩
  rw [hn] at hv1 hk ⊢
  have HV1 := Lib.hid hv1; have HV2 := Lib.hid hv2
  rcases hv1.2 with ⟨rfl, h0⟩ | ⟨g, cap, cur, rfl, hg, _, hcap, hm, _⟩
  · subst h0
    have hz : zs = [] := List.eq_nil_of_length_eq_zero hn
    subst hz
    clear hv1 hv2
    go_enter Tryz.func85, Tryz.ntmps85
    go_wp2
    refine wp_loop_rounds 1 ?_
    rw [rounds_succ]
    go_wp2
    go_ret
    exact ⟨by simp, ⟨by simpa [marksI] using HV1.out, HV2.out⟩, World.grownBy.refl _ _⟩
  · unfold maxLen at hm
    clear hv1 hv2
    go_enter Tryz.func85, Tryz.ntmps85
    go_wp2
    go_loopw [1, 5] (fun m i wr => ∃ (j : Nat) (xs : List Value), j ≤ n ∧ i = .int .i64 j ∧ m = .int .i64 ((k0 : Int) + (j : Int)) ∧ wr.ownsRow lo 3 1 (.slice (some ⟨g, 0, none⟩) n cap) n xs ∧ Upto .i64 (marksI k0 n) j xs ∧ w.grownBy wr (some g))
      (fun _ i _ => n - (intOf i).toNat)
    case atStart => exact ⟨0, _, Nat.zero_le _, rfl, by simp, HV1.out, Upto.zero _ _ _, World.grownBy.refl _ _⟩
    case round =>
      obtain ⟨j, xs, hj, rfl, rfl, hown, hup, hgr⟩ := hrel
      have HO := Lib.hid hown; have HU := Lib.hid hup; have HG := Lib.hid hgr
      clear hown hup hgr
      by_cases hlt : (j : Int) < (n : Int)
      · have c2 : wr.cell? ⟨g, j, none⟩ = xs[j]? := HO.out.cellAt j (by omega)
        have hxl : xs.length = n := by have := HO.out.1; omega
        obtain ⟨u, hu⟩ : ∃ u, xs[j]? = some u := ⟨_, List.getElem?_eq_getElem (by omega)⟩
        rw [hu] at c2
        have f2 : wr.frozen? ⟨g, j, none⟩ = false := HO.out.frozenAt j
        clear hu
        go_wp2
        go_roundw
        case rel =>
          have hu := HU.out.set (show j < xs.length by omega)
          rw [marksI_at (by omega)] at hu
          exact ⟨j + 1, _, by omega, by go_num, by go_num, (HO.out.stored j _).1, hu, grown_trans HG.out (HO.out.stored j _).2⟩
        case measure => simp [intOf]; omega
      · have hjn : j = n := by omega
        subst hjn
        go_wp2
        go_ret
        refine ⟨rfl, ⟨?_, HV2.out⟩, HG.out⟩
        have h1 := HO.out
        rw [HU.out.full (by have := h1.1; omega) (marksI_len _ _)] at h1
        rw [marksI_len]; exact h1

set_option maxHeartbeats 1000000 in
theorem held64_any (v : Value) (hi n : Nat) (k0 : Nat) (q : Int) (hq : q = k0) (w : World) (hv : Reads .i64 hi w v (marksI k0 n)) (hk : (k0 : Int) + (n : Int) ≤ 4611686018427387904) :
    Calls Tryz.prog 88 #[v, .int .i64 q] w fun e w' => e = .returned (.int .i64 ((k0 : Int) + (n : Int))) ∧ Same w w' := by
  subst hq
  obtain ⟨a, cap, rfl, hc1, hc2, _, hcells⟩ := hv
  rw [marksI_len] at hc1 hcells ⊢
  have HC := Lib.hid hcells; clear hcells
  go_enter Tryz.func88, Tryz.ntmps88
  go_wp2
  go_loopw [1, 5] (fun m i wr => ∃ (j : Nat), j ≤ n ∧ i = .int .i64 j ∧ m = .int .i64 ((k0 : Int) + (j : Int)) ∧ Same w wr)
    (fun _ i _ => n - (intOf i).toNat)
  case atStart => exact ⟨0, Nat.zero_le _, rfl, by simp, Same.refl _⟩
  case round =>
    obtain ⟨j, hj, rfl, rfl, hs⟩ := hrel
    have HS := Lib.hid hs
    clear hs
    by_cases hlt : (j : Int) < (n : Int)
    · rcases HC.out with h0 | ⟨g, off, rfl, hg, hcells⟩
      · omega
      · have c1 : wr.cell? ⟨g, off + j, none⟩ = some (.int .i64 ((k0 : Int) + (j : Int))) := by rw [HS.out.cell, hcells j (by omega), marksI_at (by omega)]
        clear hcells
        go_wp2
        go_roundw
        case rel => exact ⟨j + 1, by omega, by go_num, by go_num, HS.out.trans ⟨rfl, rfl, rfl, rfl⟩⟩
        case measure => simp [intOf]; omega
    · have hjn : j = n := by omega
      subst hjn
      go_wp2
      go_ret
      exact ⟨rfl, HS.out⟩

end Go.Proofs.YtpkicliimhflgaaGreatDoor
