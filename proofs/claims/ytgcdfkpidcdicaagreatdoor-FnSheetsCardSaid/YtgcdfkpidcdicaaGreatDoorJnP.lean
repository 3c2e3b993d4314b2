/- The names of rules, each once, in order: plain facts; and what a map of colors has for keys. Helper facts, no claim of its own. -/
import Derived.Test.YtgcdfkpidcdicaaGreatDoorColA2
import Derived.Sort.KeysCollected
import Derived.Sort.Walk0
namespace Go.Proofs.YtgcdfkpidcdicaaGreatDoor
open Go.ChangeShapes Go.WideShapes Go.ChangeAt Go.RowKit Go.Maps Go.WideMaps Go.Sort

def ltN (a b : ByteArray) : Prop := a.data.toList < b.data.toList
theorem ltN_irr (a : ByteArray) : ¬ ltN a a := List.lt_irrefl _
theorem ltN_tr {a b c : ByteArray} (h : ltN a b) (k : ltN b c) : ltN a c := List.lt_trans h k
theorem ltN_asym {a b : ByteArray} (h : ltN a b) : ¬ ltN b a := fun k => ltN_irr _ (ltN_tr h k)
theorem ltN_tot {a b : ByteArray} (h : ¬ ltN a b) (hne : a ≠ b) : ltN b a := by
  have h1 : b.data.toList ≤ a.data.toList := List.not_lt.1 h
  by_cases k : ltN b a
  · exact k
  · have h2 : a.data.toList ≤ b.data.toList := List.not_lt.1 k
    exact absurd (bytesEq (List.le_antisymm h2 h1)) hne
theorem less_yes {a b : ByteArray} (h : ltN a b) : Op.bytesLess a.toList b.toList = true := by rw [bytesLess_eq, ByteArray.toList_eq, ByteArray.toList_eq]; exact decide_eq_true h
theorem less_no {a b : ByteArray} (h : ¬ ltN a b) : Op.bytesLess a.toList b.toList = false := by rw [bytesLess_eq, ByteArray.toList_eq, ByteArray.toList_eq]; exact decide_eq_false h

/-- These are the rules' names, each once, in order. -/
structure JN (rs : List Ru) (N : List ByteArray) : Prop where
  srt : N.Pairwise ltN
  mem : ∀ x, x ∈ N ↔ ∃ r ∈ rs, r.1 = x
  len : N.length ≤ rs.length
theorem strictN_unique {l m : List ByteArray} (hl : l.Pairwise ltN) (hm : m.Pairwise ltN) (h : ∀ a, a ∈ l ↔ a ∈ m) : l = m := by
  have nd : ∀ {l : List ByteArray}, l.Pairwise ltN → l.Nodup := fun h => List.Pairwise.imp (fun {a b} hab e => by subst e; exact ltN_irr _ hab) h
  have hp : l.Perm m := (List.perm_ext_iff_of_nodup (nd hl) (nd hm)).2 h
  exact List.Perm.eq_of_pairwise (le := ltN) (fun a b _ _ h1 h2 => absurd h2 (ltN_asym h1)) hl hm hp
theorem JN.unique {rs : List Ru} {N M : List ByteArray} (h : JN rs N) (k : JN rs M) : N = M := strictN_unique h.srt k.srt fun a => (h.mem a).trans (k.mem a).symm
theorem JN.nil : JN [] [] := ⟨List.Pairwise.nil, fun x => by simp, Nat.le_refl _⟩
theorem JN.skip {rs : List Ru} {N : List ByteArray} {r : Ru} (h : JN rs N) (hm : r.1 ∈ N) : JN (rs ++ [r]) N := by
  refine ⟨h.srt, fun x => ?_, by rw [List.length_append]; exact Nat.le_trans h.len (Nat.le_add_right _ _)⟩
  rw [h.mem x]
  constructor
  · rintro ⟨q, hq, e⟩; exact ⟨q, List.mem_append.2 (Or.inl hq), e⟩
  · rintro ⟨q, hq, e⟩
    rcases List.mem_append.1 hq with hq | hq
    · exact ⟨q, hq, e⟩
    · rw [List.mem_singleton] at hq
      subst hq; subst e
      exact (h.mem _).1 hm
theorem JN.ins {rs : List Ru} {N : List ByteArray} {r : Ru} {t : Nat} (h : JN rs N) (h1 : ∀ j x, j < t → N[j]? = some x → ltN x r.1) (h2 : ∀ j x, t ≤ j → N[j]? = some x → ltN r.1 x) : JN (rs ++ [r]) (N.take t ++ ([r.1] ++ N.drop t)) := by
  have a1 : ∀ x ∈ N.take t, ltN x r.1 := fun x hx => by
    obtain ⟨j, hj, rfl⟩ := List.mem_take_iff_getElem.1 hx
    exact h1 j _ (by omega) (List.getElem?_eq_getElem (by omega))
  have a2 : ∀ x ∈ N.drop t, ltN r.1 x := fun x hx => by
    obtain ⟨j, hj, rfl⟩ := List.mem_drop_iff_getElem.1 hx
    exact h2 (t + j) _ (Nat.le_add_right _ _) (by rw [List.getElem?_eq_getElem (by omega)])
  have hpw := h.srt
  rw [← List.take_append_drop t N, List.pairwise_append] at hpw
  refine ⟨?_, fun x => ?_, ?_⟩
  · rw [List.pairwise_append]
    refine ⟨hpw.1, ?_, fun a ha b hb => ?_⟩
    · rw [List.singleton_append, List.pairwise_cons]
      exact ⟨a2, hpw.2.1⟩
    · rw [List.singleton_append] at hb
      rcases List.mem_cons.1 hb with rfl | hb
      · exact a1 a ha
      · exact hpw.2.2 a ha b hb
  · have hN : x ∈ N.take t ++ ([r.1] ++ N.drop t) ↔ x ∈ N ∨ x = r.1 := by
      conv => rhs; rw [← List.take_append_drop t N]
      simp only [List.mem_append, List.mem_singleton]
      constructor
      · rintro (h | h | h)
        · exact Or.inl (Or.inl h)
        · exact Or.inr h
        · exact Or.inl (Or.inr h)
      · rintro ((h | h) | h)
        · exact Or.inl h
        · exact Or.inr (Or.inr h)
        · exact Or.inr (Or.inl h)
    rw [hN, h.mem x]
    constructor
    · rintro (⟨q, hq, e⟩ | e)
      · exact ⟨q, List.mem_append.2 (Or.inl hq), e⟩
      · exact ⟨r, List.mem_append.2 (Or.inr List.mem_cons_self), e.symm⟩
    · rintro ⟨q, hq, e⟩
      rcases List.mem_append.1 hq with hq | hq
      · exact Or.inl ⟨q, hq, e⟩
      · rw [List.mem_singleton] at hq
        subst hq; exact Or.inr e.symm
  · have := h.len
    rw [List.length_append, List.length_append, List.length_take, List.length_drop, List.length_append, List.length_singleton, List.length_singleton]
    omega
theorem JN.below {rs : List Ru} {N : List ByteArray} {nm y : ByteArray} {t : Nat} (h : JN rs N) (hy : N[t]? = some y) (hlt : ltN y nm) : ∀ j x, j < t + 1 → N[j]? = some x → ltN x nm := by
  intro j x hj hx
  by_cases e : j = t
  · subst e; rw [hy] at hx; cases hx; exact hlt
  · have h1 := (List.getElem?_eq_some_iff.1 hy)
    have h2 := (List.getElem?_eq_some_iff.1 hx)
    obtain ⟨p1, rfl⟩ := h1
    obtain ⟨p2, rfl⟩ := h2
    exact ltN_tr ((List.pairwise_iff_getElem.1 h.srt) j t p2 p1 (by omega)) hlt

theorem colF_tidy : ∀ (rs : List Ru) (m : DataW Unit), Tidy m → Tidy (rs.foldl (fun m r => m.put (keyS r.1) (numS r.2)) m)
  | [], _, h => h
  | _ :: rs, _, h => colF_tidy rs _ (h.put (by unfold keyS WideAt.IsKeyLit; trivial) _)
theorem colD_tidy (rs : List Ru) : Tidy (colD rs) := colF_tidy rs _ tidy_empty
theorem colF_has (nm : ByteArray) : ∀ (rs : List Ru) (m : DataW Unit), IsMap m → (Maps.has (rs.foldl (fun m r => m.put (keyS r.1) (numS r.2)) m) (keyS nm) = true ↔ (Maps.has m (keyS nm) = true ∨ ∃ r ∈ rs, r.1 = nm))
  | [], m, _ => by simp
  | r :: rs, m, hm => by
    rw [List.foldl_cons, colF_has nm rs _ (hm.put _ _)]
    by_cases e : r.1 = nm
    · rw [e, Maps.has_put_same hm (by unfold keyS WideAt.IsKeyLit; trivial)]
      simp [e]
    · rw [Maps.has_put_other (keyS_ne (Ne.symm e))]
      constructor
      · rintro (h | ⟨q, hq, e2⟩)
        · exact Or.inl h
        · exact Or.inr ⟨q, List.mem_cons_of_mem _ hq, e2⟩
      · rintro (h | ⟨q, hq, e2⟩)
        · exact Or.inl h
        · rcases List.mem_cons.1 hq with h | h
          · exact absurd (by rw [← h]; exact e2) e
          · exact Or.inr ⟨q, h, e2⟩
theorem colD_has (rs : List Ru) (nm : ByteArray) : Maps.has (colD rs) (keyS nm) = true ↔ ∃ r ∈ rs, r.1 = nm := by
  have h := colF_has nm rs (.map []) isMap_empty
  rw [colD, h]
  simp [Maps.has_eq]
theorem colF_size : ∀ (rs : List Ru) (m : DataW Unit), Tidy m → Maps.size (rs.foldl (fun m r => m.put (keyS r.1) (numS r.2)) m) ≤ Maps.size m + rs.length
  | [], _, _ => Nat.le_refl _
  | r :: rs, m, h => by
    have h1 := colF_size rs (m.put (keyS r.1) (numS r.2)) (h.put (by unfold keyS WideAt.IsKeyLit; trivial) _)
    have h2 := Maps.size_put (k := keyS r.1) h (numS r.2)
    rw [List.foldl_cons, List.length_cons]
    split at h2 <;> omega
theorem colD_size (rs : List Ru) : Maps.size (colD rs) ≤ rs.length := by
  have := colF_size rs (.map []) tidy_empty
  have h0 : Maps.size (DataW.map [] : DataW Unit) = 0 := rfl
  rw [h0] at this
  rw [colD]; omega
theorem JN.keys {w : World} {b : Nat} {rs : List Ru} {ss : List (List UInt8)} (h : IsCol w b rs) (hp : ss.Perm (strKeys (colD rs))) : JN rs ((ss.mergeSort leB).map ofL) := by
  obtain ⟨es, hD, hpw, _⟩ := World.ownsMap.entries h lawStr
  obtain ⟨es', hD', hko⟩ := World.ownsMap.keysOf h
  obtain rfl : es = es' := by rw [hD] at hD'; simpa using hD'
  have hstr : ∀ p ∈ es, ∃ x, p.1 = .string x := fun p hp => by
    obtain ⟨v, hv⟩ := hko p hp
    obtain ⟨x, _, hx, _⟩ := Maps.keyOf_str Tryz.underlying9 hv
    exact ⟨x, hx⟩
  have hnd : (strKeys (DataW.map es)).Nodup := by
    show (es.map fun p => strOf p.1).Nodup
    refine List.pairwise_map.2 (hpw.imp_of_mem fun {p q} hp' hq' hne e => hne ?_)
    obtain ⟨a, ha⟩ := hstr p hp'
    obtain ⟨b, hb⟩ := hstr q hq'
    rw [ha, hb] at e ⊢
    exact congrArg _ e
  have hmem : ∀ x : List UInt8, x ∈ strKeys (colD rs) ↔ ∃ r ∈ rs, r.1 = ofL x := fun x => by
    have hk : keyS (ofL x) = .string x := by unfold keyS; rw [ofL_list]
    rw [← colD_has, hk, hD, Maps.has_eq, List.any_eq_true]
    show x ∈ es.map (fun p => strOf p.1) ↔ _
    rw [List.mem_map]
    constructor
    · rintro ⟨p, hp', rfl⟩
      obtain ⟨a, ha⟩ := hstr p hp'
      exact ⟨p, hp', by rw [ha]; simp [Lit.sameKey, strOf]⟩
    · rintro ⟨p, hp', hs⟩
      obtain ⟨a, ha⟩ := hstr p hp'
      rw [ha] at hs
      exact ⟨p, hp', by rw [ha]; simpa [Lit.sameKey, strOf] using hs⟩
  have tr : ∀ a b c : List UInt8, leB a b = true → leB b c = true → leB a c = true := fun a b c h1 h2 => by simp only [leB, decide_eq_true_eq] at *; exact List.le_trans h1 h2
  have tto : ∀ a b : List UInt8, (leB a b || leB b a) = true := fun a b => by simp only [leB, Bool.or_eq_true, decide_eq_true_eq]; exact List.le_total a b
  have hperm := List.mergeSort_perm ss leB
  have hnd2 : (ss.mergeSort leB).Nodup := (hperm.trans hp).nodup_iff.2 (by rw [hD]; exact hnd)
  refine ⟨?_, fun x => ?_, ?_⟩
  · rw [List.pairwise_map]
    refine ((List.pairwise_mergeSort tr tto ss).and hnd2).imp ?_
    rintro a b ⟨h1, h2⟩
    simp only [leB, decide_eq_true_eq] at h1
    show (ofL a).data.toList < (ofL b).data.toList
    rw [ofL_list, ofL_list]
    by_cases k : a < b
    · exact k
    · exact absurd (List.le_antisymm h1 (List.not_lt.1 k)) h2
  · rw [List.mem_map]
    constructor
    · rintro ⟨y, hy, rfl⟩
      exact (hmem y).1 (hp.mem_iff.1 (hperm.mem_iff.1 hy))
    · intro hx
      refine ⟨x.data.toList, hperm.mem_iff.2 (hp.mem_iff.2 ((hmem _).2 (by rw [ofL_of]; exact hx))), ofL_of x⟩
  · rw [List.length_map, List.length_mergeSort, hp.length_eq, hD]
    show (es.map fun p => strOf p.1).length ≤ _
    have := colD_size rs
    rw [hD, Maps.size_eq] at this
    rw [List.length_map]; exact this
end Go.Proofs.YtgcdfkpidcdicaaGreatDoor
