/- Helper contracts: the program's TagOf and what it calls. Asked: the string is shorter than 2^30 bytes; the slice of words reads as the list named. -/
import Derived.Test.YtbegfdfdilnjdaaDoorTagP
import Derived.Test.YtbegfdfdilnjdaaDoorStrLib
import Derived.Test.YtbegfdfdilnjdaaDoorTkM
import Derived.Shelf.SlSortCmp.QuietGrown
namespace Go.Proofs.YtbegfdfdilnjdaaDoor
open Go.ChangeShapes Go.WideShapes Go.ChangeAt Go.RowKit

theorem attr_cut_none {p : List UInt8} (h : ¬ idxB 61 p < p.length) : attrB p = none := attrB_len (by rw [idx_split_none h]; simp)
theorem isVal_empty : isVal ⟨#[]⟩ = false := isVal_len (by decide)
theorem isVal_eq {l : List UInt8} (h : idxB 61 l < l.length) : isVal (ofL l) = false := by
  unfold isVal
  have : (ofL l).data.toList.all isVc = false := by
    rw [Bool.eq_false_iff]
    intro hall
    have h1 := List.all_eq_true.1 hall 61 (List.mem_of_getElem? (idxB_at h))
    exact absurd h1 (by decide)
  rw [this, Bool.and_false]
theorem attr_cut_yes {p : List UInt8} (h : idxB 61 p < p.length) (h1 : isNm (ofL (p.take (idxB 61 p))) = true) (h2 : isVal (ofL (p.drop (idxB 61 p + 1))) = true) : attrB p = some (ofL (p.take (idxB 61 p)), ofL (p.drop (idxB 61 p + 1))) := by
  have h3 : ¬ idxB 61 (p.drop (idxB 61 p + 1)) < (p.drop (idxB 61 p + 1)).length := fun hc => by rw [isVal_eq hc] at h2; cases h2
  exact attrB_yes (by rw [idx_split h, idx_split_none h3]) h1 h2
theorem attr_cut_no {p : List UInt8} (h : idxB 61 p < p.length) (hn : isNm (ofL (p.take (idxB 61 p))) = false ∨ isVal (ofL (p.drop (idxB 61 p + 1))) = false) : attrB p = none := by
  by_cases h3 : idxB 61 (p.drop (idxB 61 p + 1)) < (p.drop (idxB 61 p + 1)).length
  · refine attrB_len ?_
    rw [idx_split h, idx_split h3]
    have := splS_pos 61 ((p.drop (idxB 61 p + 1)).drop (idxB 61 (p.drop (idxB 61 p + 1)) + 1))
    unfold splS at this
    rw [List.length_map] at this
    simp only [List.length_cons]; omega
  · exact attrB_no (by rw [idx_split h, idx_split_none h3]) hn
/-- What the program's cut of a word says. -/
theorem attr_cut (s : ByteArray) : ∃ (k v : ByteArray) (b : Bool), cutC 61 s = .tuple #[.string k, .string v, .bool b] ∧ k.size ≤ s.size ∧ v.size ≤ s.size ∧ (isNm k = true → isVal v = true → attrB s.data.toList = some (k, v)) ∧ (isNm k = false ∨ isVal v = false → attrB s.data.toList = none) := by
  by_cases h : idxB 61 s.data.toList < s.size
  · refine ⟨s.extract 0 (idxB 61 s.data.toList), s.extract (idxB 61 s.data.toList + 1) s.size, true, ?_, ?_, ?_, ?_, ?_⟩
    · unfold cutC; rw [if_pos h]
    · rw [ByteArray.size_extract]; omega
    · rw [ByteArray.size_extract]; omega
    · intro h1 h2
      rw [extract_pre] at h1 ⊢
      rw [extract_suf] at h2 ⊢
      exact attr_cut_yes (by rw [size_list]; exact h) h1 h2
    · intro hn
      rw [extract_pre, extract_suf] at hn
      exact attr_cut_no (by rw [size_list]; exact h) hn
  · have hn := attr_cut_none (p := s.data.toList) (by rw [size_list]; exact h)
    refine ⟨s, ⟨#[]⟩, false, by unfold cutC; rw [if_neg h], Nat.le_refl _, Nat.zero_le _, ?_, fun _ => hn⟩
    intro _ h2
    rw [isVal_empty] at h2; cases h2
theorem attTo.twice' {ps : List (List UInt8)} {m : Nat} {acc : List At} {p : List UInt8} {k v x : ByteArray} (h : attTo ps m acc) (hp : ps[m]? = some p) (hb : isNm k = true → isVal v = true → attrB p = some (k, v)) (hb2 : isNm k = false ∨ isVal v = false → attrB p = none) (hf : findA acc k = some x) : attrsB ps [] = none := by
  cases h1 : isNm k with
  | false => exact h.bad hp (hb2 (Or.inl h1))
  | true =>
    cases h2 : isVal v with
    | false => exact h.bad hp (hb2 (Or.inr h2))
    | true => exact h.twice hp (hb h1 h2) hf

/-- What parseAttrs answers. -/
def pAttrs (ps : List (List UInt8)) : Option (List At) := if 4 < ps.length then none else attrsB ps []
def PaOut (ps : List (List UInt8)) (w : World) (e : Ending) (w' : World) : Prop :=
  (pAttrs ps = none ∧ e = .returned (.tuple #[.slice none 0 0, .bool false]) ∧ Below w.heap.size w w') ∨
  ∃ v ats, pAttrs ps = some ats ∧ e = .returned (.tuple #[v, .bool true]) ∧ OwnK encA 2 67 w.heap.size w'.heap.size w' v ats ∧ Below w.heap.size w w'

set_option maxRecDepth 100000 in
set_option maxHeartbeats 4000000 in
theorem pattr_any (v : Value) (hi : Nat) (ps : List (List UInt8)) (w : World) (hr : ReadsK encS 1 hi w v (ps.map ofL)) (hh : hi ≤ w.heap.size) (hsz : ∀ p ∈ ps, (ofL p).size ≤ 1099511627776) :
    Calls Tryd.prog 59 #[v] w (PaOut ps w) := by
  have hr0 := hr
  obtain ⟨a, cap, rfl, hc1, hc2, _, hcells⟩ := hr
  obtain ⟨N, hN⟩ : ∃ N, (ps.map ofL).length = N := ⟨_, rfl⟩
  have hpl : N = ps.length := by rw [← hN]; simp
  rw [hN] at hc1 hr0 hcells ⊢
  have HC := Lib.hid hcells; have HSZ := Lib.hid hsz; have HPL := Lib.hid hpl
  clear hcells hsz hN hr0 hpl
  by_cases h4 : (4 : Int) < (N : Int)
  · have HN := Lib.hid (show pAttrs ps = none by unfold pAttrs; rw [if_pos (by have := HPL.out; omega)])
    go_enter Tryd.func59, Tryd.ntmps59
    go_wp2
    go_ret2
    exact Or.inl ⟨HN.out, rfl, Below.refl _ _⟩
  · have HPA := Lib.hid (show pAttrs ps = attrsB ps [] by unfold pAttrs; rw [if_neg (by have := HPL.out; omega)])
    go_enter Tryd.func59, Tryd.ntmps59
    go_wp2
    go_loopw [4, 18] (fun u i wr => ∃ (k : Nat) (acc : List At), k ≤ N ∧ i = .int .i64 k ∧ MineK encA 2 67 w.heap.size w wr u acc ∧ attTo ps k acc ∧ acc.length = k)
      (fun _ i _ => N - (intOf i).toNat)
    case atStart => exact ⟨0, [], Nat.zero_le _, rfl, MineK.empty _ _ _ _ _ _ (Below.refl _ _) (Nat.le_refl _), attTo.zero _, rfl⟩
    case round =>
      obtain ⟨k, acc, hk, rfl, hM, hat, hacc⟩ := hrel
      have HM := Lib.hid hM; have HAT := Lib.hid hat; have HACC := Lib.hid hacc
      clear hM hat hacc
      by_cases hlt : (k : Int) < (N : Int)
      · obtain ⟨p, hp⟩ : ∃ p, ps[k]? = some p := ⟨_, List.getElem?_eq_getElem (by have := HPL.out; omega)⟩
        have hps : (ofL p).size ≤ 1099511627776 := HSZ.out p (List.mem_of_getElem? hp)
        rcases HC.out with h0 | ⟨g, off, rfl, hg, hcells⟩
        · omega
        · have c0 : wr.cell? ⟨g, off + k, none⟩ = some (.string (ofL p)) := by
            rw [HM.out.below.cell (show g < _ by omega)]
            have := hcells k (ofL p) (by rw [List.getElem?_map, hp]; rfl) 0 (by omega)
            rw [Nat.mul_one] at this
            exact this
          have HP := Lib.hid hp
          clear hcells hp
          obtain ⟨kk, vv, bb, hcut, hz1, hz2, hyes, hno⟩ := attr_cut (ofL p)
          have HCUT := Lib.hid (fun W => hcut ▸ cutC_any 61 (ofL p) (by omega) W)
          have HYES := Lib.hid hyes; have HNOT := Lib.hid hno
          have HRD := Lib.hid (fun nd => (HM.out.own.reads encA_len).below (((Grw.refl wr).drewN nd).below) (Nat.le_refl _))
          clear hcut hyes hno
          cases hf : findA acc kk with
          | some x =>
            have HFS := Lib.hid (fun (W : World) (hr : ReadsK encA 2 wr.heap.size W u4 acc) (hh : wr.heap.size ≤ W.heap.size) => findV_some hf ▸ find_impl u4 wr.heap.size acc kk W hr hh)
            have HNO := Lib.hid (show pAttrs ps = none by rw [HPA.out]; exact HAT.out.twice' HP.out HYES.out HNOT.out hf)
            go_wp2_with fail
            refine (HCUT.out _).mono ?_
            rintro e w1 ⟨rfl, nd, rfl⟩
            go_wp2_with fail
            refine (HFS.out _ (HRD.out nd) (Nat.le_refl _)).mono ?_
            rintro e w2 ⟨rfl, hg2⟩
            have HM2 := Lib.hid (HM.out.later (((Grw.refl wr).drewN nd).trans hg2).below)
            clear hg2
            go_wp2_with fail
            go_ret2
            exact Or.inl ⟨HNO.out, rfl, HM2.out.below⟩
          | none =>
            have HFS := Lib.hid (fun (W : World) (hr : ReadsK encA 2 wr.heap.size W u4 acc) (hh : wr.heap.size ≤ W.heap.size) => findV_none hf ▸ find_impl u4 wr.heap.size acc kk W hr hh)
            cases hk : isNm kk with
            | false =>
              have HNO := Lib.hid (show pAttrs ps = none by rw [HPA.out]; exact HAT.out.bad HP.out (HNOT.out (Or.inl hk)))
              go_wp2_with fail
              refine (HCUT.out _).mono ?_
              rintro e w1 ⟨rfl, nd, rfl⟩
              go_wp2_with fail
              refine (HFS.out _ (HRD.out nd) (Nat.le_refl _)).mono ?_
              rintro e w2 ⟨rfl, hg2⟩
              have HM2 := Lib.hid (HM.out.later (((Grw.refl wr).drewN nd).trans hg2).below)
              clear hg2
              go_wp2_with fail
              refine (nm_impl kk (by omega) _).mono ?_
              rintro e w' ⟨rfl, rfl⟩
              rw [hk]
              go_wp2_with fail
              go_ret2
              exact Or.inl ⟨HNO.out, rfl, HM2.out.below⟩
            | true =>
              cases hv : isVal vv with
              | false =>
                have HNO := Lib.hid (show pAttrs ps = none by rw [HPA.out]; exact HAT.out.bad HP.out (HNOT.out (Or.inr hv)))
                go_wp2_with fail
                refine (HCUT.out _).mono ?_
                rintro e w1 ⟨rfl, nd, rfl⟩
                go_wp2_with fail
                refine (HFS.out _ (HRD.out nd) (Nat.le_refl _)).mono ?_
                rintro e w2 ⟨rfl, hg2⟩
                have HM2 := Lib.hid (HM.out.later (((Grw.refl wr).drewN nd).trans hg2).below)
                clear hg2
                go_wp2_with fail
                refine (nm_impl kk (by omega) _).mono ?_
                rintro e w' ⟨rfl, rfl⟩
                rw [hk]
                go_wp2_with fail
                refine (val_impl vv (by omega) _).mono ?_
                rintro e w' ⟨rfl, rfl⟩
                rw [hv]
                go_wp2_with fail
                go_ret2
                exact Or.inl ⟨HNO.out, rfl, HM2.out.below⟩
              | true =>
                have HSU := Lib.hid (HAT.out.succ HP.out (HYES.out hk hv) hf)
                go_wp2_with fail
                refine (HCUT.out _).mono ?_
                rintro e w1 ⟨rfl, nd, rfl⟩
                go_wp2_with fail
                refine (HFS.out _ (HRD.out nd) (Nat.le_refl _)).mono ?_
                rintro e w2 ⟨rfl, hg2⟩
                have HM2 := Lib.hid (HM.out.later (((Grw.refl wr).drewN nd).trans hg2).below)
                clear hg2
                go_wp2_with fail
                refine (nm_impl kk (by omega) _).mono ?_
                rintro e w' ⟨rfl, rfl⟩
                rw [hk]
                go_wp2_with fail
                refine (val_impl vv (by omega) _).mono ?_
                rintro e w' ⟨rfl, rfl⟩
                rw [hv]
                go_wp2_with (at_builtin; refine wpList_appA rfl _ _ rfl w.heap.size w _ acc rfl (HM2.out.alloc _) _ _ [(kk, vv)] rfl (readsA_one w2 kk vv) ?c3 ?_)
                case c3 => have := HACC.out; simp; omega
                intro v3 w3 hm3
                have HM3 := Lib.hid hm3; clear hm3
                go_wp2
                go_roundw
                case rel => exact ⟨k + 1, acc ++ [(kk, vv)], by omega, by go_num, HM3.out, HSU.out, by rw [List.length_append, HACC.out]; rfl⟩
                case measure => simp [intOf] <;> omega
      · have hjn : k = N := by omega
        have HF := Lib.hid (show pAttrs ps = some acc by rw [HPA.out]; exact HAT.out.full (by have := HPL.out; omega))
        go_wp2
        go_ret2
        exact Or.inr ⟨_, acc, HF.out, rfl, HM.out.own, HM.out.below⟩
end Go.Proofs.YtbegfdfdilnjdaaDoor
