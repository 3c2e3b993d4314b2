/- 5 texts in one. -/
import Derived.Test.YtiginllbfjekeaaTagP
import Derived.Shelf.SlSortCmp.QuietGrown
import Derived.Test.YtiginllbfjekeaaBdAll
import Derived.Test.YtiginllbfjekeaaTreesW
import Derived.Test.YtiginllbfjekeaaDrawAny
namespace Go.Proofs.Ytiginllbfjekeaa
/- TagS -/
open Go.ChangeShapes Go.WideShapes Go.ChangeAt Go.RowKit

set_option maxRecDepth 100000 in
set_option maxHeartbeats 2000000 in
theorem tagS_short (s : ByteArray) (hs : s.size ≤ 1099511627) (w : World) (hc : 60 < s.size ∨ s.data.toList[0]? = some 47) :
    Calls Try.prog 64 #[.string s] w (TagOut s w) := by
  have HB := Lib.hid ((Below.refl w.heap.size w).alloc (Nat.le_refl _) (.cells #[.int .i64 0, .string ⟨#[]⟩, .slice none 0 0, .string ⟨#[]⟩] 30))
  by_cases hlong : (60 : Int) < (s.size : Int)
  · have HN := Lib.hid (tag_long (s := s) (by omega))
    go_enter Try.func64, Try.ntmps64
    go_wp2_with fail
    refine bodyPost_ret (v := .tuple #[zTok, .bool false]) (by simp [results, Try.results64, go_sem]) rfl ?_
    exact tagOut_none HN.out HB.out
  · have hsl : s.data.toList[0]? = some 47 := by
      rcases hc with hc | hc
      · omega
      · exact hc
    obtain ⟨r, hr⟩ := first_slash hsl
    have h0 : 0 < s.size := by rw [← size_list, hr]; simp
    have hpos : decide ((0 : Int) < (s.size : Int)) = true := decide_eq_true (by omega)
    have hb47 : s[0] = 47 := by rw [get_at h0] at hsl; exact Option.some.inj hsl
    have hb : ((s[0].toNat : Int) == 47) = true := by rw [hb47]; rfl
    have hx : s.extract 1 s.size = ofL r := by rw [extract_suf, hr]; rfl
    have hrs : (ofL r).size ≤ 9223372036854775807 := by
      have h9 : (47 :: r).length = s.size := by rw [← hr, size_list]
      rw [ofL_size]; rw [List.length_cons] at h9; omega
    have HX := Lib.hid hx; have HR := Lib.hid hr
    clear hx hr hsl hb47
    cases hn : isNm (ofL r) with
    | true =>
      have HT := Lib.hid (tag_close_yes (s := s) (by omega) HR.out hn)
      go_enter Try.func64, Try.ntmps64
      go_wp2_with fail
      rw [HX.out]
      refine (nm_spec (ofL r) hrs _).mono ?_
      rintro e w' ⟨rfl, rfl⟩
      go_wp2_with fail
      refine bodyPost_ret (v := .tuple #[.agg #[.int .i64 2, .string (ofL r), .slice none 0 0, .string ⟨#[]⟩], .bool true]) (by simp [results, Try.results64, go_sem, HX.out]) rfl ?_
      exact tagOut_some HT.out (ownK_nil _ _ _ _ _ _) ((Below.refl _ w).alloc (Nat.le_refl _) _) rfl
    | false =>
      have HT := Lib.hid (tag_close_no (s := s) (by omega) HR.out hn)
      go_enter Try.func64, Try.ntmps64
      go_wp2_with fail
      rw [HX.out]
      refine (nm_spec (ofL r) hrs _).mono ?_
      rintro e w' ⟨rfl, rfl⟩
      go_wp2_with fail
      refine bodyPost_ret (v := .tuple #[zTok, .bool false]) (by simp [results, Try.results64, go_sem]) rfl ?_
      exact tagOut_none HT.out HB.out

/-- What the loop over the attributes keeps. -/
structure TagInv (w : World) (rb tb : Nat) (v1 : Value) (xs : List ByteArray) (nm : ByteArray) (ps : List (List UInt8)) (k : Nat) (acc : List At) (u : Value) (wr : World) : Prop where
  res : wr.heap[rb]? = some (.cells #[.int .i64 0, .string ⟨#[]⟩, .slice none 0 0, .string ⟨#[]⟩] 30 (0, 0))
  tok : wr.heap[tb]? = some (.cells #[.int .i64 1, .string nm, u, .string ⟨#[]⟩] 30 (0, 0))
  own : OwnK encA 2 104 (tb + 1) wr.heap.size wr u acc
  str : OwnK encS 1 9 (rb + 1) tb wr v1 xs
  bel : Below w.heap.size w wr
  att : attTo ps k acc
  len : acc.length = k
/-- The model's memory goes on, nothing old written. -/
theorem TagInv.later {w wr wx : World} {rb tb k : Nat} {v1 u : Value} {xs : List ByteArray} {nm : ByteArray} {ps : List (List UInt8)} {acc : List At} (h : TagInv w rb tb v1 xs nm ps k acc u wr) (hb : Below wr.heap.size wr wx) : TagInv w rb tb v1 xs nm ps k acc u wx :=
  ⟨below_heap hb (heap_lt h.res) h.res, below_heap hb (heap_lt h.tok) h.tok, (h.own.later hb).mono (Nat.le_refl _) hb.size, h.str.later hb, h.bel.trans (hb.mono h.bel.size), h.att, h.len⟩

theorem TagInv.next {w w3 w4 : World} {rb tb m : Nat} {v1 u v4 : Value} {xs : List ByteArray} {nm : ByteArray} {ps : List (List UInt8)} {acc : List At} {a : At} (h : TagInv w rb tb v1 xs nm ps m acc u w3) (h4 : MineK encA 2 104 (tb + 1) w3 w4 v4 (acc ++ [a])) (hrb : rb < tb) (hw : w.heap.size ≤ tb) (hat : attTo ps (m + 1) (acc ++ [a])) :
    TagInv w rb tb v1 xs nm ps (m + 1) (acc ++ [a]) v4 (w4.setCell ⟨tb, 2, none⟩ v4) := by
  have hs : Below tb w4 (w4.setCell ⟨tb, 2, none⟩ v4) := (Below.refl tb w4).setCell (Nat.le_refl _) _
  have ht := below_heap h4.below (Nat.lt_succ_self _) h.tok
  refine ⟨below_heap hs hrb (below_heap h4.below (by omega) h.res), ?_, ?_, ?_, ?_, hat, by rw [List.length_append, h.len]; rfl⟩
  · have := heap_one (o := 2) ht v4
    exact this
  · exact (ownK_set h4.own (Nat.lt_succ_self _)).mono (Nat.le_refl _) (size_set _ _ _)
  · exact ownK_below (ownK_below h.str h4.below (Nat.le_succ _)) hs (Nat.le_refl _)
  · exact (h.bel.trans (h4.below.mono (by omega))).trans (hs.mono hw)

set_option maxRecDepth 100000 in
set_option maxHeartbeats 8000000 in
theorem tagS_open (s : ByteArray) (hs : s.size ≤ 60) (w : World) (hsl : s.data.toList[0]? ≠ some 47) :
    Calls Try.prog 64 #[.string s] w (TagOut s w) := by
  have mixed : Try.prog.follows .mixedOrders = true := by kernel_rfl
  obtain ⟨n, ps, hsp⟩ : ∃ n ps, splitB 32 s.data.toList = n :: ps := by
    cases h : splitB 32 s.data.toList with
    | nil => exact absurd h (splitB_ne _ _)
    | cons n ps => exact ⟨n, ps, rfl⟩
  have hxs : splS 32 s.data.toList = ofL n :: ps.map ofL := by unfold splS; rw [hsp]; rfl
  obtain ⟨N, hN⟩ : ∃ N, (ofL n :: ps.map ofL).length = N := ⟨_, rfl⟩
  have hpl : N = ps.length + 1 := by rw [← hN]; simp
  have hlen : ps.length ≤ 60 := by have := splS_len 32 s.data.toList; rw [hxs, hN, size_list] at this; omega
  have hsz : ∀ p ∈ n :: ps, (ofL p).size ≤ 60 := fun p hp => by have := splitB_piece (hsp ▸ hp); rw [size_list] at this; rw [ofL_size]; omega
  have hnsz : (ofL n).size ≤ 60 := hsz n List.mem_cons_self
  have hg : ¬ ((0 : Int) < (s.size : Int)) ∨ ∃ h0 : 0 < s.size, ((s[0].toNat : Int) == 47) = false ∧ decide ((0 : Int) < (s.size : Int)) = true := by
    by_cases h0 : 0 < s.size
    · refine Or.inr ⟨h0, ?_, decide_eq_true (by omega)⟩
      have h1 : s[0] ≠ 47 := fun e => hsl (by rw [get_at h0, e])
      exact (u8_beq s[0] 47).trans (decide_eq_false h1)
    · exact Or.inl (by omega)
  have HSL := Lib.hid hsl; have HSP := Lib.hid hsp; have HXS := Lib.hid hxs; have HPL := Lib.hid hpl; have HLEN := Lib.hid hlen; have HSZ := Lib.hid hsz; have HNN := Lib.hid hN; have HNSZ := Lib.hid hnsz; have HS60 := Lib.hid hs
  have h60 : ¬ ((60 : Int) < (s.size : Int)) := by omega
  clear hsl hsp hxs hpl hlen hsz hnsz hs hN
  rcases hg with hg | ⟨h0, hg1, hg2⟩
  all_goals
    go_enter Try.func64, Try.ntmps64
    go_wp2_with fail
    refine (spl_spec s 32 (by have := HS60.out; omega) _).mono ?_
    rintro e w1 ⟨v1, rfl, ho1, hb1⟩
    rw [HXS.out, size_alloc] at ho1
    rw [size_alloc] at hb1
    obtain ⟨g1, cap1, rfl, hg1a, hg1b, hg1c, hcap, hcap2, hcells⟩ := ho1.strAt (by simp)
    rw [HNN.out] at ho1 hcap ⊢
    have HCELL := Lib.hid hcells; have HO1 := Lib.hid ho1
    have c0 : w1.cell? ⟨g1, 0, none⟩ = some (.string (ofL n)) := hcells 0 _ rfl
    have hN0 : (0 : Int) < (N : Int) := by have := HPL.out; omega
    have HB1 := Lib.hid hb1
    clear hcells ho1 hb1
    go_wp2_with fail
    go_loopw [6] (fun i wr => ∃ (j m : Nat) (acc : List At) (u : Value), m + 1 = j ∧ j ≤ N ∧ i = .int .i64 j ∧ TagInv w w.heap.size w1.heap.size (.slice (some ⟨g1, 0, none⟩) N cap1) (ofL n :: ps.map ofL) (ofL n) ps m acc u wr) (fun i _ => N - (intOf i).toNat)
    case atStart =>
      refine ⟨1, 0, [], .slice none 0 0, rfl, by have := HPL.out; omega, rfl, ?_, ?_, ownK_nil _ _ _ _ _ _, ?_, ?_, attTo.zero _, rfl⟩
      · rw [Below.heap_alloc _ _ _ (by have := HB1.out.size; omega), HB1.out.block _ (by omega)]; exact heap_alloc_new w _
      · exact heap_alloc_new w1 _
      · exact HO1.out.later ((Below.refl _ w1).alloc (Nat.le_refl _) _)
      · exact (((Below.refl _ w).alloc (Nat.le_refl _) _).trans (HB1.out.mono (Nat.le_succ _))).alloc (by have := HB1.out.size; omega) _
    case round =>
      obtain ⟨j, m, acc, u, hm, hj, rfl, hinv⟩ := hrel
      have HM := Lib.hid hm; have HI := Lib.hid hinv
      clear hm hinv
      by_cases hlt : (j : Int) < (N : Int)
      · obtain ⟨p, hp⟩ : ∃ p, ps[m]? = some p := ⟨_, List.getElem?_eq_getElem (by have := HM.out; have := HPL.out; omega)⟩
        have hxj : (ofL n :: ps.map ofL)[j]? = some (ofL p) := by rw [← HM.out, List.getElem?_cons_succ, List.getElem?_map, hp]; rfl
        have hps : (ofL p).size ≤ 60 := HSZ.out p (List.mem_cons_of_mem _ (List.mem_of_getElem? hp))
        have cp : wr.cell? ⟨g1, j, none⟩ = some (.string (ofL p)) := HI.out.str.strCell hxj
        obtain ⟨L2, hL2⟩ : ∃ l, (splS 61 (ofL p).data.toList).length = l := ⟨_, rfl⟩
        have hL0 : 0 < L2 := by rw [← hL2]; exact splS_pos _ _
        have HP := Lib.hid hp; have HPS := Lib.hid hps; have HL2 := Lib.hid hL2
        clear hxj hp hL2
        go_wp2_with fail
        refine (spl_spec (ofL p) 61 (by have := HPS.out; omega) _).mono ?_
        rintro e w2 ⟨v2, rfl, ho2, hb2⟩
        have HI2 := Lib.hid (HI.out.later hb2)
        obtain ⟨g2, cap2, rfl, hg2a, hg2b, hg2c, hca, hcb, hcells2⟩ := ho2.strAt (splS_pos _ _)
        rw [HL2.out] at hca ⊢
        have HC2 := Lib.hid hcells2
        clear ho2 hb2 hcells2 cp
        by_cases hl2 : L2 = 2
        · subst hl2
          obtain ⟨kk, vv, hkv, hkv2⟩ := split_two HL2.out
          have hkm : kk.length ≤ 60 ∧ vv.length ≤ 60 := by
            have h1 := splitB_piece (p := kk) (by rw [hkv]; simp : kk ∈ splitB 61 (ofL p).data.toList)
            have h2 := splitB_piece (p := vv) (by rw [hkv]; simp : vv ∈ splitB 61 (ofL p).data.toList)
            have h3 := HPS.out
            rw [ofL_size] at h3
            exact ⟨Nat.le_trans h1 h3, Nat.le_trans h2 h3⟩
          have hz1 : (ofL kk).size ≤ 9223372036854775807 := by rw [ofL_size]; omega
          have hz2 : (ofL vv).size ≤ 9223372036854775807 := by rw [ofL_size]; omega
          have ck : w2.cell? ⟨g2, 0, none⟩ = some (.string (ofL kk)) := HC2.out 0 _ (by rw [hkv2]; rfl)
          have cv : w2.cell? ⟨g2, 1, none⟩ = some (.string (ofL vv)) := HC2.out 1 _ (by rw [hkv2]; rfl)
          have HKV := Lib.hid (show splitB 61 p = [kk, vv] from hkv); have HZ1 := Lib.hid hz1; have HZ2 := Lib.hid hz2
          clear hkv hkv2 hkm hz1 hz2
          cases hk : isNm (ofL kk) with
          | false =>
            obtain ⟨⟨r0, r1, r2, r3⟩, z0, z1, z2, z3⟩ := cells_four HI2.out.res
            have HK := Lib.hid (heap_four HI2.out.res (.int .i64 0) (.string ⟨#[]⟩) (.slice none 0 0) (.string ⟨#[]⟩))
            have HBB := Lib.hid (below_four HI2.out.bel (Nat.le_refl _) (.int .i64 0) (.string ⟨#[]⟩) (.slice none 0 0) (.string ⟨#[]⟩))
            have HNO := Lib.hid (tag_open_none HS60.out HSL.out HSP.out (HI2.out.att.bad HP.out (attrB_no HKV.out (Or.inl hk))))
            go_wp2_with fail
            refine (nm_spec (ofL kk) HZ1.out _).mono ?_
            rintro e w' ⟨rfl, rfl⟩
            rw [hk]
            go_wp2_with fail
            obtain ⟨⟨q0, q1, q2, q3⟩, _⟩ := cells_four HK.out
            refine bodyPost_ret (v := .tuple #[zTok, .bool false]) (by simp [results, Try.results64, go_sem, q0, q1, q2, q3]) rfl ?_
            exact tagOut_none HNO.out HBB.out
          | true =>
            cases hv : isVal (ofL vv) with
            | false =>
              obtain ⟨⟨r0, r1, r2, r3⟩, z0, z1, z2, z3⟩ := cells_four HI2.out.res
              have HK := Lib.hid (heap_four HI2.out.res (.int .i64 0) (.string ⟨#[]⟩) (.slice none 0 0) (.string ⟨#[]⟩))
              have HBB := Lib.hid (below_four HI2.out.bel (Nat.le_refl _) (.int .i64 0) (.string ⟨#[]⟩) (.slice none 0 0) (.string ⟨#[]⟩))
              have HNO := Lib.hid (tag_open_none HS60.out HSL.out HSP.out (HI2.out.att.bad HP.out (attrB_no HKV.out (Or.inr hv))))
              go_wp2_with fail
              refine (nm_spec (ofL kk) HZ1.out _).mono ?_
              rintro e w' ⟨rfl, rfl⟩
              rw [hk]
              go_wp2_with fail
              refine (val_spec (ofL vv) HZ2.out _).mono ?_
              rintro e w' ⟨rfl, rfl⟩
              rw [hv]
              go_wp2_with fail
              obtain ⟨⟨q0, q1, q2, q3⟩, _⟩ := cells_four HK.out
              refine bodyPost_ret (v := .tuple #[zTok, .bool false]) (by simp [results, Try.results64, go_sem, q0, q1, q2, q3]) rfl ?_
              exact tagOut_none HNO.out HBB.out
            | true =>
              have HA := Lib.hid (attrB_yes HKV.out hk hv)
              have HRD := Lib.hid (fun (n : Nat) (os : Array Obj) => readsK_grown (HI2.out.own.reads encA_len) (Nat.le_refl _) n os)
              have q_u := (cells_four HI2.out.tok).1.2.2.1
              have b_u : w1.heap.size < w2.heap.size := heap_lt HI2.out.tok
              cases hf : findA acc (ofL kk) with
              | some fv =>
                have HFS := Lib.hid (fun (W : World) (hr : ReadsK encA 2 w2.heap.size W u acc) (hh : w2.heap.size ≤ W.heap.size) => findV_some hf ▸ find_spec u w2.heap.size acc (ofL kk) W hr hh)
                go_wp2_with fail
                refine (nm_spec (ofL kk) HZ1.out _).mono ?_
                rintro e w' ⟨rfl, rfl⟩
                rw [hk]
                go_wp2_with fail
                refine (val_spec (ofL vv) HZ2.out _).mono ?_
                rintro e w' ⟨rfl, rfl⟩
                rw [hv]
                go_wp2_with fail
                have g_u := cell_grown (w := w2) (a := ⟨w1.heap.size, 2, none⟩) b_u q_u
                have g_k := cell_grown (w := w2) (a := ⟨g2, 0, none⟩) hg2c ck
                go_quiet_grown (first | (go_at_call 70; refine Calls.grown_of (HFS.out _ (HRD.out _ _) (size_grown (Nat.le_refl _) _ _))))
                obtain ⟨w3, hw⟩ : ∃ x, Sort.grow (w2.drewN nq) osq = x := ⟨_, rfl⟩
                rw [hw]
                have HI3 := Lib.hid (HI2.out.later (wx := w3) (by rw [← hw]; exact grow_below _ _ _))
                clear hw g_u g_k ck cv q_u
                obtain ⟨⟨r0, r1, r2, r3⟩, z0, z1, z2, z3⟩ := cells_four HI3.out.res
                have HK := Lib.hid (heap_four HI3.out.res (.int .i64 0) (.string ⟨#[]⟩) (.slice none 0 0) (.string ⟨#[]⟩))
                have HBB := Lib.hid (below_four HI3.out.bel (Nat.le_refl _) (.int .i64 0) (.string ⟨#[]⟩) (.slice none 0 0) (.string ⟨#[]⟩))
                have HNO := Lib.hid (tag_open_none HS60.out HSL.out HSP.out (HI3.out.att.twice HP.out HA.out hf))
                go_wp2_with fail
                obtain ⟨⟨q0, q1, q2, q3⟩, _⟩ := cells_four HK.out
                refine bodyPost_ret (v := .tuple #[zTok, .bool false]) (by simp [results, Try.results64, go_sem, q0, q1, q2, q3]) rfl ?_
                exact tagOut_none HNO.out HBB.out
              | none =>
                have HFS := Lib.hid (fun (W : World) (hr : ReadsK encA 2 w2.heap.size W u acc) (hh : w2.heap.size ≤ W.heap.size) => findV_none hf ▸ find_spec u w2.heap.size acc (ofL kk) W hr hh)
                go_wp2_with fail
                refine (nm_spec (ofL kk) HZ1.out _).mono ?_
                rintro e w' ⟨rfl, rfl⟩
                rw [hk]
                go_wp2_with fail
                refine (val_spec (ofL vv) HZ2.out _).mono ?_
                rintro e w' ⟨rfl, rfl⟩
                rw [hv]
                go_wp2_with fail
                have g_u := cell_grown (w := w2) (a := ⟨w1.heap.size, 2, none⟩) b_u q_u
                have g_k := cell_grown (w := w2) (a := ⟨g2, 0, none⟩) hg2c ck
                go_quiet_grown (first | (go_at_call 70; refine Calls.grown_of (HFS.out _ (HRD.out _ _) (size_grown (Nat.le_refl _) _ _))))
                obtain ⟨w3, hw⟩ : ∃ x, Sort.grow (w2.drewN nq) osq = x := ⟨_, rfl⟩
                rw [hw]
                have hB3 : Below w2.heap.size w2 w3 := by rw [← hw]; exact grow_below _ _ _
                have HI3 := Lib.hid (HI2.out.later hB3)
                replace ck := (hB3.cell hg2c).trans ck
                replace cv := (hB3.cell hg2c).trans cv
                have HSU := Lib.hid (HI3.out.att.succ HP.out HA.out hf)
                have HLA := Lib.hid (show acc.length + 1 ≤ 137438953472 by have := HI3.out.len; have := HM.out; have := HPL.out; have := HLEN.out; omega)
                clear hw g_u g_k q_u hB3
                have q_u := (cells_four HI3.out.tok).1.2.2.1
                have b_u3 := heap_lt HI3.out.tok
                have q_u2 : (w3.alloc (.cells #[.string (ofL kk), .string (ofL vv)] 104)).cell? ⟨w1.heap.size, 2, none⟩ = some u := by rw [World.cell?_alloc_past _ _ _ b_u3]; exact q_u
                have HRO := Lib.hid (show ReadsK encA 2 (w3.heap.size + 1) (w3.alloc (.cells #[.string (ofL kk), .string (ofL vv)] 104)).drew (.slice (some ⟨w3.heap.size, 0, none⟩) 1 1) [(ofL kk, ofL vv)] from readsA_one w3 _ _)
                have HMW := Lib.hid (show MineK encA 2 104 (w1.heap.size + 1) w3 (w3.alloc (.cells #[.string (ofL kk), .string (ofL vv)] 104)).drew u acc from ⟨HI3.out.own.1.alloc _, ((Below.refl _ w3).alloc (heap_lt HI3.out.tok) _).drew, by rw [show (w3.alloc (.cells #[.string (ofL kk), .string (ofL vv)] 104)).drew.heap.size = _ from size_alloc w3 _]; have := heap_lt HI3.out.tok; omega⟩)
                go_wp2_with fail
                go_region_law (refine step_appAt (by rfl) (.tmp 77) (.tmp 85) (by rfl) (w1.heap.size + 1) w3 u acc (by rfl) HMW.out ⟨w3.heap.size, 0, none⟩ (w3.heap.size + 1) (ofL kk, ofL vv) (by rfl) HRO.out HLA.out ?_; intro v4 w4 hm4; obtain ⟨a4, n4, c4, rfl⟩ := hm4.own.slice'; have ht4 := below_heap hm4.below (Nat.lt_succ_self _) HI3.out.tok; obtain ⟨⟨_, _, y2, _⟩, _, _, y3, _⟩ := cells_four ht4)
                all_goals
                  have HI4 := Lib.hid (HI3.out.next hm4 (by have := HB1.out.size; omega) (by have := HB1.out.size; omega) HSU.out)
                  clear ht4 y2 y3 hm4
                  go_wp2
                  go_roundw
                  case rel => exact ⟨j + 1, m + 1, _, _, by rw [HM.out], by omega, by go_num, HI4.out⟩
                  case measure => simp [intOf] <;> omega
        · have hq : ((L2 : Int) == 2) = false := beq_eq_false_iff_ne.2 (by omega)
          obtain ⟨⟨r0, r1, r2, r3⟩, z0, z1, z2, z3⟩ := cells_four HI2.out.res
          have HK := Lib.hid (heap_four HI2.out.res (.int .i64 0) (.string ⟨#[]⟩) (.slice none 0 0) (.string ⟨#[]⟩))
          have HBB := Lib.hid (below_four HI2.out.bel (Nat.le_refl _) (.int .i64 0) (.string ⟨#[]⟩) (.slice none 0 0) (.string ⟨#[]⟩))
          have HNO := Lib.hid (HI2.out.att.bad HP.out (attrB_len (fun e => hl2 (by rw [← HL2.out, splS, List.length_map]; exact e))) |> fun h => tag_open_none HS60.out HSL.out HSP.out h)
          go_wp2_with fail
          obtain ⟨⟨q0, q1, q2, q3⟩, _⟩ := cells_four HK.out
          refine bodyPost_ret (v := .tuple #[zTok, .bool false]) (by simp [results, Try.results64, go_sem, q0, q1, q2, q3]) rfl ?_
          exact tagOut_none HNO.out HBB.out
      · have hjn : j = N := by omega
        subst hjn
        obtain ⟨a0, c00, rfl⟩ := HI.out.own.slice
        have HAT := Lib.hid (HI.out.att.full (by have := HM.out; have := HPL.out; omega))
        obtain ⟨⟨t0, t1, t2, t3⟩, _⟩ := cells_four HI.out.tok
        have hz0 : (ofL n).size ≤ 9223372036854775807 := by have := HNSZ.out; omega
        cases hn : isNm (ofL n) with
        | false =>
          obtain ⟨⟨r0, r1, r2, r3⟩, z0, z1, z2, z3⟩ := cells_four HI.out.res
          have HK := Lib.hid (heap_four HI.out.res (.int .i64 0) (.string ⟨#[]⟩) (.slice none 0 0) (.string ⟨#[]⟩))
          have HBB := Lib.hid (below_four HI.out.bel (Nat.le_refl _) (.int .i64 0) (.string ⟨#[]⟩) (.slice none 0 0) (.string ⟨#[]⟩))
          have HNO := Lib.hid (tag_open_no HS60.out HSL.out HSP.out HAT.out (Or.inl hn))
          go_wp2_with fail
          refine (nm_spec (ofL n) hz0 _).mono ?_
          rintro e w' ⟨rfl, rfl⟩
          rw [hn]
          go_wp2_with fail
          obtain ⟨⟨q0, q1, q2, q3⟩, _⟩ := cells_four HK.out
          refine bodyPost_ret (v := .tuple #[zTok, .bool false]) (by simp [results, Try.results64, go_sem, q0, q1, q2, q3]) rfl ?_
          exact tagOut_none HNO.out HBB.out
        | true =>
          by_cases h4 : (4 : Int) < (acc.length : Int)
          ·
            obtain ⟨⟨r0, r1, r2, r3⟩, z0, z1, z2, z3⟩ := cells_four HI.out.res
            have HK := Lib.hid (heap_four HI.out.res (.int .i64 0) (.string ⟨#[]⟩) (.slice none 0 0) (.string ⟨#[]⟩))
            have HBB := Lib.hid (below_four HI.out.bel (Nat.le_refl _) (.int .i64 0) (.string ⟨#[]⟩) (.slice none 0 0) (.string ⟨#[]⟩))
            have HNO := Lib.hid (tag_open_no HS60.out HSL.out HSP.out HAT.out (Or.inr (by omega)))
            go_wp2_with fail
            refine (nm_spec (ofL n) hz0 _).mono ?_
            rintro e w' ⟨rfl, rfl⟩
            rw [hn]
            go_wp2_with fail
            obtain ⟨⟨q0, q1, q2, q3⟩, _⟩ := cells_four HK.out
            refine bodyPost_ret (v := .tuple #[zTok, .bool false]) (by simp [results, Try.results64, go_sem, q0, q1, q2, q3]) rfl ?_
            exact tagOut_none HNO.out HBB.out
          · obtain ⟨⟨r0, r1, r2, r3⟩, z0, z1, z2, z3⟩ := cells_four HI.out.res
            have HK := Lib.hid (heap_four HI.out.res (.int .i64 1) (.string (ofL n)) (.slice a0 acc.length c00) (.string ⟨#[]⟩))
            have HBB := Lib.hid (below_four HI.out.bel (Nat.le_refl _) (.int .i64 1) (.string (ofL n)) (.slice a0 acc.length c00) (.string ⟨#[]⟩))
            have HYES := Lib.hid (tag_open_yes HS60.out HSL.out HSP.out HAT.out hn (by omega))
            have HOW := Lib.hid (ownK_set4 (b := w.heap.size) (lo' := w.heap.size) HI.out.own (by have := HB1.out.size; omega) (by have := HB1.out.size; omega) (Nat.le_refl _) (.int .i64 1) (.string (ofL n)) (.slice a0 acc.length c00) (.string ⟨#[]⟩))
            go_wp2_with fail
            refine (nm_spec (ofL n) hz0 _).mono ?_
            rintro e w' ⟨rfl, rfl⟩
            rw [hn]
            go_wp2_with fail
            obtain ⟨⟨q0, q1, q2, q3⟩, _⟩ := cells_four HK.out
            refine bodyPost_ret (v := .tuple #[.agg #[.int .i64 1, .string (ofL n), .slice a0 acc.length c00, .string ⟨#[]⟩], .bool true]) (by simp [results, Try.results64, go_sem, q0, q1, q2, q3]) rfl ?_
            exact tagOut_some HYES.out HOW.out HBB.out rfl

theorem tagS_any (s : ByteArray) (hs : s.size ≤ 1099511627) (w : World) : Calls Try.prog 64 #[.string s] w (TagOut s w) := by
  by_cases h : 60 < s.size ∨ s.data.toList[0]? = some 47
  · exact tagS_short s hs w h
  · exact tagS_open s (by omega) w fun e => h (Or.inr e)

/- FeedS -/
open Go.ChangeShapes Go.WideShapes Go.ChangeAt Go.RowKit

set_option maxRecDepth 100000 in
set_option maxHeartbeats 4000000 in
theorem feedS_any (r s : ByteArray) (hs : r.size + s.size ≤ 536870912) (w : World) :
    Calls Try.prog 48 #[.agg #[.string r], .string s] w (FeedOut (r.data.toList ++ s.data.toList) w) := by
  obtain ⟨x, hx⟩ : ∃ x, r.data.toList ++ s.data.toList = x := ⟨_, rfl⟩
  have hrs : r ++ s = ofL x := bytesEq (by rw [append_list, hx]; rfl)
  have hxl : x.length = r.size + s.size := by rw [← hx, List.length_append, size_list, size_list]
  rw [hx]
  have W0b := Lib.hid (((Below.refl w.heap.size w).alloc (Nat.le_refl _) (.cells #[.string r] 86)).alloc (by rw [size_alloc]; omega) (.cells #[.string ⟨#[]⟩] 86))
  obtain ⟨W0, hW0⟩ : ∃ W, (w.alloc (.cells #[.string r] 86)).alloc (.cells #[.string ⟨#[]⟩] 86) = W := ⟨_, rfl⟩
  have hres : W0.heap[w.heap.size + 1]? = some (.cells #[.string ⟨#[]⟩] 86 (0, 0)) := by
    rw [← hW0]
    have h := heap_alloc_new (w.alloc (.cells #[.string r] 86)) (.cells #[.string ⟨#[]⟩] 86)
    rw [size_alloc] at h
    exact h
  have hsz0 : W0.heap.size = w.heap.size + 2 := by rw [← hW0, size_alloc, size_alloc]
  rw [hW0] at W0b
  have HRES := Lib.hid hres; have HSZ0 := Lib.hid hsz0; have HRS := Lib.hid hrs; have HXL := Lib.hid hxl; have HS := Lib.hid hs
  have HW0 := Lib.hid hW0
  have hcat : ¬ (9223372036854775807 < r.size + s.size) := by omega
  clear hres hsz0 hrs hxl hx hs hW0
  go_enter Try.func48, Try.ntmps48
  go_wp2_with fail
  rw [HW0.out, HRS.out]
  go_loopw [6, 7] (fun v t wr => ∃ (y : List UInt8) (ts : List Tv), t = .string (ofL y) ∧ MineT (w.heap.size + 2) W0 wr v ts ∧ feedB x = (ts.map Prod.fst ++ (feedB y).1, (feedB y).2) ∧ ts.length + y.length ≤ x.length)
    (fun _ t _ => match t with | .string b => b.size | _ => 0)
  case atStart => 
    have h0 := MineT.empty W0 W0 (w.heap.size + 2) (Below.refl _ _) (by rw [HSZ0.out]; exact Nat.le_refl _)
    rw [HSZ0.out] at h0
    exact ⟨x, [], rfl, h0, by simp, by simp⟩
  case round =>
    obtain ⟨y, ts, rfl, hM, hfd, hlen⟩ := hrel
    have HM := Lib.hid hM; have HFD := Lib.hid hfd; have HLN := Lib.hid hlen
    clear hM hfd hlen
    have hyl : (ofL y).size = y.length := ofL_size y
    have hy0 : (ofL y).size ≤ 536870912 := by have := HLN.out; have := HXL.out; have := HS.out; omega
    obtain ⟨k, hk⟩ : ∃ k, idxB 60 y = k := ⟨_, rfl⟩
    have hkle : k ≤ y.length := by rw [← hk]; exact idxB_le _ _
    have HIX := Lib.hid (fun W => (show idxB 60 (ofL y).data.toList = k from hk) ▸ ix_spec (ofL y) 60 (by omega) W)
    have HIX2 := Lib.hid (fun W => ix_spec (ofL y) 62 (by omega) W)
    have HK := Lib.hid hk; have HYL := Lib.hid hyl; have HY0 := Lib.hid hy0
    clear hk hyl hy0
    go_wp2_with fail
    refine (HIX.out _).mono ?_
    rintro e w' ⟨rfl, rfl⟩
    by_cases h1 : 0 < k ∧ k < y.length
    · obtain ⟨h1a, h1b⟩ := h1
      have hb1 : decide ((0 : Int) < (k : Int)) = true := decide_eq_true (by omega)
      have hb2 : (k : Int) < ((ofL y).size : Int) := by have := HYL.out; omega
      have c1 : (0 : Int) ≤ (k : Int) := by omega
      have c2 : (k : Int) ≤ ((ofL y).size : Int) := by have := HYL.out; omega
      have HT1 := Lib.hid (show (ofL y).extract 0 k = ofL (y.take k) from extract_pre _ _)
      have HT2 := Lib.hid (show (ofL y).extract k (ofL y).size = ofL (y.drop k) from extract_suf _ _)
      have HFT := Lib.hid (toks_more (p := (tokText (ofL (y.take k)), svNil)) HFD.out (by have := feed_text (x := y) (by rw [HK.out]; exact h1a) (by rw [HK.out]; exact h1b); rw [HK.out] at this; exact this))
      go_wp2_with (at_builtin; refine wpList_appT rfl _ _ rfl (w.heap.size + 2) W0 _ ts rfl (HM.out.alloc _) _ _ [(tokText (ofL (y.take k)), svNil)] rfl (readsT_one wr (tokText (ofL (y.take k)), svNil) rfl rfl rfl (HT1.out.symm)) ?ci ?cn ?cl ?_)
      case ci => intro p hp; rw [List.mem_singleton] at hp; subst hp; exact ownK_nil _ _ _ _ _ _
      case cn => have := HM.out.nod; simpa [insB, sv, svNil, Value.ownBlock] using this
      case cl => have := HLN.out; have := HXL.out; have := HS.out; simp; omega
      intro v2 w2 hm2
      have HM2 := Lib.hid hm2; clear hm2
      go_wp2
      rw [HT2.out]
      go_roundw
      case rel => exact ⟨y.drop k, _, rfl, HM2.out, HFT.out, by rw [List.length_append, List.length_drop]; have := HLN.out; simp; omega⟩
      case measure => simp only [ofL_size, List.length_drop]; omega
    · obtain ⟨e0, he⟩ : ∃ e0, idxB 62 (ofL y).data.toList = e0 := ⟨_, rfl⟩
      have hele : e0 ≤ y.length := by rw [← he]; exact idxB_le _ _
      have HE := Lib.hid he; clear he
      by_cases hk0 : (0 : Int) < (k : Int)
      · have hb2 : ¬ ((k : Int) < ((ofL y).size : Int)) := by have := HYL.out; omega
        have hkz : ((k : Int) == 0) = false := beq_eq_false_iff_ne.2 (by omega)
        have h1' := Lib.hid h1; clear h1
        go_wp2_with fail
        refine (HIX2.out _).mono ?_
        rintro e w' ⟨rfl, rfl⟩
        rw [HE.out]
        have HEND := Lib.hid (toks_end HFD.out (feed_end (x := y) (Or.inl (by rw [HK.out]; omega)) (by rw [HK.out]; exact h1'.out)))
        have hrb := below_heap HM.out.row.below (show w.heap.size + 1 < w.heap.size + 2 by omega) HRES.out
        obtain ⟨r0, z0⟩ := cells_one hrb
        have HKK := Lib.hid (heap_one1 (u := .string (ofL y)) hrb)
        have HOUT := Lib.hid ((HM.out.set (b := w.heap.size + 1) (o := 0) (u := .string (ofL y)) (by omega)).rebase (B' := w.heap.size) (w0' := w) (by omega) (show Below w.heap.size w (wr.setCell ⟨w.heap.size + 1, 0, none⟩ (.string (ofL y))) from (W0b.out.trans (HM.out.row.below.mono (by omega))).setCell (Nat.le_succ _) _))
        clear hrb
        go_wp2_with fail
        obtain ⟨q0, _⟩ := cells_one HKK.out
        refine bodyPost_ret (v := .tuple #[u6, .agg #[.string (ofL y)]]) (by simp [results, Try.results48, go_sem, q0]) rfl ?_
        exact ⟨_, ts, by rw [← HEND.out.2], HEND.out.1, HOUT.out⟩

      · obtain rfl : k = 0 := by omega
        have h1' := Lib.hid h1; clear h1
        by_cases hee : e0 = y.length
        · have hq : ((e0 : Int) == ((ofL y).size : Int)) = true := beq_iff_eq.2 (by have := HYL.out; omega)
          have HEE := Lib.hid hee; clear hee
          go_wp2_with fail
          refine (HIX2.out _).mono ?_
          rintro e w' ⟨rfl, rfl⟩
          rw [HE.out]
          have HEND := Lib.hid (toks_end HFD.out (feed_end (x := y) (Or.inr (by have := HE.out; rw [ofL_list] at this; rw [this]; exact HEE.out)) (by rw [HK.out]; exact h1'.out)))
          have hrb := below_heap HM.out.row.below (show w.heap.size + 1 < w.heap.size + 2 by omega) HRES.out
          obtain ⟨r0, z0⟩ := cells_one hrb
          have HKK := Lib.hid (heap_one1 (u := .string (ofL y)) hrb)
          have HOUT := Lib.hid ((HM.out.set (b := w.heap.size + 1) (o := 0) (u := .string (ofL y)) (by omega)).rebase (B' := w.heap.size) (w0' := w) (by omega) (show Below w.heap.size w (wr.setCell ⟨w.heap.size + 1, 0, none⟩ (.string (ofL y))) from (W0b.out.trans (HM.out.row.below.mono (by omega))).setCell (Nat.le_succ _) _))
          clear hrb
          go_wp2_with fail
          obtain ⟨q0, _⟩ := cells_one HKK.out
          refine bodyPost_ret (v := .tuple #[u6, .agg #[.string (ofL y)]]) (by simp [results, Try.results48, go_sem, q0]) rfl ?_
          exact ⟨_, ts, by rw [← HEND.out.2], HEND.out.1, HOUT.out⟩

        · have hq : ((e0 : Int) == ((ofL y).size : Int)) = false := beq_eq_false_iff_ne.2 (by have := HYL.out; omega)
          have he1 : 1 ≤ e0 := by have h9 := HE.out; rw [ofL_list] at h9; rw [← h9]; exact idx_tag HK.out (by rw [h9]; omega)
          have c1 : (1 : Int) ≤ (e0 : Int) := by omega
          have c2 : (e0 : Int) ≤ ((ofL y).size : Int) := by have := HYL.out; omega
          have c3 : (0 : Int) ≤ (e0 : Int) + 1 := by omega
          have c5 : (e0 : Int) + 1 ≤ 536870913 := by have := HYL.out; have := HY0.out; omega
          have c4 : (e0 : Int) + 1 ≤ ((ofL y).size : Int) := by have := HYL.out; omega
          have HT1 := Lib.hid (tag_inside y e0)
          have HT2 := Lib.hid (show (ofL y).extract (e0 + 1) (ofL y).size = ofL (y.drop (e0 + 1)) from extract_suf _ _)
          have HFG := Lib.hid (show feedB y = ((tagB ((y.take e0).drop 1)).toList ++ (feedB (y.drop (e0 + 1))).1, (feedB (y.drop (e0 + 1))).2) by
            have h9 := HE.out
            rw [ofL_list] at h9
            have := feed_tag (x := y) HK.out (by rw [h9]; omega)
            rw [h9] at this; exact this)
          have hz : (ofL ((y.take e0).drop 1)).size ≤ 1099511627 := by rw [ofL_size, List.length_drop, List.length_take]; have := HYL.out; have := HY0.out; omega
          go_wp2_with fail
          refine (HIX2.out _).mono ?_
          rintro e w' ⟨rfl, rfl⟩
          rw [HE.out]
          go_wp2_with fail
          rw [HT1.out]
          refine (tagS_any _ hz _).mono ?_
          intro e w1 hto
          rcases tagOut_cases hto with ⟨a, n, c, hno, rfl, hb1⟩ | ⟨t, a, n, c, hyes, rfl, ho1, hb1⟩
          · have HFT := Lib.hid (toks_none HFD.out (z := y.drop (e0 + 1)) (by rw [HFG.out]; rw [ofL_list] at hno; rw [hno]; rfl))
            have HM1 := Lib.hid (HM.out.later hb1)
            clear hno hb1 hto
            go_wp2
            rw [HT2.out]
            go_roundw
            case rel => exact ⟨y.drop (e0 + 1), ts, rfl, HM1.out.alloc _, HFT.out, by rw [List.length_drop]; have := HLN.out; omega⟩
            case measure => simp only [ofL_size, List.length_drop]; omega
          · have HFT := Lib.hid (toks_more (p := (t, (a, n, c))) HFD.out (z := y.drop (e0 + 1)) (by rw [HFG.out]; rw [ofL_list] at hyes; rw [hyes]; rfl))
            have HM1 := Lib.hid (HM.out.later hb1)
            have HND := Lib.hid (toks_nodup (p := (t, (a, n, c))) HM.out ho1)
            have HO1 := Lib.hid (ho1.mono (lo' := w.heap.size + 2) HM.out.row.size (Nat.le_refl _))
            clear hyes hb1 hto ho1
            obtain ⟨kd, hkd⟩ : ∃ x, t.kind = x := ⟨_, rfl⟩
            obtain ⟨nm, hnm⟩ : ∃ x, t.name = x := ⟨_, rfl⟩
            obtain ⟨tx, htx⟩ : ∃ x, t.text = x := ⟨_, rfl⟩
            rw [hkd, hnm, htx]
            have HKD := Lib.hid hkd; have HNM := Lib.hid hnm; have HTX := Lib.hid htx
            clear hkd hnm htx
            go_wp2_with (at_builtin; refine wpList_appT rfl _ _ rfl (w.heap.size + 2) W0 _ ts rfl ((HM1.out.alloc _).alloc _) _ _ [(t, (a, n, c))] rfl (readsT_at (w1.alloc _) (t, (a, n, c)) (w1.heap.size + 1) (size_alloc _ _) HKD.out HNM.out rfl HTX.out) ?ci HND.out ?cl ?_)
            case ci =>
              intro p hp
              rw [List.mem_singleton] at hp
              subst hp
              have hbb : Below w1.heap.size w1 ((w1.alloc (.cells #[.int .i64 kd, .string nm, .slice a n c, .string tx] 30)).alloc (.cells #[.int .i64 kd, .string nm, .slice a n c, .string tx] 30)) := ((Below.refl _ w1).alloc (Nat.le_refl _) _).alloc (by rw [size_alloc]; omega) _
              exact (HO1.out.later hbb).mono (Nat.le_refl _) hbb.size
            case cl => have := HLN.out; have := HXL.out; have := HS.out; simp; omega
            intro v2 w2 hm2
            have HM2 := Lib.hid hm2; clear hm2
            go_wp2
            rw [HT2.out]
            go_roundw
            case rel => exact ⟨y.drop (e0 + 1), _, rfl, HM2.out, HFT.out, by rw [List.length_append, List.length_drop]; have := HLN.out; simp; omega⟩
            case measure => simp only [ofL_size, List.length_drop]; omega

/- EndS -/
open Go.ChangeShapes Go.WideShapes Go.ChangeAt Go.RowKit

set_option maxRecDepth 100000 in
set_option maxHeartbeats 1000000 in
theorem end_spec (r : ByteArray) (w : World) : Calls Try.prog 49 #[.agg #[.string r]] w (ToksOut (endB r.data.toList) w) := by
  have HB := Lib.hid ((Below.refl w.heap.size w).alloc (Nat.le_refl _) (.cells #[.string r] 86))
  by_cases h0 : 0 < r.size
  · have hne : (r.toList == []) = false := by
      rw [ByteArray.toList_eq]
      refine beq_eq_false_iff_ne.2 fun e => ?_
      have := size_list r
      rw [e] at this; simp at this; omega
    have hnn : r.data.toList ≠ [] := fun e => by have := size_list r; rw [e] at this; simp at this; omega
    by_cases h6 : r[0] = 60
    · have hb : ((r[0].toNat : Int) == 60) = true := by rw [h6]; rfl
      have HE := Lib.hid (endB_tag (byte_eq h0 h6))
      clear h6
      go_enter Try.func49, Try.ntmps49
      go_wp2_with fail
      go_ret
      have hm := MineT.empty w (w.alloc (.cells #[.string r] 86)) w.heap.size HB.out (by rw [size_alloc]; omega)
      rw [size_alloc] at hm
      exact ⟨_, [], rfl, by rw [HE.out]; rfl, hm⟩
    · have hb : ((r[0].toNat : Int) == 60) = false := (u8_beq r[0] 60).trans (decide_eq_false h6)
      have HE := Lib.hid (endB_text hnn (byte_ne fun _ => h6))
      clear h6 hnn
      go_enter Try.func49, Try.ntmps49
      go_wp2_with fail
      go_ret
      have hm := mineT_lit (w0 := w) (w := w.alloc (.cells #[.string r] 86)) (tokText r, svNil) (w.heap.size + 1) (size_alloc _ _) (by rw [size_alloc]; omega) HB.out rfl rfl rfl rfl (ownK_nil _ _ _ _ _ _)
      exact ⟨_, [(tokText r, svNil)], rfl, by rw [HE.out, ofL_of]; rfl, hm⟩
  · obtain rfl : r = ⟨#[]⟩ := by
      have := size_list r
      refine bytesEq (List.eq_nil_of_length_eq_zero (by omega))
    go_enter Try.func49, Try.ntmps49
    go_wp2_with fail
    go_ret
    have hm := MineT.empty w (w.alloc (.cells #[.string ⟨#[]⟩] 86)) w.heap.size HB.out (by rw [size_alloc]; omega)
    rw [size_alloc] at hm
    exact ⟨_, [], rfl, by rw [endB_nil]; rfl, hm⟩

/- ToksS -/
open Go.ChangeShapes Go.WideShapes Go.ChangeAt Go.RowKit

set_option maxRecDepth 100000 in
set_option maxHeartbeats 2000000 in
theorem toks_spec (s : ByteArray) (hs : s.size ≤ 536870912) (w : World) : Calls Try.prog 23 #[.string s] w (ToksOut (tokensB s.data.toList) w) := by
  have HFD := Lib.hid (fun W => feedS_any ⟨#[]⟩ s (by show 0 + s.size ≤ _; omega) W)
  have HSZ := Lib.hid (feed_size s.data.toList)
  have HSL := Lib.hid (size_list s)
  have HS := Lib.hid hs; clear hs
  go_enter Try.func23, Try.ntmps23
  go_wp2_with fail
  refine (HFD.out _).mono ?_
  rintro e w1 ⟨v1, ts1, rfl, hts1, hM1⟩
  rw [show (⟨#[]⟩ : ByteArray).data.toList ++ s.data.toList = s.data.toList from rfl] at hts1 ⊢
  obtain ⟨R, hR⟩ : ∃ R, ofL (feedB s.data.toList).2 = R := ⟨_, rfl⟩
  rw [hR]
  have HR := Lib.hid (show R.data.toList = (feedB s.data.toList).2 by rw [← hR]; rfl)
  have HM1 := Lib.hid hM1; have HT1 := Lib.hid hts1
  clear hM1 hts1 hR
  go_wp2_with fail
  refine (end_spec R _).mono ?_
  rintro e w2 ⟨v2, ts2, rfl, hts2, hM2⟩
  rw [HR.out] at hts2
  have HM2 := Lib.hid hM2; have HT2 := Lib.hid hts2
  have HB2 := Lib.hid (show Below w1.heap.size w1 w2 from ((Below.refl _ w1).alloc (Nat.le_refl _) _).trans (hM2.row.below.mono (by rw [size_alloc]; omega)))
  have HM3 := Lib.hid (HM1.out.later HB2.out)
  have HL := Lib.hid (show ts1.length + ts2.length ≤ 536870914 by
    have h1 := congrArg List.length HT1.out
    have h2 := congrArg List.length HT2.out
    rw [List.length_map] at h1 h2
    have h3 := HSZ.out.1
    have h4 : (endB (feedB s.data.toList).2).length ≤ 1 := by unfold endB; split <;> simp
    have := HSL.out; have := HS.out
    omega)
  have HND := Lib.hid (show (insB ts1 ++ insB ts2).Nodup from List.nodup_append.2 ⟨HM1.out.nod, HM2.out.nod, fun a ha b hb e => by
    have h1 := (HM1.out.lt a ha).2
    have h2 := (HM2.out.lt b hb).1
    rw [size_alloc] at h2
    omega⟩)
  have HSB := Lib.hid (show w.heap.size ≤ w1.heap.size + 1 by have := HM1.out.row.size; omega)
  clear hM2 hts2
  go_wp2_with (at_builtin; refine wpList_appT rfl _ _ rfl w.heap.size w _ ts1 rfl HM3.out _ _ ts2 rfl (readsT_of HM2.out (Nat.le_refl _)) ?ci HND.out ?cl ?_)
  case ci => intro p hp; exact (HM2.out.inn p hp).mono (by rw [size_alloc]; exact HSB.out) (Nat.le_refl _)
  case cl => have := HL.out; omega
  intro v3 w3 hm3
  have HM4 := Lib.hid hm3; clear hm3
  go_wp2_with fail
  go_ret
  exact ⟨_, ts1 ++ ts2, rfl, by rw [List.map_append, HT1.out, HT2.out]; rfl, HM4.out⟩

/- TreesE -/
open Go.ChangeShapes Go.WideShapes Go.ChangeAt Go.RowKit

theorem toksS_all : ToksS := fun s hs W => toks_spec s hs W
theorem any_drawn6 : AnyS := fun b sv len w hc => any_any (fun b' sv' len' w' hc' => builder_any (fun s hs W => toks_spec s hs W) b' sv' len' w' hc') b sv len w hc
theorem trees_end (a : Option Addr) (len cap : Nat) (zs : List Int) (w : World) (h : IsRow .u8 w a len cap zs) :
    Calls Try.prog 3 #[.slice a len cap] w fun e w' => e = .returned (.bool true) ∧ Below w.heap.size w w' := trees_all any_drawn6 toksS_all a len cap zs w h
end Go.Proofs.Ytiginllbfjekeaa
