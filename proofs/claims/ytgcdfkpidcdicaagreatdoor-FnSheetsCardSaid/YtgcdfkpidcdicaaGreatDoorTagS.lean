/- Helper contract: the model's TagOf. Asked: the string is shorter than 2^40 bytes. -/
import Derived.Test.YtgcdfkpidcdicaaGreatDoorTagP
import Derived.Shelf.SlSortCmp.QuietGrown
namespace Go.Proofs.YtgcdfkpidcdicaaGreatDoor
open Go.ChangeShapes Go.WideShapes Go.ChangeAt Go.RowKit

set_option maxRecDepth 100000 in
set_option maxHeartbeats 2000000 in
theorem tagS_short (s : ByteArray) (hs : s.size ≤ 1099511627) (w : World) (hc : 60 < s.size ∨ s.data.toList[0]? = some 47) :
    Calls Tryz.prog 240 #[.string s] w (TagOut s w) := by
  have HB := Lib.hid ((Below.refl w.heap.size w).alloc (Nat.le_refl _) (.cells #[.int .i64 0, .string ⟨#[]⟩, .slice none 0 0, .string ⟨#[]⟩] 176))
  by_cases hlong : (60 : Int) < (s.size : Int)
  · have HN := Lib.hid (tag_long (s := s) (by omega))
    go_enter Tryz.func240, Tryz.ntmps240
    go_wp2_with fail
    refine bodyPost_ret (v := .tuple #[zTok, .bool false]) (by simp [results, Tryz.results240, go_sem]) rfl ?_
    exact tagOut_none HN.out HB.out
  · have hsl : s.data.toList[0]? = some 47 := by
      rcases hc with hc | hc
      · omega
      · exact hc
    obtain ⟨r, hr⟩ := first_slash hsl
    have h0 : 0 < s.size := by rw [← size_list, hr]; simp
    have hpos : decide ((0 : Int) < (s.size : Int)) = true := decide_eq_true (by omega)
    have hb47 : s[0] = 47 := by rw [get_at h0] at hsl; exact Option.some.inj hsl
    have hb : ((s[0].toNat : Int) == 47) = true := by rw [hb47]; rfl
    have hx : s.extract 1 s.size = ofL r := by rw [extract_suf, hr]; rfl
    have hrs : (ofL r).size ≤ 9223372036854775807 := by
      have h9 : (47 :: r).length = s.size := by rw [← hr, size_list]
      rw [ofL_size]; rw [List.length_cons] at h9; omega
    have HX := Lib.hid hx; have HR := Lib.hid hr
    clear hx hr hsl hb47
    cases hn : isNm (ofL r) with
    | true =>
      have HT := Lib.hid (tag_close_yes (s := s) (by omega) HR.out hn)
      go_enter Tryz.func240, Tryz.ntmps240
      go_wp2_with fail
      rw [HX.out]
      refine (nm_spec (ofL r) hrs _).mono ?_
      rintro e w' ⟨rfl, rfl⟩
      go_wp2_with fail
      refine bodyPost_ret (v := .tuple #[.agg #[.int .i64 2, .string (ofL r), .slice none 0 0, .string ⟨#[]⟩], .bool true]) (by simp [results, Tryz.results240, go_sem, HX.out]) rfl ?_
      exact tagOut_some HT.out (ownK_nil _ _ _ _ _ _) ((Below.refl _ w).alloc (Nat.le_refl _) _) rfl
    | false =>
      have HT := Lib.hid (tag_close_no (s := s) (by omega) HR.out hn)
      go_enter Tryz.func240, Tryz.ntmps240
      go_wp2_with fail
      rw [HX.out]
      refine (nm_spec (ofL r) hrs _).mono ?_
      rintro e w' ⟨rfl, rfl⟩
      go_wp2_with fail
      refine bodyPost_ret (v := .tuple #[zTok, .bool false]) (by simp [results, Tryz.results240, go_sem]) rfl ?_
      exact tagOut_none HT.out HB.out

/-- What the loop over the attributes keeps. -/
structure TagInv (w : World) (rb tb : Nat) (v1 : Value) (xs : List ByteArray) (nm : ByteArray) (ps : List (List UInt8)) (k : Nat) (acc : List At) (u : Value) (wr : World) : Prop where
  res : wr.heap[rb]? = some (.cells #[.int .i64 0, .string ⟨#[]⟩, .slice none 0 0, .string ⟨#[]⟩] 176 (0, 0))
  tok : wr.heap[tb]? = some (.cells #[.int .i64 1, .string nm, u, .string ⟨#[]⟩] 176 (0, 0))
  own : OwnK encA 2 187 (tb + 1) wr.heap.size wr u acc
  str : OwnK encS 1 9 (rb + 1) tb wr v1 xs
  bel : Below w.heap.size w wr
  att : attTo ps k acc
  len : acc.length = k
/-- The model's memory goes on, nothing old written. -/
theorem TagInv.later {w wr wx : World} {rb tb k : Nat} {v1 u : Value} {xs : List ByteArray} {nm : ByteArray} {ps : List (List UInt8)} {acc : List At} (h : TagInv w rb tb v1 xs nm ps k acc u wr) (hb : Below wr.heap.size wr wx) : TagInv w rb tb v1 xs nm ps k acc u wx :=
  ⟨below_heap hb (heap_lt h.res) h.res, below_heap hb (heap_lt h.tok) h.tok, (h.own.later hb).mono (Nat.le_refl _) hb.size, h.str.later hb, h.bel.trans (hb.mono h.bel.size), h.att, h.len⟩

theorem TagInv.next {w w3 w4 : World} {rb tb m : Nat} {v1 u v4 : Value} {xs : List ByteArray} {nm : ByteArray} {ps : List (List UInt8)} {acc : List At} {a : At} (h : TagInv w rb tb v1 xs nm ps m acc u w3) (h4 : MineK encA 2 187 (tb + 1) w3 w4 v4 (acc ++ [a])) (hrb : rb < tb) (hw : w.heap.size ≤ tb) (hat : attTo ps (m + 1) (acc ++ [a])) :
    TagInv w rb tb v1 xs nm ps (m + 1) (acc ++ [a]) v4 (w4.setCell ⟨tb, 2, none⟩ v4) := by
  have hs : Below tb w4 (w4.setCell ⟨tb, 2, none⟩ v4) := (Below.refl tb w4).setCell (Nat.le_refl _) _
  have ht := below_heap h4.below (Nat.lt_succ_self _) h.tok
  refine ⟨below_heap hs hrb (below_heap h4.below (by omega) h.res), ?_, ?_, ?_, ?_, hat, by rw [List.length_append, h.len]; rfl⟩
  · have := heap_one (o := 2) ht v4
    exact this
  · exact (ownK_set h4.own (Nat.lt_succ_self _)).mono (Nat.le_refl _) (size_set _ _ _)
  · exact ownK_below (ownK_below h.str h4.below (Nat.le_succ _)) hs (Nat.le_refl _)
  · exact (h.bel.trans (h4.below.mono (by omega))).trans (hs.mono hw)

set_option maxRecDepth 100000 in
set_option maxHeartbeats 8000000 in
theorem tagS_open (s : ByteArray) (hs : s.size ≤ 60) (w : World) (hsl : s.data.toList[0]? ≠ some 47) :
    Calls Tryz.prog 240 #[.string s] w (TagOut s w) := by
  have mixed : Tryz.prog.follows .mixedOrders = true := by kernel_rfl
  obtain ⟨n, ps, hsp⟩ : ∃ n ps, splitB 32 s.data.toList = n :: ps := by
    cases h : splitB 32 s.data.toList with
    | nil => exact absurd h (splitB_ne _ _)
    | cons n ps => exact ⟨n, ps, rfl⟩
  have hxs : splS 32 s.data.toList = ofL n :: ps.map ofL := by unfold splS; rw [hsp]; rfl
  obtain ⟨N, hN⟩ : ∃ N, (ofL n :: ps.map ofL).length = N := ⟨_, rfl⟩
  have hpl : N = ps.length + 1 := by rw [← hN]; simp
  have hlen : ps.length ≤ 60 := by have := splS_len 32 s.data.toList; rw [hxs, hN, size_list] at this; omega
  have hsz : ∀ p ∈ n :: ps, (ofL p).size ≤ 60 := fun p hp => by have := splitB_piece (hsp ▸ hp); rw [size_list] at this; rw [ofL_size]; omega
  have hnsz : (ofL n).size ≤ 60 := hsz n List.mem_cons_self
  have hg : ¬ ((0 : Int) < (s.size : Int)) ∨ ∃ h0 : 0 < s.size, ((s[0].toNat : Int) == 47) = false ∧ decide ((0 : Int) < (s.size : Int)) = true := by
    by_cases h0 : 0 < s.size
    · refine Or.inr ⟨h0, ?_, decide_eq_true (by omega)⟩
      have h1 : s[0] ≠ 47 := fun e => hsl (by rw [get_at h0, e])
      exact (u8_beq s[0] 47).trans (decide_eq_false h1)
    · exact Or.inl (by omega)
  have HSL := Lib.hid hsl; have HSP := Lib.hid hsp; have HXS := Lib.hid hxs; have HPL := Lib.hid hpl; have HLEN := Lib.hid hlen; have HSZ := Lib.hid hsz; have HNN := Lib.hid hN; have HNSZ := Lib.hid hnsz; have HS60 := Lib.hid hs
  have h60 : ¬ ((60 : Int) < (s.size : Int)) := by omega
  clear hsl hsp hxs hpl hlen hsz hnsz hs hN
  rcases hg with hg | ⟨h0, hg1, hg2⟩
  all_goals
    go_enter Tryz.func240, Tryz.ntmps240
    go_wp2_with fail
    refine (spl_spec s 32 (by have := HS60.out; omega) _).mono ?_
    rintro e w1 ⟨v1, rfl, ho1, hb1⟩
    rw [HXS.out, size_alloc] at ho1
    rw [size_alloc] at hb1
    obtain ⟨g1, cap1, rfl, hg1a, hg1b, hg1c, hcap, hcap2, hcells⟩ := ho1.strAt (by simp)
    rw [HNN.out] at ho1 hcap ⊢
    have HCELL := Lib.hid hcells; have HO1 := Lib.hid ho1
    have c0 : w1.cell? ⟨g1, 0, none⟩ = some (.string (ofL n)) := hcells 0 _ rfl
    have hN0 : (0 : Int) < (N : Int) := by have := HPL.out; omega
    have HB1 := Lib.hid hb1
    clear hcells ho1 hb1
    go_wp2_with fail
    go_loopw [6] (fun i wr => ∃ (j m : Nat) (acc : List At) (u : Value), m + 1 = j ∧ j ≤ N ∧ i = .int .i64 j ∧ TagInv w w.heap.size w1.heap.size (.slice (some ⟨g1, 0, none⟩) N cap1) (ofL n :: ps.map ofL) (ofL n) ps m acc u wr) (fun i _ => N - (intOf i).toNat)
    case atStart =>
      refine ⟨1, 0, [], .slice none 0 0, rfl, by have := HPL.out; omega, rfl, ?_, ?_, ownK_nil _ _ _ _ _ _, ?_, ?_, attTo.zero _, rfl⟩
      · rw [Below.heap_alloc _ _ _ (by have := HB1.out.size; omega), HB1.out.block _ (by omega)]; exact heap_alloc_new w _
      · exact heap_alloc_new w1 _
      · exact HO1.out.later ((Below.refl _ w1).alloc (Nat.le_refl _) _)
      · exact (((Below.refl _ w).alloc (Nat.le_refl _) _).trans (HB1.out.mono (Nat.le_succ _))).alloc (by have := HB1.out.size; omega) _
    case round =>
      obtain ⟨j, m, acc, u, hm, hj, rfl, hinv⟩ := hrel
      have HM := Lib.hid hm; have HI := Lib.hid hinv
      clear hm hinv
      by_cases hlt : (j : Int) < (N : Int)
      · obtain ⟨p, hp⟩ : ∃ p, ps[m]? = some p := ⟨_, List.getElem?_eq_getElem (by have := HM.out; have := HPL.out; omega)⟩
        have hxj : (ofL n :: ps.map ofL)[j]? = some (ofL p) := by rw [← HM.out, List.getElem?_cons_succ, List.getElem?_map, hp]; rfl
        have hps : (ofL p).size ≤ 60 := HSZ.out p (List.mem_cons_of_mem _ (List.mem_of_getElem? hp))
        have cp : wr.cell? ⟨g1, j, none⟩ = some (.string (ofL p)) := HI.out.str.strCell hxj
        obtain ⟨L2, hL2⟩ : ∃ l, (splS 61 (ofL p).data.toList).length = l := ⟨_, rfl⟩
        have hL0 : 0 < L2 := by rw [← hL2]; exact splS_pos _ _
        have HP := Lib.hid hp; have HPS := Lib.hid hps; have HL2 := Lib.hid hL2
        clear hxj hp hL2
        go_wp2_with fail
        refine (spl_spec (ofL p) 61 (by have := HPS.out; omega) _).mono ?_
        rintro e w2 ⟨v2, rfl, ho2, hb2⟩
        have HI2 := Lib.hid (HI.out.later hb2)
        obtain ⟨g2, cap2, rfl, hg2a, hg2b, hg2c, hca, hcb, hcells2⟩ := ho2.strAt (splS_pos _ _)
        rw [HL2.out] at hca ⊢
        have HC2 := Lib.hid hcells2
        clear ho2 hb2 hcells2 cp
        by_cases hl2 : L2 = 2
        · subst hl2
          obtain ⟨kk, vv, hkv, hkv2⟩ := split_two HL2.out
          have hkm : kk.length ≤ 60 ∧ vv.length ≤ 60 := by
            have h1 := splitB_piece (p := kk) (by rw [hkv]; simp : kk ∈ splitB 61 (ofL p).data.toList)
            have h2 := splitB_piece (p := vv) (by rw [hkv]; simp : vv ∈ splitB 61 (ofL p).data.toList)
            have h3 := HPS.out
            rw [ofL_size] at h3
            exact ⟨Nat.le_trans h1 h3, Nat.le_trans h2 h3⟩
          have hz1 : (ofL kk).size ≤ 9223372036854775807 := by rw [ofL_size]; omega
          have hz2 : (ofL vv).size ≤ 9223372036854775807 := by rw [ofL_size]; omega
          have ck : w2.cell? ⟨g2, 0, none⟩ = some (.string (ofL kk)) := HC2.out 0 _ (by rw [hkv2]; rfl)
          have cv : w2.cell? ⟨g2, 1, none⟩ = some (.string (ofL vv)) := HC2.out 1 _ (by rw [hkv2]; rfl)
          have HKV := Lib.hid (show splitB 61 p = [kk, vv] from hkv); have HZ1 := Lib.hid hz1; have HZ2 := Lib.hid hz2
          clear hkv hkv2 hkm hz1 hz2
          cases hk : isNm (ofL kk) with
          | false =>
            obtain ⟨⟨r0, r1, r2, r3⟩, z0, z1, z2, z3⟩ := cells_four HI2.out.res
            have HK := Lib.hid (heap_four HI2.out.res (.int .i64 0) (.string ⟨#[]⟩) (.slice none 0 0) (.string ⟨#[]⟩))
            have HBB := Lib.hid (below_four HI2.out.bel (Nat.le_refl _) (.int .i64 0) (.string ⟨#[]⟩) (.slice none 0 0) (.string ⟨#[]⟩))
            have HNO := Lib.hid (tag_open_none HS60.out HSL.out HSP.out (HI2.out.att.bad HP.out (attrB_no HKV.out (Or.inl hk))))
            go_wp2_with fail
            refine (nm_spec (ofL kk) HZ1.out _).mono ?_
            rintro e w' ⟨rfl, rfl⟩
            rw [hk]
            go_wp2_with fail
            obtain ⟨⟨q0, q1, q2, q3⟩, _⟩ := cells_four HK.out
            refine bodyPost_ret (v := .tuple #[zTok, .bool false]) (by simp [results, Tryz.results240, go_sem, q0, q1, q2, q3]) rfl ?_
            exact tagOut_none HNO.out HBB.out
          | true =>
            cases hv : isVal (ofL vv) with
            | false =>
              obtain ⟨⟨r0, r1, r2, r3⟩, z0, z1, z2, z3⟩ := cells_four HI2.out.res
              have HK := Lib.hid (heap_four HI2.out.res (.int .i64 0) (.string ⟨#[]⟩) (.slice none 0 0) (.string ⟨#[]⟩))
              have HBB := Lib.hid (below_four HI2.out.bel (Nat.le_refl _) (.int .i64 0) (.string ⟨#[]⟩) (.slice none 0 0) (.string ⟨#[]⟩))
              have HNO := Lib.hid (tag_open_none HS60.out HSL.out HSP.out (HI2.out.att.bad HP.out (attrB_no HKV.out (Or.inr hv))))
              go_wp2_with fail
              refine (nm_spec (ofL kk) HZ1.out _).mono ?_
              rintro e w' ⟨rfl, rfl⟩
              rw [hk]
              go_wp2_with fail
              refine (val_spec (ofL vv) HZ2.out _).mono ?_
              rintro e w' ⟨rfl, rfl⟩
              rw [hv]
              go_wp2_with fail
              obtain ⟨⟨q0, q1, q2, q3⟩, _⟩ := cells_four HK.out
              refine bodyPost_ret (v := .tuple #[zTok, .bool false]) (by simp [results, Tryz.results240, go_sem, q0, q1, q2, q3]) rfl ?_
              exact tagOut_none HNO.out HBB.out
            | true =>
              have HA := Lib.hid (attrB_yes HKV.out hk hv)
              have HRD := Lib.hid (fun (n : Nat) (os : Array Obj) => readsK_grown (HI2.out.own.reads encA_len) (Nat.le_refl _) n os)
              have q_u := (cells_four HI2.out.tok).1.2.2.1
              have b_u : w1.heap.size < w2.heap.size := heap_lt HI2.out.tok
              cases hf : findA acc (ofL kk) with
              | some fv =>
                have HFS := Lib.hid (fun (W : World) (hr : ReadsK encA 2 w2.heap.size W u acc) (hh : w2.heap.size ≤ W.heap.size) => findV_some hf ▸ find_spec u w2.heap.size acc (ofL kk) W hr hh)
                go_wp2_with fail
                refine (nm_spec (ofL kk) HZ1.out _).mono ?_
                rintro e w' ⟨rfl, rfl⟩
                rw [hk]
                go_wp2_with fail
                refine (val_spec (ofL vv) HZ2.out _).mono ?_
                rintro e w' ⟨rfl, rfl⟩
                rw [hv]
                go_wp2_with fail
                have g_u := cell_grown (w := w2) (a := ⟨w1.heap.size, 2, none⟩) b_u q_u
                have g_k := cell_grown (w := w2) (a := ⟨g2, 0, none⟩) hg2c ck
                go_quiet_grown (first | (go_at_call 259; refine Calls.grown_of (HFS.out _ (HRD.out _ _) (size_grown (Nat.le_refl _) _ _))))
                obtain ⟨w3, hw⟩ : ∃ x, Sort.grow (w2.drewN nq) osq = x := ⟨_, rfl⟩
                rw [hw]
                have HI3 := Lib.hid (HI2.out.later (wx := w3) (by rw [← hw]; exact grow_below _ _ _))
                clear hw g_u g_k ck cv q_u
                obtain ⟨⟨r0, r1, r2, r3⟩, z0, z1, z2, z3⟩ := cells_four HI3.out.res
                have HK := Lib.hid (heap_four HI3.out.res (.int .i64 0) (.string ⟨#[]⟩) (.slice none 0 0) (.string ⟨#[]⟩))
                have HBB := Lib.hid (below_four HI3.out.bel (Nat.le_refl _) (.int .i64 0) (.string ⟨#[]⟩) (.slice none 0 0) (.string ⟨#[]⟩))
                have HNO := Lib.hid (tag_open_none HS60.out HSL.out HSP.out (HI3.out.att.twice HP.out HA.out hf))
                go_wp2_with fail
                obtain ⟨⟨q0, q1, q2, q3⟩, _⟩ := cells_four HK.out
                refine bodyPost_ret (v := .tuple #[zTok, .bool false]) (by simp [results, Tryz.results240, go_sem, q0, q1, q2, q3]) rfl ?_
                exact tagOut_none HNO.out HBB.out
              | none =>
                have HFS := Lib.hid (fun (W : World) (hr : ReadsK encA 2 w2.heap.size W u acc) (hh : w2.heap.size ≤ W.heap.size) => findV_none hf ▸ find_spec u w2.heap.size acc (ofL kk) W hr hh)
                go_wp2_with fail
                refine (nm_spec (ofL kk) HZ1.out _).mono ?_
                rintro e w' ⟨rfl, rfl⟩
                rw [hk]
                go_wp2_with fail
                refine (val_spec (ofL vv) HZ2.out _).mono ?_
                rintro e w' ⟨rfl, rfl⟩
                rw [hv]
                go_wp2_with fail
                have g_u := cell_grown (w := w2) (a := ⟨w1.heap.size, 2, none⟩) b_u q_u
                have g_k := cell_grown (w := w2) (a := ⟨g2, 0, none⟩) hg2c ck
                go_quiet_grown (first | (go_at_call 259; refine Calls.grown_of (HFS.out _ (HRD.out _ _) (size_grown (Nat.le_refl _) _ _))))
                obtain ⟨w3, hw⟩ : ∃ x, Sort.grow (w2.drewN nq) osq = x := ⟨_, rfl⟩
                rw [hw]
                have hB3 : Below w2.heap.size w2 w3 := by rw [← hw]; exact grow_below _ _ _
                have HI3 := Lib.hid (HI2.out.later hB3)
                replace ck := (hB3.cell hg2c).trans ck
                replace cv := (hB3.cell hg2c).trans cv
                have HSU := Lib.hid (HI3.out.att.succ HP.out HA.out hf)
                have HLA := Lib.hid (show acc.length + 1 ≤ 137438953472 by have := HI3.out.len; have := HM.out; have := HPL.out; have := HLEN.out; omega)
                clear hw g_u g_k q_u hB3
                have q_u := (cells_four HI3.out.tok).1.2.2.1
                have b_u3 := heap_lt HI3.out.tok
                have q_u2 : (w3.alloc (.cells #[.string (ofL kk), .string (ofL vv)] 187)).cell? ⟨w1.heap.size, 2, none⟩ = some u := by rw [World.cell?_alloc_past _ _ _ b_u3]; exact q_u
                have HRO := Lib.hid (show ReadsK encA 2 (w3.heap.size + 1) (w3.alloc (.cells #[.string (ofL kk), .string (ofL vv)] 187)).drew (.slice (some ⟨w3.heap.size, 0, none⟩) 1 1) [(ofL kk, ofL vv)] from readsA_one w3 _ _)
                have HMW := Lib.hid (show MineK encA 2 187 (w1.heap.size + 1) w3 (w3.alloc (.cells #[.string (ofL kk), .string (ofL vv)] 187)).drew u acc from ⟨HI3.out.own.1.alloc _, ((Below.refl _ w3).alloc (heap_lt HI3.out.tok) _).drew, by rw [show (w3.alloc (.cells #[.string (ofL kk), .string (ofL vv)] 187)).drew.heap.size = _ from size_alloc w3 _]; have := heap_lt HI3.out.tok; omega⟩)
                go_wp2_with fail
                go_region_law (refine step_appAt (by rfl) (.tmp 77) (.tmp 85) (by rfl) (w1.heap.size + 1) w3 u acc (by rfl) HMW.out ⟨w3.heap.size, 0, none⟩ (w3.heap.size + 1) (ofL kk, ofL vv) (by rfl) HRO.out HLA.out ?_; intro v4 w4 hm4; obtain ⟨a4, n4, c4, rfl⟩ := hm4.own.slice'; have ht4 := below_heap hm4.below (Nat.lt_succ_self _) HI3.out.tok; obtain ⟨⟨_, _, y2, _⟩, _, _, y3, _⟩ := cells_four ht4)
                all_goals
                  have HI4 := Lib.hid (HI3.out.next hm4 (by have := HB1.out.size; omega) (by have := HB1.out.size; omega) HSU.out)
                  clear ht4 y2 y3 hm4
                  go_wp2
                  go_roundw
                  case rel => exact ⟨j + 1, m + 1, _, _, by rw [HM.out], by omega, by go_num, HI4.out⟩
                  case measure => simp [intOf] <;> omega
        · have hq : ((L2 : Int) == 2) = false := beq_eq_false_iff_ne.2 (by omega)
          obtain ⟨⟨r0, r1, r2, r3⟩, z0, z1, z2, z3⟩ := cells_four HI2.out.res
          have HK := Lib.hid (heap_four HI2.out.res (.int .i64 0) (.string ⟨#[]⟩) (.slice none 0 0) (.string ⟨#[]⟩))
          have HBB := Lib.hid (below_four HI2.out.bel (Nat.le_refl _) (.int .i64 0) (.string ⟨#[]⟩) (.slice none 0 0) (.string ⟨#[]⟩))
          have HNO := Lib.hid (HI2.out.att.bad HP.out (attrB_len (fun e => hl2 (by rw [← HL2.out, splS, List.length_map]; exact e))) |> fun h => tag_open_none HS60.out HSL.out HSP.out h)
          go_wp2_with fail
          obtain ⟨⟨q0, q1, q2, q3⟩, _⟩ := cells_four HK.out
          refine bodyPost_ret (v := .tuple #[zTok, .bool false]) (by simp [results, Tryz.results240, go_sem, q0, q1, q2, q3]) rfl ?_
          exact tagOut_none HNO.out HBB.out
      · have hjn : j = N := by omega
        subst hjn
        obtain ⟨a0, c00, rfl⟩ := HI.out.own.slice
        have HAT := Lib.hid (HI.out.att.full (by have := HM.out; have := HPL.out; omega))
        obtain ⟨⟨t0, t1, t2, t3⟩, _⟩ := cells_four HI.out.tok
        have hz0 : (ofL n).size ≤ 9223372036854775807 := by have := HNSZ.out; omega
        cases hn : isNm (ofL n) with
        | false =>
          obtain ⟨⟨r0, r1, r2, r3⟩, z0, z1, z2, z3⟩ := cells_four HI.out.res
          have HK := Lib.hid (heap_four HI.out.res (.int .i64 0) (.string ⟨#[]⟩) (.slice none 0 0) (.string ⟨#[]⟩))
          have HBB := Lib.hid (below_four HI.out.bel (Nat.le_refl _) (.int .i64 0) (.string ⟨#[]⟩) (.slice none 0 0) (.string ⟨#[]⟩))
          have HNO := Lib.hid (tag_open_no HS60.out HSL.out HSP.out HAT.out (Or.inl hn))
          go_wp2_with fail
          refine (nm_spec (ofL n) hz0 _).mono ?_
          rintro e w' ⟨rfl, rfl⟩
          rw [hn]
          go_wp2_with fail
          obtain ⟨⟨q0, q1, q2, q3⟩, _⟩ := cells_four HK.out
          refine bodyPost_ret (v := .tuple #[zTok, .bool false]) (by simp [results, Tryz.results240, go_sem, q0, q1, q2, q3]) rfl ?_
          exact tagOut_none HNO.out HBB.out
        | true =>
          by_cases h4 : (4 : Int) < (acc.length : Int)
          ·
            obtain ⟨⟨r0, r1, r2, r3⟩, z0, z1, z2, z3⟩ := cells_four HI.out.res
            have HK := Lib.hid (heap_four HI.out.res (.int .i64 0) (.string ⟨#[]⟩) (.slice none 0 0) (.string ⟨#[]⟩))
            have HBB := Lib.hid (below_four HI.out.bel (Nat.le_refl _) (.int .i64 0) (.string ⟨#[]⟩) (.slice none 0 0) (.string ⟨#[]⟩))
            have HNO := Lib.hid (tag_open_no HS60.out HSL.out HSP.out HAT.out (Or.inr (by omega)))
            go_wp2_with fail
            refine (nm_spec (ofL n) hz0 _).mono ?_
            rintro e w' ⟨rfl, rfl⟩
            rw [hn]
            go_wp2_with fail
            obtain ⟨⟨q0, q1, q2, q3⟩, _⟩ := cells_four HK.out
            refine bodyPost_ret (v := .tuple #[zTok, .bool false]) (by simp [results, Tryz.results240, go_sem, q0, q1, q2, q3]) rfl ?_
            exact tagOut_none HNO.out HBB.out
          · obtain ⟨⟨r0, r1, r2, r3⟩, z0, z1, z2, z3⟩ := cells_four HI.out.res
            have HK := Lib.hid (heap_four HI.out.res (.int .i64 1) (.string (ofL n)) (.slice a0 acc.length c00) (.string ⟨#[]⟩))
            have HBB := Lib.hid (below_four HI.out.bel (Nat.le_refl _) (.int .i64 1) (.string (ofL n)) (.slice a0 acc.length c00) (.string ⟨#[]⟩))
            have HYES := Lib.hid (tag_open_yes HS60.out HSL.out HSP.out HAT.out hn (by omega))
            have HOW := Lib.hid (ownK_set4 (b := w.heap.size) (lo' := w.heap.size) HI.out.own (by have := HB1.out.size; omega) (by have := HB1.out.size; omega) (Nat.le_refl _) (.int .i64 1) (.string (ofL n)) (.slice a0 acc.length c00) (.string ⟨#[]⟩))
            go_wp2_with fail
            refine (nm_spec (ofL n) hz0 _).mono ?_
            rintro e w' ⟨rfl, rfl⟩
            rw [hn]
            go_wp2_with fail
            obtain ⟨⟨q0, q1, q2, q3⟩, _⟩ := cells_four HK.out
            refine bodyPost_ret (v := .tuple #[.agg #[.int .i64 1, .string (ofL n), .slice a0 acc.length c00, .string ⟨#[]⟩], .bool true]) (by simp [results, Tryz.results240, go_sem, q0, q1, q2, q3]) rfl ?_
            exact tagOut_some HYES.out HOW.out HBB.out rfl

theorem tagS_any (s : ByteArray) (hs : s.size ≤ 1099511627) (w : World) : Calls Tryz.prog 240 #[.string s] w (TagOut s w) := by
  by_cases h : 60 < s.size ∨ s.data.toList[0]? = some 47
  · exact tagS_short s hs w h
  · exact tagS_open s (by omega) w fun e => h (Or.inr e)
end Go.Proofs.YtgcdfkpidcdicaaGreatDoor
