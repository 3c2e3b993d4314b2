/- 6 texts in one. -/
import Derived.Test.YtgcdfkpidcdicaaGreatDoorBdAll
import Derived.Test.YtgcdfkpidcdicaaGreatDoorTagS
import Derived.Test.YtgcdfkpidcdicaaGreatDoorShsW
import Derived.Test.YtgcdfkpidcdicaaGreatDoorDrawAny
import Derived.Test.YtgcdfkpidcdicaaGreatDoorRowA2
import Derived.Test.YtgcdfkpidcdicaaGreatDoorRows
import Derived.ProofKit
import Derived.LaidMore
import Derived.OpenShut
import Derived.Stop.Joined
import Derived.Stop.LaidErr
import Derived.Lib.LaidTab
import Derived.Lib.ItoaNum
import Derived.LaidLaws
import Derived.Test.YtgcdfkpidcdicaaGreatDoorNumA
namespace Go.Proofs.YtgcdfkpidcdicaaGreatDoor
/- FeedS -/
open Go.ChangeShapes Go.WideShapes Go.ChangeAt Go.RowKit

set_option maxRecDepth 100000 in
set_option maxHeartbeats 4000000 in
theorem feedS_any (r s : ByteArray) (hs : r.size + s.size ≤ 536870912) (w : World) :
    Calls Tryz.prog 206 #[.agg #[.string r], .string s] w (FeedOut (r.data.toList ++ s.data.toList) w) := by
  obtain ⟨x, hx⟩ : ∃ x, r.data.toList ++ s.data.toList = x := ⟨_, rfl⟩
  have hrs : r ++ s = ofL x := bytesEq (by rw [append_list, hx]; rfl)
  have hxl : x.length = r.size + s.size := by rw [← hx, List.length_append, size_list, size_list]
  rw [hx]
  have W0b := Lib.hid (((Below.refl w.heap.size w).alloc (Nat.le_refl _) (.cells #[.string r] 247)).alloc (by rw [size_alloc]; omega) (.cells #[.string ⟨#[]⟩] 247))
  obtain ⟨W0, hW0⟩ : ∃ W, (w.alloc (.cells #[.string r] 247)).alloc (.cells #[.string ⟨#[]⟩] 247) = W := ⟨_, rfl⟩
  have hres : W0.heap[w.heap.size + 1]? = some (.cells #[.string ⟨#[]⟩] 247 (0, 0)) := by
    rw [← hW0]
    have h := heap_alloc_new (w.alloc (.cells #[.string r] 247)) (.cells #[.string ⟨#[]⟩] 247)
    rw [size_alloc] at h
    exact h
  have hsz0 : W0.heap.size = w.heap.size + 2 := by rw [← hW0, size_alloc, size_alloc]
  rw [hW0] at W0b
  have HRES := Lib.hid hres; have HSZ0 := Lib.hid hsz0; have HRS := Lib.hid hrs; have HXL := Lib.hid hxl; have HS := Lib.hid hs
  have HW0 := Lib.hid hW0
  have hcat : ¬ (9223372036854775807 < r.size + s.size) := by omega
  clear hres hsz0 hrs hxl hx hs hW0
  go_enter Tryz.func206, Tryz.ntmps206
  go_wp2_with fail
  rw [HW0.out, HRS.out]
  go_loopw [6, 7] (fun v t wr => ∃ (y : List UInt8) (ts : List Tv), t = .string (ofL y) ∧ MineT (w.heap.size + 2) W0 wr v ts ∧ feedB x = (ts.map Prod.fst ++ (feedB y).1, (feedB y).2) ∧ ts.length + y.length ≤ x.length)
    (fun _ t _ => match t with | .string b => b.size | _ => 0)
  case atStart => 
    have h0 := MineT.empty W0 W0 (w.heap.size + 2) (Below.refl _ _) (by rw [HSZ0.out]; exact Nat.le_refl _)
    rw [HSZ0.out] at h0
    exact ⟨x, [], rfl, h0, by simp, by simp⟩
  case round =>
    obtain ⟨y, ts, rfl, hM, hfd, hlen⟩ := hrel
    have HM := Lib.hid hM; have HFD := Lib.hid hfd; have HLN := Lib.hid hlen
    clear hM hfd hlen
    have hyl : (ofL y).size = y.length := ofL_size y
    have hy0 : (ofL y).size ≤ 536870912 := by have := HLN.out; have := HXL.out; have := HS.out; omega
    obtain ⟨k, hk⟩ : ∃ k, idxB 60 y = k := ⟨_, rfl⟩
    have hkle : k ≤ y.length := by rw [← hk]; exact idxB_le _ _
    have HIX := Lib.hid (fun W => (show idxB 60 (ofL y).data.toList = k from hk) ▸ ix_spec (ofL y) 60 (by omega) W)
    have HIX2 := Lib.hid (fun W => ix_spec (ofL y) 62 (by omega) W)
    have HK := Lib.hid hk; have HYL := Lib.hid hyl; have HY0 := Lib.hid hy0
    clear hk hyl hy0
    go_wp2_with fail
    refine (HIX.out _).mono ?_
    rintro e w' ⟨rfl, rfl⟩
    by_cases h1 : 0 < k ∧ k < y.length
    · obtain ⟨h1a, h1b⟩ := h1
      have hb1 : decide ((0 : Int) < (k : Int)) = true := decide_eq_true (by omega)
      have hb2 : (k : Int) < ((ofL y).size : Int) := by have := HYL.out; omega
      have c1 : (0 : Int) ≤ (k : Int) := by omega
      have c2 : (k : Int) ≤ ((ofL y).size : Int) := by have := HYL.out; omega
      have HT1 := Lib.hid (show (ofL y).extract 0 k = ofL (y.take k) from extract_pre _ _)
      have HT2 := Lib.hid (show (ofL y).extract k (ofL y).size = ofL (y.drop k) from extract_suf _ _)
      have HFT := Lib.hid (toks_more (p := (tokText (ofL (y.take k)), svNil)) HFD.out (by have := feed_text (x := y) (by rw [HK.out]; exact h1a) (by rw [HK.out]; exact h1b); rw [HK.out] at this; exact this))
      go_wp2_with (at_builtin; refine wpList_appT rfl _ _ rfl (w.heap.size + 2) W0 _ ts rfl (HM.out.alloc _) _ _ [(tokText (ofL (y.take k)), svNil)] rfl (readsT_one wr (tokText (ofL (y.take k)), svNil) rfl rfl rfl (HT1.out.symm)) ?ci ?cn ?cl ?_)
      case ci => intro p hp; rw [List.mem_singleton] at hp; subst hp; exact ownK_nil _ _ _ _ _ _
      case cn => have := HM.out.nod; simpa [insB, sv, svNil, Value.ownBlock] using this
      case cl => have := HLN.out; have := HXL.out; have := HS.out; simp; omega
      intro v2 w2 hm2
      have HM2 := Lib.hid hm2; clear hm2
      go_wp2
      rw [HT2.out]
      go_roundw
      case rel => exact ⟨y.drop k, _, rfl, HM2.out, HFT.out, by rw [List.length_append, List.length_drop]; have := HLN.out; simp; omega⟩
      case measure => simp only [ofL_size, List.length_drop]; omega
    · obtain ⟨e0, he⟩ : ∃ e0, idxB 62 (ofL y).data.toList = e0 := ⟨_, rfl⟩
      have hele : e0 ≤ y.length := by rw [← he]; exact idxB_le _ _
      have HE := Lib.hid he; clear he
      by_cases hk0 : (0 : Int) < (k : Int)
      · have hb2 : ¬ ((k : Int) < ((ofL y).size : Int)) := by have := HYL.out; omega
        have hkz : ((k : Int) == 0) = false := beq_eq_false_iff_ne.2 (by omega)
        have h1' := Lib.hid h1; clear h1
        go_wp2_with fail
        refine (HIX2.out _).mono ?_
        rintro e w' ⟨rfl, rfl⟩
        rw [HE.out]
        have HEND := Lib.hid (toks_end HFD.out (feed_end (x := y) (Or.inl (by rw [HK.out]; omega)) (by rw [HK.out]; exact h1'.out)))
        have hrb := below_heap HM.out.row.below (show w.heap.size + 1 < w.heap.size + 2 by omega) HRES.out
        obtain ⟨r0, z0⟩ := cells_one hrb
        have HKK := Lib.hid (heap_one1 (u := .string (ofL y)) hrb)
        have HOUT := Lib.hid ((HM.out.set (b := w.heap.size + 1) (o := 0) (u := .string (ofL y)) (by omega)).rebase (B' := w.heap.size) (w0' := w) (by omega) (show Below w.heap.size w (wr.setCell ⟨w.heap.size + 1, 0, none⟩ (.string (ofL y))) from (W0b.out.trans (HM.out.row.below.mono (by omega))).setCell (Nat.le_succ _) _))
        clear hrb
        go_wp2_with fail
        obtain ⟨q0, _⟩ := cells_one HKK.out
        refine bodyPost_ret (v := .tuple #[u6, .agg #[.string (ofL y)]]) (by simp [results, Tryz.results206, go_sem, q0]) rfl ?_
        exact ⟨_, ts, by rw [← HEND.out.2], HEND.out.1, HOUT.out⟩

      · obtain rfl : k = 0 := by omega
        have h1' := Lib.hid h1; clear h1
        by_cases hee : e0 = y.length
        · have hq : ((e0 : Int) == ((ofL y).size : Int)) = true := beq_iff_eq.2 (by have := HYL.out; omega)
          have HEE := Lib.hid hee; clear hee
          go_wp2_with fail
          refine (HIX2.out _).mono ?_
          rintro e w' ⟨rfl, rfl⟩
          rw [HE.out]
          have HEND := Lib.hid (toks_end HFD.out (feed_end (x := y) (Or.inr (by have := HE.out; rw [ofL_list] at this; rw [this]; exact HEE.out)) (by rw [HK.out]; exact h1'.out)))
          have hrb := below_heap HM.out.row.below (show w.heap.size + 1 < w.heap.size + 2 by omega) HRES.out
          obtain ⟨r0, z0⟩ := cells_one hrb
          have HKK := Lib.hid (heap_one1 (u := .string (ofL y)) hrb)
          have HOUT := Lib.hid ((HM.out.set (b := w.heap.size + 1) (o := 0) (u := .string (ofL y)) (by omega)).rebase (B' := w.heap.size) (w0' := w) (by omega) (show Below w.heap.size w (wr.setCell ⟨w.heap.size + 1, 0, none⟩ (.string (ofL y))) from (W0b.out.trans (HM.out.row.below.mono (by omega))).setCell (Nat.le_succ _) _))
          clear hrb
          go_wp2_with fail
          obtain ⟨q0, _⟩ := cells_one HKK.out
          refine bodyPost_ret (v := .tuple #[u6, .agg #[.string (ofL y)]]) (by simp [results, Tryz.results206, go_sem, q0]) rfl ?_
          exact ⟨_, ts, by rw [← HEND.out.2], HEND.out.1, HOUT.out⟩

        · have hq : ((e0 : Int) == ((ofL y).size : Int)) = false := beq_eq_false_iff_ne.2 (by have := HYL.out; omega)
          have he1 : 1 ≤ e0 := by have h9 := HE.out; rw [ofL_list] at h9; rw [← h9]; exact idx_tag HK.out (by rw [h9]; omega)
          have c1 : (1 : Int) ≤ (e0 : Int) := by omega
          have c2 : (e0 : Int) ≤ ((ofL y).size : Int) := by have := HYL.out; omega
          have c3 : (0 : Int) ≤ (e0 : Int) + 1 := by omega
          have c5 : (e0 : Int) + 1 ≤ 536870913 := by have := HYL.out; have := HY0.out; omega
          have c4 : (e0 : Int) + 1 ≤ ((ofL y).size : Int) := by have := HYL.out; omega
          have HT1 := Lib.hid (tag_inside y e0)
          have HT2 := Lib.hid (show (ofL y).extract (e0 + 1) (ofL y).size = ofL (y.drop (e0 + 1)) from extract_suf _ _)
          have HFG := Lib.hid (show feedB y = ((tagB ((y.take e0).drop 1)).toList ++ (feedB (y.drop (e0 + 1))).1, (feedB (y.drop (e0 + 1))).2) by
            have h9 := HE.out
            rw [ofL_list] at h9
            have := feed_tag (x := y) HK.out (by rw [h9]; omega)
            rw [h9] at this; exact this)
          have hz : (ofL ((y.take e0).drop 1)).size ≤ 1099511627 := by rw [ofL_size, List.length_drop, List.length_take]; have := HYL.out; have := HY0.out; omega
          go_wp2_with fail
          refine (HIX2.out _).mono ?_
          rintro e w' ⟨rfl, rfl⟩
          rw [HE.out]
          go_wp2_with fail
          rw [HT1.out]
          refine (tagS_any _ hz _).mono ?_
          intro e w1 hto
          rcases tagOut_cases hto with ⟨a, n, c, hno, rfl, hb1⟩ | ⟨t, a, n, c, hyes, rfl, ho1, hb1⟩
          · have HFT := Lib.hid (toks_none HFD.out (z := y.drop (e0 + 1)) (by rw [HFG.out]; rw [ofL_list] at hno; rw [hno]; rfl))
            have HM1 := Lib.hid (HM.out.later hb1)
            clear hno hb1 hto
            go_wp2
            rw [HT2.out]
            go_roundw
            case rel => exact ⟨y.drop (e0 + 1), ts, rfl, HM1.out.alloc _, HFT.out, by rw [List.length_drop]; have := HLN.out; omega⟩
            case measure => simp only [ofL_size, List.length_drop]; omega
          · have HFT := Lib.hid (toks_more (p := (t, (a, n, c))) HFD.out (z := y.drop (e0 + 1)) (by rw [HFG.out]; rw [ofL_list] at hyes; rw [hyes]; rfl))
            have HM1 := Lib.hid (HM.out.later hb1)
            have HND := Lib.hid (toks_nodup (p := (t, (a, n, c))) HM.out ho1)
            have HO1 := Lib.hid (ho1.mono (lo' := w.heap.size + 2) HM.out.row.size (Nat.le_refl _))
            clear hyes hb1 hto ho1
            obtain ⟨kd, hkd⟩ : ∃ x, t.kind = x := ⟨_, rfl⟩
            obtain ⟨nm, hnm⟩ : ∃ x, t.name = x := ⟨_, rfl⟩
            obtain ⟨tx, htx⟩ : ∃ x, t.text = x := ⟨_, rfl⟩
            rw [hkd, hnm, htx]
            have HKD := Lib.hid hkd; have HNM := Lib.hid hnm; have HTX := Lib.hid htx
            clear hkd hnm htx
            go_wp2_with (at_builtin; refine wpList_appT rfl _ _ rfl (w.heap.size + 2) W0 _ ts rfl ((HM1.out.alloc _).alloc _) _ _ [(t, (a, n, c))] rfl (readsT_at (w1.alloc _) (t, (a, n, c)) (w1.heap.size + 1) (size_alloc _ _) HKD.out HNM.out rfl HTX.out) ?ci HND.out ?cl ?_)
            case ci =>
              intro p hp
              rw [List.mem_singleton] at hp
              subst hp
              have hbb : Below w1.heap.size w1 ((w1.alloc (.cells #[.int .i64 kd, .string nm, .slice a n c, .string tx] 176)).alloc (.cells #[.int .i64 kd, .string nm, .slice a n c, .string tx] 176)) := ((Below.refl _ w1).alloc (Nat.le_refl _) _).alloc (by rw [size_alloc]; omega) _
              exact (HO1.out.later hbb).mono (Nat.le_refl _) hbb.size
            case cl => have := HLN.out; have := HXL.out; have := HS.out; simp; omega
            intro v2 w2 hm2
            have HM2 := Lib.hid hm2; clear hm2
            go_wp2
            rw [HT2.out]
            go_roundw
            case rel => exact ⟨y.drop (e0 + 1), _, rfl, HM2.out, HFT.out, by rw [List.length_append, List.length_drop]; have := HLN.out; simp; omega⟩
            case measure => simp only [ofL_size, List.length_drop]; omega

/- EndS -/
open Go.ChangeShapes Go.WideShapes Go.ChangeAt Go.RowKit

set_option maxRecDepth 100000 in
set_option maxHeartbeats 1000000 in
theorem end_spec (r : ByteArray) (w : World) : Calls Tryz.prog 207 #[.agg #[.string r]] w (ToksOut (endB r.data.toList) w) := by
  have HB := Lib.hid ((Below.refl w.heap.size w).alloc (Nat.le_refl _) (.cells #[.string r] 247))
  by_cases h0 : 0 < r.size
  · have hne : (r.toList == []) = false := by
      rw [ByteArray.toList_eq]
      refine beq_eq_false_iff_ne.2 fun e => ?_
      have := size_list r
      rw [e] at this; simp at this; omega
    have hnn : r.data.toList ≠ [] := fun e => by have := size_list r; rw [e] at this; simp at this; omega
    by_cases h6 : r[0] = 60
    · have hb : ((r[0].toNat : Int) == 60) = true := by rw [h6]; rfl
      have HE := Lib.hid (endB_tag (byte_eq h0 h6))
      clear h6
      go_enter Tryz.func207, Tryz.ntmps207
      go_wp2_with fail
      go_ret
      have hm := MineT.empty w (w.alloc (.cells #[.string r] 247)) w.heap.size HB.out (by rw [size_alloc]; omega)
      rw [size_alloc] at hm
      exact ⟨_, [], rfl, by rw [HE.out]; rfl, hm⟩
    · have hb : ((r[0].toNat : Int) == 60) = false := (u8_beq r[0] 60).trans (decide_eq_false h6)
      have HE := Lib.hid (endB_text hnn (byte_ne fun _ => h6))
      clear h6 hnn
      go_enter Tryz.func207, Tryz.ntmps207
      go_wp2_with fail
      go_ret
      have hm := mineT_lit (w0 := w) (w := w.alloc (.cells #[.string r] 247)) (tokText r, svNil) (w.heap.size + 1) (size_alloc _ _) (by rw [size_alloc]; omega) HB.out rfl rfl rfl rfl (ownK_nil _ _ _ _ _ _)
      exact ⟨_, [(tokText r, svNil)], rfl, by rw [HE.out, ofL_of]; rfl, hm⟩
  · obtain rfl : r = ⟨#[]⟩ := by
      have := size_list r
      refine bytesEq (List.eq_nil_of_length_eq_zero (by omega))
    go_enter Tryz.func207, Tryz.ntmps207
    go_wp2_with fail
    go_ret
    have hm := MineT.empty w (w.alloc (.cells #[.string ⟨#[]⟩] 247)) w.heap.size HB.out (by rw [size_alloc]; omega)
    rw [size_alloc] at hm
    exact ⟨_, [], rfl, by rw [endB_nil]; rfl, hm⟩

/- ToksS -/
open Go.ChangeShapes Go.WideShapes Go.ChangeAt Go.RowKit

set_option maxRecDepth 100000 in
set_option maxHeartbeats 2000000 in
theorem toks_spec (s : ByteArray) (hs : s.size ≤ 536870912) (w : World) : Calls Tryz.prog 167 #[.string s] w (ToksOut (tokensB s.data.toList) w) := by
  have HFD := Lib.hid (fun W => feedS_any ⟨#[]⟩ s (by show 0 + s.size ≤ _; omega) W)
  have HSZ := Lib.hid (feed_size s.data.toList)
  have HSL := Lib.hid (size_list s)
  have HS := Lib.hid hs; clear hs
  go_enter Tryz.func167, Tryz.ntmps167
  go_wp2_with fail
  refine (HFD.out _).mono ?_
  rintro e w1 ⟨v1, ts1, rfl, hts1, hM1⟩
  rw [show (⟨#[]⟩ : ByteArray).data.toList ++ s.data.toList = s.data.toList from rfl] at hts1 ⊢
  obtain ⟨R, hR⟩ : ∃ R, ofL (feedB s.data.toList).2 = R := ⟨_, rfl⟩
  rw [hR]
  have HR := Lib.hid (show R.data.toList = (feedB s.data.toList).2 by rw [← hR]; rfl)
  have HM1 := Lib.hid hM1; have HT1 := Lib.hid hts1
  clear hM1 hts1 hR
  go_wp2_with fail
  refine (end_spec R _).mono ?_
  rintro e w2 ⟨v2, ts2, rfl, hts2, hM2⟩
  rw [HR.out] at hts2
  have HM2 := Lib.hid hM2; have HT2 := Lib.hid hts2
  have HB2 := Lib.hid (show Below w1.heap.size w1 w2 from ((Below.refl _ w1).alloc (Nat.le_refl _) _).trans (hM2.row.below.mono (by rw [size_alloc]; omega)))
  have HM3 := Lib.hid (HM1.out.later HB2.out)
  have HL := Lib.hid (show ts1.length + ts2.length ≤ 536870914 by
    have h1 := congrArg List.length HT1.out
    have h2 := congrArg List.length HT2.out
    rw [List.length_map] at h1 h2
    have h3 := HSZ.out.1
    have h4 : (endB (feedB s.data.toList).2).length ≤ 1 := by unfold endB; split <;> simp
    have := HSL.out; have := HS.out
    omega)
  have HND := Lib.hid (show (insB ts1 ++ insB ts2).Nodup from List.nodup_append.2 ⟨HM1.out.nod, HM2.out.nod, fun a ha b hb e => by
    have h1 := (HM1.out.lt a ha).2
    have h2 := (HM2.out.lt b hb).1
    rw [size_alloc] at h2
    omega⟩)
  have HSB := Lib.hid (show w.heap.size ≤ w1.heap.size + 1 by have := HM1.out.row.size; omega)
  clear hM2 hts2
  go_wp2_with (at_builtin; refine wpList_appT rfl _ _ rfl w.heap.size w _ ts1 rfl HM3.out _ _ ts2 rfl (readsT_of HM2.out (Nat.le_refl _)) ?ci HND.out ?cl ?_)
  case ci => intro p hp; exact (HM2.out.inn p hp).mono (by rw [size_alloc]; exact HSB.out) (Nat.le_refl _)
  case cl => have := HL.out; omega
  intro v3 w3 hm3
  have HM4 := Lib.hid hm3; clear hm3
  go_wp2_with fail
  go_ret
  exact ⟨_, ts1 ++ ts2, rfl, by rw [List.map_append, HT1.out, HT2.out]; rfl, HM4.out⟩

/- ShsE -/
open Go.ChangeShapes Go.WideShapes Go.ChangeAt Go.RowKit

theorem any_drawn7 : AnyS := fun b sv len w hc => any_any (fun b' sv' len' w' hc' => builder_any (fun s hs W => toks_spec s hs W) b' sv' len' w' hc') b sv len w hc
theorem sheets_end (a : Option Addr) (len cap : Nat) (zs : List Int) (w : World) (hL : Laid w) (h : IsRow .u8 w a len cap zs) :
    Calls Tryz.prog 3 #[.slice a len cap] w fun e w' => e = .returned (.bool true) ∧ Below w.heap.size w w' := by
  by_cases hb : (1048576 : Int) < (len : Int)
  · go_enter Tryz.func3, Tryz.ntmps3
    go_wp2_with fail
    refine (big_yes a len cap _ hb).mono ?_
    rintro e w1 ⟨rfl, rfl⟩
    go_wp2
    go_ret
    exact ⟨rfl, Below.refl _ _⟩
  · exact walkShsW any_drawn7 a len cap w hL (code_of_row h (by omega)) hb

/- LaidFacts -/
open Go.ChangeShapes Go.WideShapes Go.ChangeAt Go.RowKit

theorem gPow : Tryz.prog.globalNamed "internal/strconv.uint64pow10" = some 5 := by kernel_rfl
theorem tPow : (Tryz.prog.globals[5]?).map (·.type) = some 294 := by kernel_rfl
theorem powData {H : Type} : (Rows.laid_internal_strconv_uint64pow10 : DataW H) = Lib.tabData .u64 Lib.pow10Tab := by rfl
theorem powTab {rest : List (String × DataW Unit)} {W : World} (h : laidMet Tryz.prog (("internal/strconv.uint64pow10", Rows.laid_internal_strconv_uint64pow10) :: rest) W) : Lib.TabIs Tryz.prog W "internal/strconv.uint64pow10" .u64 Lib.pow10Tab := by
  rw [powData] at h
  exact Lib.tabIs_of_head gPow tPow Tryz.underlying294 Tryz.underlying245 (by kernel_rfl) (by kernel_rfl) h

def laid3 : List (String × DataW Unit) := [("math/bits.deBruijn32tab", Rows.laid_math_bits_deBruijn32tab), ("math/bits.deBruijn64tab", Rows.laid_math_bits_deBruijn64tab), ("internal/strconv.uint64pow10", Rows.laid_internal_strconv_uint64pow10)]
def laid5 : List (String × DataW Unit) := [("math/bits.deBruijn32tab", Rows.laid_math_bits_deBruijn32tab), ("math/bits.deBruijn64tab", Rows.laid_math_bits_deBruijn64tab), ("internal/strconv.uint64pow10", Rows.laid_internal_strconv_uint64pow10), ("strconv.ErrRange", Rows.laid_strconv_ErrRange), ("strconv.ErrSyntax", Rows.laid_strconv_ErrSyntax)]
theorem plain3 {W : World} (h : laidMetH Tryz.prog laid3 W) : laidMet Tryz.prog laid3 W := by
  rw [MakeChecks.laidMetH_plain _ _ _ (by kernel_rfl)] at h; exact h
theorem plain5 {W : World} (h : laidMetH Tryz.prog laid5 W) : laidMet Tryz.prog laid5 W := by
  rw [MakeChecks.laidMetH_plain _ _ _ (by kernel_rfl)] at h; exact h
theorem tab_of_laid3 {W : World} (h : laidMetH Tryz.prog laid3 W) : Lib.TabIs Tryz.prog W "internal/strconv.uint64pow10" .u64 Lib.pow10Tab := powTab (plain3 h).tail.tail
theorem tab_of_laid5 {W : World} (h : laidMetH Tryz.prog laid5 W) : Lib.TabIs Tryz.prog W "internal/strconv.uint64pow10" .u64 Lib.pow10Tab := powTab (plain5 h).tail.tail

/- LaidSh -/
open Go.ChangeShapes Go.WideShapes Go.ChangeAt Go.RowKit

theorem gES : Tryz.prog.globalNamed "strconv.ErrSyntax" = some 3 := by kernel_rfl
theorem tES : (Tryz.prog.globals[3]?).map (·.type) = some 167 := by kernel_rfl
theorem gER : Tryz.prog.globalNamed "strconv.ErrRange" = some 4 := by kernel_rfl
theorem tER : (Tryz.prog.globals[4]?).map (·.type) = some 167 := by kernel_rfl
theorem cellsES : Tryz.prog.cellsOf 305 = 1 := by kernel_rfl
theorem cellsStr : Tryz.prog.cellsOf 9 = 1 := by kernel_rfl
theorem star : "*" ++ "errors.errorString" = "*errors.errorString" := by decide
theorem rowOf (u : TypeId) (h : Tryz.prog.typeName? 3 u = some "*errors.errorString") : u = 303 :=
  typeName_ptr_named (nm := "errors.errorString") (by rw [star]; kernel_rfl) (by kernel_rfl) (by decide) u (by rw [star]; exact h)
/-- The seven listed variables of a row that reads ParseInt and strings.Split. -/
def laid7 : List (String × DataW Unit) := [("math/bits.deBruijn32tab", Rows.laid_math_bits_deBruijn32tab), ("math/bits.deBruijn64tab", Rows.laid_math_bits_deBruijn64tab), ("internal/strconv.uint64pow10", Rows.laid_internal_strconv_uint64pow10), ("unicode/utf8.acceptRanges", Rows.laid_unicode_utf8_acceptRanges), ("strconv.ErrRange", Rows.laid_strconv_ErrRange), ("strconv.ErrSyntax", Rows.laid_strconv_ErrSyntax), ("unicode/utf8.first", Rows.laid_unicode_utf8_first)]
theorem plain7 {W : World} (h : laidMetH Tryz.prog laid7 W) : laidMet Tryz.prog laid7 W := by
  rw [MakeChecks.laidMetH_plain _ _ _ (by kernel_rfl)] at h; exact h
theorem laid_of7 {W : World} (h : laidMetH Tryz.prog laid7 W) : Laid W := by
  have hL := plain7 h
  obtain ⟨a0, s0, hv0, -, -, -⟩ := laid_sentinel hL.tail.tail.tail.tail gER tER Tryz.underlying167 rowOf Tryz.underlying303 Tryz.underlying305 rfl rfl Tryz.underlying9 cellsES cellsStr
  obtain ⟨a1, s1, hv1, -, -, -⟩ := laid_sentinel hL.tail.tail.tail.tail.tail gES tES Tryz.underlying167 rowOf Tryz.underlying303 Tryz.underlying305 rfl rfl Tryz.underlying9 cellsES cellsStr
  exact ⟨powTab hL.tail.tail, ⟨_, _, hv1⟩, ⟨_, _, hv0⟩⟩
end Go.Proofs.YtgcdfkpidcdicaaGreatDoor
