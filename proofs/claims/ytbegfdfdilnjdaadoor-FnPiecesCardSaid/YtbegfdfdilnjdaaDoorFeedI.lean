/- Helper contracts: FeedText of the program. Asked: the strings are shorter than 2^29 bytes together. -/
import Derived.Test.YtbegfdfdilnjdaaDoorPart
namespace Go.Proofs.YtbegfdfdilnjdaaDoor
open Go.ChangeShapes Go.WideShapes Go.ChangeAt Go.RowKit

theorem ofL_empty {l : List UInt8} : ((ofL l).toList == []) = decide (l = []) := by
  rw [ByteArray.toList_eq, ofL_list]
  cases l with
  | nil => rfl
  | cons b l => rfl

set_option maxRecDepth 100000 in
set_option maxHeartbeats 4000000 in
theorem feedI_any (r s : ByteArray) (hs : r.size + s.size ≤ 536870912) (w : World) :
    Calls Tryd.prog 20 #[.agg #[.string r], .string s] w (FeedOut (r.data.toList ++ s.data.toList) w) := by
  obtain ⟨x, hx⟩ : ∃ x, r.data.toList ++ s.data.toList = x := ⟨_, rfl⟩
  have hrs : r ++ s = ofL x := bytesEq (by rw [append_list, hx]; rfl)
  have hxl : x.length = r.size + s.size := by rw [← hx, List.length_append, size_list, size_list]
  rw [hx]
  have W0b := Lib.hid (((Below.refl w.heap.size w).alloc (Nat.le_refl _) (.cells #[.string r] 38)).alloc (by rw [size_alloc]; omega) (.cells #[.string ⟨#[]⟩] 38))
  obtain ⟨W0, hW0⟩ : ∃ W, (w.alloc (.cells #[.string r] 38)).alloc (.cells #[.string ⟨#[]⟩] 38) = W := ⟨_, rfl⟩
  have hres : W0.heap[w.heap.size + 1]? = some (.cells #[.string ⟨#[]⟩] 38 (0, 0)) := by
    rw [← hW0]
    have h := heap_alloc_new (w.alloc (.cells #[.string r] 38)) (.cells #[.string ⟨#[]⟩] 38)
    rw [size_alloc] at h
    exact h
  have hsz0 : W0.heap.size = w.heap.size + 2 := by rw [← hW0, size_alloc, size_alloc]
  rw [hW0] at W0b
  have HRES := Lib.hid hres; have HSZ0 := Lib.hid hsz0; have HRS := Lib.hid hrs; have HXL := Lib.hid hxl; have HS := Lib.hid hs
  have HW0 := Lib.hid hW0
  have hcat : ¬ (9223372036854775807 < r.size + s.size) := by omega
  clear hres hsz0 hrs hxl hx hs hW0
  go_enter Tryd.func20, Tryd.ntmps20
  go_wp2_with fail
  rw [HW0.out, HRS.out]
  refine (fpart_any x (by have := HXL.out; have := HS.out; omega) _).mono ?_
  rintro e w1 ⟨rfl, hg1⟩
  have HG1 := Lib.hid hg1; clear hg1
  go_wp2_with fail
  go_loopw [6, 7, 8] (fun v t p wr => ∃ (y : List UInt8) (ts : List Tv), t = .string (ofL y) ∧ p = .string (ofL (fpart y)) ∧ MineT (w.heap.size + 2) W0 wr v ts ∧ feedB x = (ts.map Prod.fst ++ (feedB y).1, (feedB y).2) ∧ ts.length + y.length ≤ x.length)
    (fun _ t _ _ => match t with | .string b => b.size | _ => 0)
  case atStart =>
    have h0 := (MineT.empty W0 W0 (w.heap.size + 2) (Below.refl _ _) (by rw [HSZ0.out]; exact Nat.le_refl _)).later HG1.out.below
    rw [HSZ0.out] at h0
    exact ⟨x, [], rfl, rfl, h0, by simp, by simp⟩
  case round =>
    obtain ⟨y, ts, rfl, rfl, hM, hfd, hlen⟩ := hrel
    have HM := Lib.hid hM; have HFD := Lib.hid hfd; have HLN := Lib.hid hlen
    clear hM hfd hlen HG1
    have hyl : (ofL y).size = y.length := ofL_size y
    have hy0 : y.length ≤ 536870912 := by have := HLN.out; have := HXL.out; have := HS.out; omega
    have HYL := Lib.hid hyl; have HY0 := Lib.hid hy0
    have hle := idxB_le 60 y
    clear hyl hy0
    by_cases h1 : 0 < idxB 60 y ∧ idxB 60 y < y.length
    · have HFT := feed_text h1.1 h1.2
      have hfp := fpart_text h1.1 h1.2
      obtain ⟨k, hk⟩ : ∃ k, idxB 60 y = k := ⟨_, rfl⟩
      rw [hk] at h1 HFT hfp hle
      obtain ⟨h1a, h1b⟩ := h1
      have HPP := Lib.hid (fun W => ppart_text y k hk h1a h1b W)
      have hne : ((ofL (y.take k)).toList == []) = false := by
        rw [ofL_empty]
        exact decide_eq_false fun e => by have := congrArg List.length e; rw [List.length_take, List.length_nil] at this; omega
      have hlk : (ofL (y.take k)).size = k := by rw [ofL_size, List.length_take]; omega
      have hdr : (ofL y).extract k (ofL y).size = ofL (y.drop k) := extract_suf _ _
      have HFT := Lib.hid (toks_more (p := (tokText (ofL (y.take k)), svNil)) HFD.out HFT)
      obtain ⟨S, hS⟩ : ∃ S, ofL (y.take k) = S := ⟨_, rfl⟩
      rw [hS] at HPP hne hlk
      rw [hfp, hS]
      have HSS := Lib.hid hS; have HDR := Lib.hid hdr; have HLK := Lib.hid hlk
      have c1 : (0 : Int) ≤ (k : Int) := by omega
      have c2 : (k : Int) ≤ ((ofL y).size : Int) := by have := HYL.out; omega
      have hmt := meth_text S
      clear hS hdr hk hle hfp
      go_wp2_with fail
      refine (HPP.out _).mono ?_
      rintro e w' ⟨rfl, rfl⟩
      go_wp2_with fail
      refine (tkText_any S _).mono ?_
      rintro e w2 ⟨rfl, hg2⟩
      have HM2 := Lib.hid (HM.out.later hg2.below)
      clear hg2 hmt
      go_wp2_with (at_builtin; refine wpList_appT rfl _ _ rfl (w.heap.size + 2) W0 _ ts rfl (HM2.out.alloc _) _ _ [(tokText (ofL (y.take k)), svNil)] rfl (readsT_one w2 (tokText (ofL (y.take k)), svNil) rfl rfl rfl HSS.out) ?ci ?cn ?cl ?_)
      case ci => intro p hp; rw [List.mem_singleton] at hp; subst hp; exact ownK_nil _ _ _ _ _ _
      case cn => have := HM.out.nod; simpa [insB, sv, svNil, Value.ownBlock] using this
      case cl => have := HLN.out; have := HXL.out; have := HS.out; simp; omega
      intro v3 w3 hm3
      have HM3 := Lib.hid hm3; clear hm3
      go_wp2_with fail
      rw [HDR.out]
      refine (fpart_any (y.drop k) (by rw [List.length_drop]; have := HY0.out; omega) _).mono ?_
      rintro e w4 ⟨rfl, hg4⟩
      have HM4 := Lib.hid (HM3.out.later hg4.below); clear hg4
      go_wp2
      go_roundw
      case rel => exact ⟨y.drop k, _, rfl, rfl, HM4.out, HFT.out, by rw [List.length_append, List.length_drop]; have := HLN.out; simp; omega⟩
      case measure => simp only [ofL_size, List.length_drop]; omega
    · by_cases h2 : idxB 60 y = 0 ∧ idxB 62 y < y.length
      · obtain ⟨h2a, h2b⟩ := h2
        have HFG := feed_tag h2a h2b
        have hfp := fpart_tag h2a h2b
        obtain ⟨k, hk⟩ : ∃ k, idxB 62 y = k := ⟨_, rfl⟩
        have HPP := Lib.hid (fun W => ppart_tag y k h2a hk (by rw [← hk]; exact h2b) (by have := HY0.out; omega) W)
        rw [hk] at h2b HFG hfp
        have hne : ((ofL (y.take (k + 1))).toList == []) = false := by
          rw [ofL_empty]
          exact decide_eq_false fun e => by have := congrArg List.length e; rw [List.length_take, List.length_nil] at this; omega
        have hlk : (ofL (y.take (k + 1))).size = k + 1 := by rw [ofL_size, List.length_take]; omega
        have hdr : (ofL y).extract (k + 1) (ofL y).size = ofL (y.drop (k + 1)) := extract_suf _ _
        obtain ⟨S, hS⟩ : ∃ S, ofL (y.take (k + 1)) = S := ⟨_, rfl⟩
        rw [hS] at HPP hne hlk
        rw [hfp, hS]
        have HFH := Lib.hid HFG; have HDR := Lib.hid hdr
        have c0 : (k : Int) ≤ 536870912 := by have := HY0.out; omega
        have c1 : (0 : Int) ≤ (k : Int) + 1 := by omega
        have c2 : (k : Int) + 1 ≤ ((ofL y).size : Int) := by have := HYL.out; omega
        clear hS hdr hk hle hfp h1 HFG
        go_wp2_with fail
        refine (HPP.out _).mono ?_
        rintro e w1 (⟨hno, ⟨m, rfl⟩, hb1⟩ | ⟨r1, ht, rfl, hb1⟩ | ⟨n, ats, a, c, ht, rfl, ho1, hb1⟩)
        · have HFT := Lib.hid (toks_none HFD.out (z := y.drop (k + 1)) (by rw [HFH.out]; rw [ofL_list] at hno; rw [hno]; rfl))
          have HM1 := Lib.hid (HM.out.later hb1)
          clear hno hb1
          go_wp2_with fail
          rw [HDR.out]
          refine (fpart_any (y.drop (k + 1)) (by rw [List.length_drop]; have := HY0.out; omega) _).mono ?_
          rintro e w4 ⟨rfl, hg4⟩
          have HM4 := Lib.hid (HM1.out.later hg4.below); clear hg4
          go_wp2
          go_roundw
          case rel => exact ⟨y.drop (k + 1), _, rfl, rfl, HM4.out, HFT.out, by rw [List.length_drop]; have := HLN.out; omega⟩
          case measure => simp only [ofL_size, List.length_drop]; omega
        · have HFT := Lib.hid (toks_more (p := (tokClose r1, svNil)) HFD.out (z := y.drop (k + 1)) (by rw [HFH.out]; rw [ofL_list] at ht; rw [ht]; rfl))
          have HM1 := Lib.hid (HM.out.later hb1)
          have hmt := meth_close r1
          clear ht hb1
          go_wp2_with fail
          refine (tkClose_any r1 _).mono ?_
          rintro e w2 ⟨rfl, hg2⟩
          have HM2 := Lib.hid (HM1.out.later hg2.below)
          clear hg2 hmt
          go_wp2_with (at_builtin; refine wpList_appT rfl _ _ rfl (w.heap.size + 2) W0 _ ts rfl (HM2.out.alloc _) _ _ [(tokClose r1, svNil)] rfl (readsT_one w2 (tokClose r1, svNil) rfl rfl rfl rfl) ?ci ?cn ?cl ?_)
          case ci => intro p hp; rw [List.mem_singleton] at hp; subst hp; exact ownK_nil _ _ _ _ _ _
          case cn => have := HM.out.nod; simpa [insB, sv, svNil, Value.ownBlock] using this
          case cl => have := HLN.out; have := HXL.out; have := HS.out; simp; omega
          intro v3 w3 hm3
          have HM3 := Lib.hid hm3; clear hm3
          go_wp2_with fail
          rw [HDR.out]
          refine (fpart_any (y.drop (k + 1)) (by rw [List.length_drop]; have := HY0.out; omega) _).mono ?_
          rintro e w4 ⟨rfl, hg4⟩
          have HM4 := Lib.hid (HM3.out.later hg4.below); clear hg4
          go_wp2
          go_roundw
          case rel => exact ⟨y.drop (k + 1), _, rfl, rfl, HM4.out, HFT.out, by rw [List.length_append, List.length_drop]; have := HLN.out; simp; omega⟩
          case measure => simp only [ofL_size, List.length_drop]; omega
        · obtain ⟨LA, hLA⟩ : ∃ l, ats.length = l := ⟨_, rfl⟩
          rw [hLA] at ho1 ⊢
          have HFT := Lib.hid (toks_more (p := (tokOpen n ats, (a, LA, c))) HFD.out (z := y.drop (k + 1)) (by rw [HFH.out]; rw [ofL_list] at ht; rw [ht]; rfl))
          have HM1 := Lib.hid (HM.out.later hb1)
          have HND := Lib.hid (toks_nodup (p := (tokOpen n ats, (a, LA, c))) HM.out ho1)
          have HO1 := Lib.hid (ho1.mono (lo' := w.heap.size + 2) HM.out.row.size (Nat.le_refl _))
          have hmt := meth_open n a LA c
          clear ht hb1 ho1 hLA
          go_wp2_with fail
          refine (tkOpen_any n a LA c _).mono ?_
          rintro e w2 ⟨rfl, hg2⟩
          have HM2 := Lib.hid (HM1.out.later hg2.below)
          have HO2 := Lib.hid ((HO1.out.later hg2.below).mono (Nat.le_refl _) hg2.below.size)
          clear hg2 hmt
          go_wp2_with (at_builtin; refine wpList_appT rfl _ _ rfl (w.heap.size + 2) W0 _ ts rfl (HM2.out.alloc _) _ _ [(tokOpen n ats, (a, LA, c))] rfl (readsT_one w2 (tokOpen n ats, (a, LA, c)) rfl rfl rfl rfl) ?ci HND.out ?cl ?_)
          case ci => intro p hp; rw [List.mem_singleton] at hp; subst hp; have hbb : Below w2.heap.size w2 (w2.alloc (.cells #[.int .i64 1, .string n, .slice a LA c, .string ⟨#[]⟩] 27)) := (Below.refl _ w2).alloc (Nat.le_refl _) _; exact (HO2.out.later hbb).mono (Nat.le_refl _) hbb.size
          case cl => have := HLN.out; have := HXL.out; have := HS.out; simp; omega
          intro v3 w3 hm3
          have HM3 := Lib.hid hm3; clear hm3
          go_wp2_with fail
          rw [HDR.out]
          refine (fpart_any (y.drop (k + 1)) (by rw [List.length_drop]; have := HY0.out; omega) _).mono ?_
          rintro e w4 ⟨rfl, hg4⟩
          have HM4 := Lib.hid (HM3.out.later hg4.below); clear hg4
          go_wp2
          go_roundw
          case rel => exact ⟨y.drop (k + 1), _, rfl, rfl, HM4.out, HFT.out, by rw [List.length_append, List.length_drop]; have := HLN.out; simp; omega⟩
          case measure => simp only [ofL_size, List.length_drop]; omega
      · have hfp := fpart_none h1 h2
        have HEND := Lib.hid (toks_end HFD.out (feed_end (x := y) (by have := idxB_le 62 y; omega) h1))
        rw [hfp]
        have hrb := below_heap HM.out.row.below (show w.heap.size + 1 < w.heap.size + 2 by omega) HRES.out
        obtain ⟨r0, z0⟩ := cells_one hrb
        have HKK := Lib.hid (heap_one1 (u := .string (ofL y)) hrb)
        have HOUT := Lib.hid ((HM.out.set (b := w.heap.size + 1) (o := 0) (u := .string (ofL y)) (by omega)).rebase (B' := w.heap.size) (w0' := w) (by omega) (show Below w.heap.size w (wr.setCell ⟨w.heap.size + 1, 0, none⟩ (.string (ofL y))) from (W0b.out.trans (HM.out.row.below.mono (by omega))).setCell (Nat.le_succ _) _))
        have hne : ((ofL []).toList == []) = true := by rw [ofL_empty]; rfl
        clear hrb hfp hle h1 h2
        go_wp2_with fail
        obtain ⟨q0, _⟩ := cells_one HKK.out
        refine bodyPost_ret (v := .tuple #[u6, .agg #[.string (ofL y)]]) (by simp [results, Tryd.results20, go_sem, q0]) rfl ?_
        exact ⟨_, ts, by rw [← HEND.out.2], HEND.out.1, HOUT.out⟩
end Go.Proofs.YtbegfdfdilnjdaaDoor
