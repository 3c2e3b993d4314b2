/- The walk of the law FnPieces: it returns true, and writes nothing that was there. -/
import Derived.Test.YtbegfdfdilnjdaaDoorPcs
import Derived.Deep.RegionHeld3
namespace Go.Proofs.YtbegfdfdilnjdaaDoor
open Go.ChangeShapes Go.WideShapes Go.ChangeAt Go.RowKit

set_option maxRecDepth 100000 in
set_option maxHeartbeats 4000000 in
theorem walkPieces (a_c : Option Addr) (len_c cap_c : Nat) (w : World) (r_c : CodeOk w.heap.size w (.slice a_c len_c cap_c) len_c) (hb_c : ¬ (1048576 : Int) < (len_c : Int)) :
    Calls Tryd.prog 4 #[.slice a_c len_c cap_c] w fun e w' => e = .returned (.bool true) ∧ Below w.heap.size w w' := by
  have HCO := Lib.hid r_c; clear r_c
  go_enter Tryd.func4, Tryd.ntmps4
  go_wp2_with fail
  refine (big_no a_c len_c cap_c _ (by omega)).mono ?_
  rintro e w_1 ⟨rfl, rfl⟩
  go_wp2_with fail
  refine (drawPieces_any _ len_c _ HCO.out).mono ?_
  rintro e w_2 ⟨S, vc, zs, rfl, hS, hzl, hoc, hb⟩
  have HOC := Lib.hid hoc; have HB2 := Lib.hid hb; have HS2 := Lib.hid hb.size
  clear hoc hb hzl
  go_wp2_with fail
  refine (toks_impl S (by omega) _).mono ?_
  rintro e w_3 ⟨v1, ts1, rfl, hts1, hM1⟩
  obtain ⟨a1, c1, rfl⟩ := hM1.row.own.slice
  have HM1 := Lib.hid hM1; have HT1 := Lib.hid hts1; have HS3 := Lib.hid hM1.row.below.size
  have HB3 := Lib.hid (HB2.out.trans (hM1.row.below.mono HS2.out)); have HOC3 := Lib.hid (HOC.out.below hM1.row.below (Nat.le_refl _))
  clear hM1 hts1
  obtain ⟨N, hN⟩ : ∃ N, ts1.length = N := ⟨_, rfl⟩
  rw [hN]
  have HN := Lib.hid hN; clear hN
  go_wp2_with fail
  refine (toks_spec S (by omega) _).mono ?_
  rintro e w_4 ⟨v2, ts2, rfl, hts2, hM2⟩
  obtain ⟨a2, c2, rfl⟩ := hM2.row.own.slice
  rw [rwT_count (hts2.trans HT1.out.symm), HN.out]
  have HB4 := Lib.hid (HB3.out.trans (hM2.row.below.mono (Nat.le_trans HS2.out HS3.out))); have HOC4 := Lib.hid (HOC3.out.below hM2.row.below HS3.out)
  have HM14 := Lib.hid (HM1.out.later hM2.row.below); have HS4 := Lib.hid hM2.row.below.size
  clear hM2 hts2 HM1 HB2 HB3 HOC HOC3
  go_wp2_with fail
  have HM0 := Lib.hid ((MineT.empty w_4 w_4 w_4.heap.size (Below.refl _ _) (Nat.le_refl _)).alloc (.cells #[.string ⟨#[]⟩] 38))
  have HH0 := Lib.hid (show ((w_4.alloc (.cells #[] 27)).alloc (.cells #[.string ⟨#[]⟩] 38)).heap[w_4.heap.size + 1]? = some (.cells #[.string ⟨#[]⟩] 38 (0, 0)) by
    have := heap_alloc_new (w_4.alloc (.cells #[] 27)) (.cells #[.string ⟨#[]⟩] 38)
    rwa [size_alloc] at this)
  go_loopw [6, 8, 9] (fun l f i wr => ∃ (m n : Nat) (ts : List Tv) (R : ByteArray), f = .int .i64 m ∧ i = .int .i64 n ∧ m ≤ n ∧ n ≤ S.size + 1 ∧ m ≤ S.size ∧ (n = S.size + 1 → m = S.size) ∧ feedB (S.data.toList.take m) = (ts.map Prod.fst, R.data.toList) ∧ wr.heap[w_4.heap.size + 1]? = some (.cells #[.string R] 38 (0, 0)) ∧ MineT w_4.heap.size w_4 wr l ts) (fun _ _ i _ => S.size + 1 - (intOf i).toNat)
  case atStart => exact ⟨0, 0, [], ⟨#[]⟩, rfl, rfl, Nat.le_refl _, by omega, by omega, by omega, feed_nil, HH0.out, HM0.out⟩
  case round =>
    obtain ⟨m, n, ts, R, rfl, rfl, h1, h2, h3, h4, hfd, hbk, hmt⟩ := hrel
    obtain ⟨al, cl, rfl⟩ := hmt.row.own.slice
    have HFD := Lib.hid hfd; have HBK := Lib.hid hbk; have HMT := Lib.hid hmt; have HCT := Lib.hid (cells_one hbk).1; have HFZ := Lib.hid (cells_one hbk).2
    have hbt : w_4.heap.size + 1 < wr.heap.size := heap_lt hbk
    have HFB := Lib.hid (show R.size + (S.extract m n).size ≤ 536870912 by
      have e1 := congrArg (fun x : List Tok × List UInt8 => x.2.length) HFD.out
      have e2 := (feed_size (S.data.toList.take m)).2
      simp only [List.length_take, size_list] at e1 e2
      rw [ByteArray.size_extract]
      omega)
    have HOC := Lib.hid (HOC4.out.below HMT.out.row.below (Nat.le_trans HS3.out HS4.out))
    clear hfd hbk hmt HM0 HH0
    by_cases hle : (n : Int) ≤ (S.size : Int)
    · by_cases hlt : (n : Int) < (S.size : Int)
      · go_wp2_with fail
        refine (contains_any vc n _ zs wr HOC.out.reads).mono ?_
        rintro e w' ⟨⟨b, rfl⟩, rfl⟩
        cases b with
        | false =>
          go_wp2
          go_roundw
          case rel => exact ⟨m, n + 1, ts, R, rfl, by go_num, by omega, by omega, by omega, by omega, HFD.out, HBK.out, HMT.out⟩
          case measure => simp [intOf]; omega
        | true =>
          have hft : (m : Int) ≤ (n : Int) := by omega
          have hf0 : (0 : Int) ≤ (m : Int) := by omega
          have hts' : (n : Int) ≤ (S.size : Int) := by omega
          have KEEP := Lib.hid (fun (w' : World) (h : Below wr.heap.size wr w') => show w'.cell? ⟨w_4.heap.size + 1, 0, none⟩ = some (.string R) from (h.cell hbt).trans HCT.out)
          have HALL := Lib.hid (fun (o : Obj) (wA : World) (h : Below (wr.alloc o).drew.heap.size (wr.alloc o).drew wA) => show Below wr.heap.size wr wA from ((Below.refl _ wr).alloc (Nat.le_refl _) o).drew.trans (h.mono (by show wr.heap.size ≤ (wr.alloc o).heap.size; simp)))
          have HNEW := Lib.hid (show (wr.alloc (.cells #[.string ⟨#[]⟩] 38)).drew.heap[wr.heap.size]? = some (.cells #[.string ⟨#[]⟩] 38 (0, 0)) from heap_alloc_new wr _)
          go_wp2_with fail
          go_region_held3 (fun w' => w'.cell? ⟨w_4.heap.size + 1, 0, none⟩ = some (.string R)) (first
            | exact KEEP.out _ (Below.refl _ _).drew
            | exact KEEP.out _ ((Below.refl _ _).alloc (Nat.le_refl _) _).drew
            | exact KEEP.out _ hBA
            | exact KEEP.out _ (hBA.alloc hBA.size _)
            | exact KEEP.out _ (hBA.setCell (Nat.le_refl _) _)
            | exact KEEP.out _ ((hBA.alloc hBA.size _).setCell hBA.size _))
            (first | (go_at_call 20; refine (feedI_any R _ ?_ _).mono ?_; (exact HFB.out); rintro e wA ⟨vx, tsx, rfl, hx, hMx⟩; have hBA : Below wr.heap.size wr wA := (by first | exact below_undrew hMx.row.below | exact HALL.out _ _ hMx.row.below); (first | (have hA := below_heap hMx.row.below (by show wr.heap.size < (wr.alloc _).heap.size; simp) HNEW.out; have qA0 := (cells_one hA).1; have qA1 := (cells_one hA).2) | skip)))
          all_goals (obtain ⟨R', hR'⟩ : ∃ R', ofL (feedB (R.data.toList ++ List.take (n - m) (List.drop m S.data.toList))).2 = R' := ⟨_, rfl⟩)
          all_goals rw [hR']
          all_goals
            have hnx := feed_more h1 HFD.out
            rw [List.drop_take] at hnx
            have HNX := Lib.hid (show feedB (S.data.toList.take n) = ((ts ++ tsx).map Prod.fst, R'.data.toList) by
              rw [hnx, List.map_append, hx, ← hR']
              simp [extract_eq, ofL_list])
            clear hnx hx hR'
          · obtain ⟨wy, hwy⟩ : ∃ x, wA.alloc (.cells #[.string R'] 38) = x := ⟨_, rfl⟩
            rw [hwy]
            have HBY := Lib.hid (show Below wr.heap.size wr wy by rw [← hwy]; exact hBA.alloc hBA.size _)
            have HMY := Lib.hid (show MineT wr.heap.size wr wy vx tsx by rw [← hwy]; exact MineT.alloc (hMx.rebase (Nat.le_refl _) hBA) _)
            have HYB := Lib.hid (show wy.heap[wA.heap.size]? = some (.cells #[.string R'] 38 (0, 0)) by rw [← hwy]; exact heap_alloc_new _ _)
            obtain ⟨yb, hyb⟩ : ∃ x, wA.heap.size = x := ⟨_, rfl⟩
            rw [hyb] at HYB ⊢
            have hyl : wr.heap.size ≤ yb := by rw [← hyb]; exact hBA.size
            clear hwy hyb hMx hBA
            have HLN := Lib.hid (show ts.length + tsx.length ≤ 6000 by
              have e1 := congrArg (fun x : List Tok × List UInt8 => x.1.length) HNX.out
              have e2 := (feed_size (S.data.toList.take n)).1
              simp only [List.length_map, List.length_append, List.length_take, size_list] at e1 e2
              omega)
            go_wp2_with (at_builtin; refine wpList_appTG rfl _ _ rfl w_4.heap.size w_4 _ ts rfl (HMT.out.later HBY.out) _ _ tsx rfl (readsT_of HMY.out (Nat.le_refl _)) ?ci ?cn ?cl ?_)
            case ci => intro p hp; exact (HMY.out.inn p hp).mono (by omega) (Nat.le_refl _)
            case cn => exact List.nodup_append.2 ⟨HMT.out.nod, HMY.out.nod, fun a ha b hb e => by have h1 := (HMT.out.lt a ha).2; have h2 := (HMY.out.lt b hb).1; omega⟩
            case cl => have := HLN.out; omega
            intro v5 w5 hm5 hk5
            have HM5 := Lib.hid hm5
            have HT5 := Lib.hid (hk5 _ _ (below_heap HBY.out hbt HBK.out)); have HY5 := Lib.hid (hk5 _ _ HYB.out)
            clear hm5 hk5
            have qy := (cells_one HY5.out).1; have qt := (cells_one HT5.out).1; have qf := (cells_one HT5.out).2
            go_wp2
            go_roundw
            case rel => exact ⟨n, n + 1, ts ++ tsx, R', rfl, by go_num, by omega, by omega, by omega, by omega, HNX.out, heap_one1 HT5.out, HM5.out.setT HT5.out (by omega)⟩
            case measure => simp [intOf]; omega
          · obtain ⟨wy, hwy⟩ : ∃ x, wA.setCell ⟨wr.heap.size, 0, none⟩ (.string R') = x := ⟨_, rfl⟩
            rw [hwy]
            have HBY := Lib.hid (show Below wr.heap.size wr wy by rw [← hwy]; exact hBA.setCell (Nat.le_refl _) _)
            have HMY := Lib.hid (show MineT wr.heap.size wr wy vx tsx by rw [← hwy]; exact MineT.setT (hMx.rebase (by show _ ≤ (wr.alloc _).heap.size; simp) hBA) hA (Nat.le_refl _))
            have HYB := Lib.hid (show wy.heap[wr.heap.size]? = some (.cells #[.string R'] 38 (0, 0)) by rw [← hwy]; exact heap_one1 hA)
            obtain ⟨yb, hyb⟩ : ∃ x, wr.heap.size = x := ⟨_, rfl⟩
            have hyl : wr.heap.size ≤ yb := by rw [← hyb]; exact Nat.le_refl _
            rw [hyb] at HYB ⊢
            clear hwy hyb hMx hBA hA qA0 qA1
            have HLN := Lib.hid (show ts.length + tsx.length ≤ 6000 by
              have e1 := congrArg (fun x : List Tok × List UInt8 => x.1.length) HNX.out
              have e2 := (feed_size (S.data.toList.take n)).1
              simp only [List.length_map, List.length_append, List.length_take, size_list] at e1 e2
              omega)
            go_wp2_with (at_builtin; refine wpList_appTG rfl _ _ rfl w_4.heap.size w_4 _ ts rfl (HMT.out.later HBY.out) _ _ tsx rfl (readsT_of HMY.out (Nat.le_refl _)) ?ci ?cn ?cl ?_)
            case ci => intro p hp; exact (HMY.out.inn p hp).mono (by omega) (Nat.le_refl _)
            case cn => exact List.nodup_append.2 ⟨HMT.out.nod, HMY.out.nod, fun a ha b hb e => by have h1 := (HMT.out.lt a ha).2; have h2 := (HMY.out.lt b hb).1; omega⟩
            case cl => have := HLN.out; omega
            intro v5 w5 hm5 hk5
            have HM5 := Lib.hid hm5
            have HT5 := Lib.hid (hk5 _ _ (below_heap HBY.out hbt HBK.out)); have HY5 := Lib.hid (hk5 _ _ HYB.out)
            clear hm5 hk5
            have qy := (cells_one HY5.out).1; have qt := (cells_one HT5.out).1; have qf := (cells_one HT5.out).2
            go_wp2
            go_roundw
            case rel => exact ⟨n, n + 1, ts ++ tsx, R', rfl, by go_num, by omega, by omega, by omega, by omega, HNX.out, heap_one1 HT5.out, HM5.out.setT HT5.out (by omega)⟩
            case measure => simp [intOf]; omega
      · have hft : (m : Int) ≤ (n : Int) := by omega
        have hf0 : (0 : Int) ≤ (m : Int) := by omega
        have hts' : (n : Int) ≤ (S.size : Int) := by omega
        have KEEP := Lib.hid (fun (w' : World) (h : Below wr.heap.size wr w') => show w'.cell? ⟨w_4.heap.size + 1, 0, none⟩ = some (.string R) from (h.cell hbt).trans HCT.out)
        have HALL := Lib.hid (fun (o : Obj) (wA : World) (h : Below (wr.alloc o).drew.heap.size (wr.alloc o).drew wA) => show Below wr.heap.size wr wA from ((Below.refl _ wr).alloc (Nat.le_refl _) o).drew.trans (h.mono (by show wr.heap.size ≤ (wr.alloc o).heap.size; simp)))
        have HNEW := Lib.hid (show (wr.alloc (.cells #[.string ⟨#[]⟩] 38)).drew.heap[wr.heap.size]? = some (.cells #[.string ⟨#[]⟩] 38 (0, 0)) from heap_alloc_new wr _)
        go_wp2_with fail
        go_region_held3 (fun w' => w'.cell? ⟨w_4.heap.size + 1, 0, none⟩ = some (.string R)) (first
          | exact KEEP.out _ (Below.refl _ _).drew
          | exact KEEP.out _ ((Below.refl _ _).alloc (Nat.le_refl _) _).drew
          | exact KEEP.out _ hBA
          | exact KEEP.out _ (hBA.alloc hBA.size _)
          | exact KEEP.out _ (hBA.setCell (Nat.le_refl _) _)
          | exact KEEP.out _ ((hBA.alloc hBA.size _).setCell hBA.size _))
          (first | (go_at_call 20; refine (feedI_any R _ ?_ _).mono ?_; (exact HFB.out); rintro e wA ⟨vx, tsx, rfl, hx, hMx⟩; have hBA : Below wr.heap.size wr wA := (by first | exact below_undrew hMx.row.below | exact HALL.out _ _ hMx.row.below); (first | (have hA := below_heap hMx.row.below (by show wr.heap.size < (wr.alloc _).heap.size; simp) HNEW.out; have qA0 := (cells_one hA).1; have qA1 := (cells_one hA).2) | skip)))
        all_goals (obtain ⟨R', hR'⟩ : ∃ R', ofL (feedB (R.data.toList ++ List.take (n - m) (List.drop m S.data.toList))).2 = R' := ⟨_, rfl⟩)
        all_goals rw [hR']
        all_goals
          have hnx := feed_more h1 HFD.out
          rw [List.drop_take] at hnx
          have HNX := Lib.hid (show feedB (S.data.toList.take n) = ((ts ++ tsx).map Prod.fst, R'.data.toList) by
            rw [hnx, List.map_append, hx, ← hR']
            simp [extract_eq, ofL_list])
          clear hnx hx hR'
        · obtain ⟨wy, hwy⟩ : ∃ x, wA.alloc (.cells #[.string R'] 38) = x := ⟨_, rfl⟩
          rw [hwy]
          have HBY := Lib.hid (show Below wr.heap.size wr wy by rw [← hwy]; exact hBA.alloc hBA.size _)
          have HMY := Lib.hid (show MineT wr.heap.size wr wy vx tsx by rw [← hwy]; exact MineT.alloc (hMx.rebase (Nat.le_refl _) hBA) _)
          have HYB := Lib.hid (show wy.heap[wA.heap.size]? = some (.cells #[.string R'] 38 (0, 0)) by rw [← hwy]; exact heap_alloc_new _ _)
          obtain ⟨yb, hyb⟩ : ∃ x, wA.heap.size = x := ⟨_, rfl⟩
          rw [hyb] at HYB ⊢
          have hyl : wr.heap.size ≤ yb := by rw [← hyb]; exact hBA.size
          clear hwy hyb hMx hBA
          have HLN := Lib.hid (show ts.length + tsx.length ≤ 6000 by
            have e1 := congrArg (fun x : List Tok × List UInt8 => x.1.length) HNX.out
            have e2 := (feed_size (S.data.toList.take n)).1
            simp only [List.length_map, List.length_append, List.length_take, size_list] at e1 e2
            omega)
          go_wp2_with (at_builtin; refine wpList_appTG rfl _ _ rfl w_4.heap.size w_4 _ ts rfl (HMT.out.later HBY.out) _ _ tsx rfl (readsT_of HMY.out (Nat.le_refl _)) ?ci ?cn ?cl ?_)
          case ci => intro p hp; exact (HMY.out.inn p hp).mono (by omega) (Nat.le_refl _)
          case cn => exact List.nodup_append.2 ⟨HMT.out.nod, HMY.out.nod, fun a ha b hb e => by have h1 := (HMT.out.lt a ha).2; have h2 := (HMY.out.lt b hb).1; omega⟩
          case cl => have := HLN.out; omega
          intro v5 w5 hm5 hk5
          have HM5 := Lib.hid hm5
          have HT5 := Lib.hid (hk5 _ _ (below_heap HBY.out hbt HBK.out)); have HY5 := Lib.hid (hk5 _ _ HYB.out)
          clear hm5 hk5
          have qy := (cells_one HY5.out).1; have qt := (cells_one HT5.out).1; have qf := (cells_one HT5.out).2
          go_wp2
          go_roundw
          case rel => exact ⟨n, n + 1, ts ++ tsx, R', rfl, by go_num, by omega, by omega, by omega, by omega, HNX.out, heap_one1 HT5.out, HM5.out.setT HT5.out (by omega)⟩
          case measure => simp [intOf]; omega
        · obtain ⟨wy, hwy⟩ : ∃ x, wA.setCell ⟨wr.heap.size, 0, none⟩ (.string R') = x := ⟨_, rfl⟩
          rw [hwy]
          have HBY := Lib.hid (show Below wr.heap.size wr wy by rw [← hwy]; exact hBA.setCell (Nat.le_refl _) _)
          have HMY := Lib.hid (show MineT wr.heap.size wr wy vx tsx by rw [← hwy]; exact MineT.setT (hMx.rebase (by show _ ≤ (wr.alloc _).heap.size; simp) hBA) hA (Nat.le_refl _))
          have HYB := Lib.hid (show wy.heap[wr.heap.size]? = some (.cells #[.string R'] 38 (0, 0)) by rw [← hwy]; exact heap_one1 hA)
          obtain ⟨yb, hyb⟩ : ∃ x, wr.heap.size = x := ⟨_, rfl⟩
          have hyl : wr.heap.size ≤ yb := by rw [← hyb]; exact Nat.le_refl _
          rw [hyb] at HYB ⊢
          clear hwy hyb hMx hBA hA qA0 qA1
          have HLN := Lib.hid (show ts.length + tsx.length ≤ 6000 by
            have e1 := congrArg (fun x : List Tok × List UInt8 => x.1.length) HNX.out
            have e2 := (feed_size (S.data.toList.take n)).1
            simp only [List.length_map, List.length_append, List.length_take, size_list] at e1 e2
            omega)
          go_wp2_with (at_builtin; refine wpList_appTG rfl _ _ rfl w_4.heap.size w_4 _ ts rfl (HMT.out.later HBY.out) _ _ tsx rfl (readsT_of HMY.out (Nat.le_refl _)) ?ci ?cn ?cl ?_)
          case ci => intro p hp; exact (HMY.out.inn p hp).mono (by omega) (Nat.le_refl _)
          case cn => exact List.nodup_append.2 ⟨HMT.out.nod, HMY.out.nod, fun a ha b hb e => by have h1 := (HMT.out.lt a ha).2; have h2 := (HMY.out.lt b hb).1; omega⟩
          case cl => have := HLN.out; omega
          intro v5 w5 hm5 hk5
          have HM5 := Lib.hid hm5
          have HT5 := Lib.hid (hk5 _ _ (below_heap HBY.out hbt HBK.out)); have HY5 := Lib.hid (hk5 _ _ HYB.out)
          clear hm5 hk5
          have qy := (cells_one HY5.out).1; have qt := (cells_one HT5.out).1; have qf := (cells_one HT5.out).2
          go_wp2
          go_roundw
          case rel => exact ⟨n, n + 1, ts ++ tsx, R', rfl, by go_num, by omega, by omega, by omega, by omega, HNX.out, heap_one1 HT5.out, HM5.out.setT HT5.out (by omega)⟩
          case measure => simp [intOf]; omega
    · have hn : n = S.size + 1 := by omega
      have hm' : m = S.size := h4 hn
      have HFA := Lib.hid (show feedB S.data.toList = (ts.map Prod.fst, R.data.toList) by
        rw [← HFD.out, hm', List.take_of_length_le (by rw [size_list]; exact Nat.le_refl _)])
      have ct := HCT.out
      go_wp2_with fail
      refine (end_impl R _).mono ?_
      rintro e w_5 ⟨v5, ts5, rfl, hts5, hM5⟩
      have HM5 := Lib.hid hM5
      have HTE := Lib.hid (show (ts ++ ts5).map Prod.fst = ts1.map Prod.fst by
        rw [List.map_append, HT1.out, hts5]
        unfold tokensB
        rw [HFA.out])
      have HB5 := Lib.hid (show Below wr.heap.size wr w_5 from hM5.row.below)
      clear hM5 hts5 ct
      have HLE := Lib.hid (rwT_count HTE.out)
      go_wp2_with (at_builtin; refine wpList_appT rfl _ _ rfl w_4.heap.size w_4 _ ts rfl (HMT.out.later HB5.out) _ _ ts5 rfl (readsT_of HM5.out (Nat.le_refl _)) ?ci ?cn ?cl ?_)
      case ci => intro p hp; exact (HM5.out.inn p hp).mono (by omega) (Nat.le_refl _)
      case cn => exact List.nodup_append.2 ⟨HMT.out.nod, HM5.out.nod, fun a ha b hb e => by have h1 := (HMT.out.lt a ha).2; have h2 := (HM5.out.lt b hb).1; omega⟩
      case cl =>
        have e1 := HLE.out
        rw [List.length_append] at e1
        have e2 := congrArg List.length HT1.out
        have e3 := tokens_size S.data.toList
        rw [List.length_map] at e2
        rw [size_list] at e3
        omega
      have hN6 : N ≤ 6001 := by
        have e2 := congrArg List.length HT1.out
        have e3 := tokens_size S.data.toList
        have e4 := HN.out
        rw [List.length_map] at e2
        rw [size_list] at e3
        omega
      intro v6 w6 hm6
      obtain ⟨U, hU⟩ : ∃ U, ts ++ ts5 = U := ⟨_, rfl⟩
      rw [hU] at hm6 HTE HLE
      obtain ⟨a6, c6, rfl⟩ := hm6.row.own.slice
      have hlu : U.length = N := HLE.out.trans HN.out
      rw [hlu]
      have HM6 := Lib.hid hm6
      have HM16 := Lib.hid (HM14.out.later hm6.row.below)
      have HB6 := Lib.hid (HB4.out.trans (hm6.row.below.mono HB4.out.size))
      have HLU := Lib.hid hlu
      clear hm6 hU hlu HM14
      go_wp2_with fail
      go_loopw [12] (fun i wz => ∃ (k : Nat), k ≤ N ∧ i = .int .i64 k ∧ Below w6.heap.size w6 wz) (fun i _ => N - (intOf i).toNat)
      case atStart => exact ⟨0, Nat.zero_le _, rfl, Below.refl _ _⟩
      case round =>
        obtain ⟨k, hk, rfl, hbz⟩ := hrel
        have HBZ := Lib.hid hbz
        clear hbz
        by_cases hlt : (k : Int) < (N : Int)
        · have mixed : Tryd.prog.follows .mixedOrders = true := by kernel_rfl
          have HMU := HM6.out.later HBZ.out
          have HMW := HM16.out.later HBZ.out
          obtain ⟨p, hp⟩ : ∃ p, U[k]? = some p := ⟨_, List.getElem?_eq_getElem (by have := HLU.out; omega)⟩
          obtain ⟨q, hq⟩ : ∃ q, ts1[k]? = some q := ⟨_, List.getElem?_eq_getElem (by have := HN.out; omega)⟩
          have hpq : q.1 = p.1 := by
            have e1 := congrArg (fun l : List Tok => l[k]?) HTE.out
            simp only [List.getElem?_map, hp, hq, Option.map_some, Option.some.injEq] at e1
            exact e1.symm
          have hmem : p.1 ∈ tokensB S.data.toList := by
            rw [← HT1.out, ← HTE.out]
            exact List.mem_map_of_mem (List.mem_of_getElem? hp)
          have hgood := tokens_good _ _ hmem
          have hsz := tokens_fmt _ _ hmem
          rw [size_list] at hsz
          obtain ⟨g, cg, e, hg, c0, c1, c2, c3, hop⟩ := HMU.tokAt hp
          injection e with e1 e2 e3
          subst e1; subst e3
          obtain ⟨h, ch, e, hh, d0, d1, d2, d3, hoq⟩ := HMW.tokAt hq
          injection e with e1 e4 e3
          subst e1; subst e3
          rw [hpq] at d0 d1 d3 hoq
          obtain ⟨pa, pn, pc, hpe⟩ : ∃ a n c, sv p.2 = .slice a n c := ⟨_, _, _, rfl⟩
          obtain ⟨qa, qn, qc, hqe⟩ : ∃ a n c, sv q.2 = .slice a n c := ⟨_, _, _, rfl⟩
          rw [hpe] at c2 hop
          rw [hqe] at d2 hoq
          obtain ⟨K, hK⟩ : ∃ x, p.1.kind = x := ⟨_, rfl⟩
          obtain ⟨NM, hNM⟩ : ∃ x, p.1.name = x := ⟨_, rfl⟩
          obtain ⟨TX, hTX⟩ : ∃ x, p.1.text = x := ⟨_, rfl⟩
          obtain ⟨AT, hAT⟩ : ∃ x, p.1.attrs = x := ⟨_, rfl⟩
          obtain ⟨V, hV⟩ : ∃ V, ofL (fmtT p.1) = V := ⟨_, rfl⟩
          have hft : ofL (fmtT ⟨K, NM, AT, TX⟩) = V := by rw [← hK, ← hNM, ← hAT, ← hTX]; exact hV
          rw [hK] at c0 d0
          rw [hNM] at c1 d1 hsz
          rw [hTX] at c3 d3
          rw [hAT] at hop hoq hsz
          have hgood' : K = 3 → (V.toList == []) = false := by
            intro hk3
            rcases hgood with h1 | h1
            · rw [hK] at h1; omega
            · refine beq_eq_false_iff_ne.2 fun e => h1.2 ?_
              rw [ByteArray.toList_eq, ← hV] at e
              exact e
          have HRP := Lib.hid (hop.reads encA_len); have HRQ := Lib.hid (hoq.reads encA_len)
          have HF := Lib.hid (fun (p : BelowBy wr) A L C (hr : ReadsK encA 2 wr.heap.size wr (.slice A L C) AT) => show Calls Tryd.prog 12 #[.agg #[.int .i64 K, .string NM, .slice A L C, .string TX]] p.at' fun e w' => e = .returned (.string V) ∧ Below p.at'.heap.size p.at' w' by
            rw [← hft]
            exact fmtI_any K NM A L C wr.heap.size AT TX p.at' (hr.below p.hb (Nat.le_refl _)) p.hb.size (by omega))
          have C0 := cell_below hg c0; have C1 := cell_below hg c1; have C2 := cell_below hg c2; have C3 := cell_below hg c3
          have D0 := cell_below hh d0; have D1 := cell_below hh d1; have D2 := cell_below hh d2; have D3 := cell_below hh d3
          have hk0' : (0 : Int) ≤ (k : Int) := by omega
          have hne : Nonempty (BelowBy wr) := ⟨⟨wr, Below.refl _ _⟩⟩
          by_cases hz : k = 0
          · subst hz
            simp only [Nat.zero_mul, Nat.zero_add] at C0 C1 C2 C3 D0 D1 D2 D3
            clear hgood' hgood hsz hmem hpq hp hq hop hoq hpe hqe hK hNM hTX hAT hV hft c0 c1 c2 c3 d0 d1 d2 d3 HMU HMW e2 e4
            go_wp2_with fail
            refine wp_region_quiet_below mixed (by kernel_rfl) ?_
            repeat (go_big_quiet_step (first | (go_at_call 12; refine Calls.below_of _ (HF.out _ _ _ _ ?_); first | exact HRP.out | exact HRQ.out)))
            refine wpQuiet_nil ?_
            intro _ hw'
            obtain ⟨⟨wy, hbz⟩, hw''⟩ := hw'
            subst hw''
            clear C0 C1 C2 C3 D0 D1 D2 D3
            go_wp2_with fail
            go_roundw
            case rel => exact ⟨0 + 1, by omega, by go_num, HBZ.out.trans (hbz.mono HBZ.out.size)⟩
            case measure => simp [intOf]; omega
          · obtain ⟨p', hp'⟩ : ∃ p', U[k - 1]? = some p' := ⟨_, List.getElem?_eq_getElem (by have := HLU.out; omega)⟩
            obtain ⟨g', cg', e, hg', b0, -, -, -, -⟩ := HMU.tokAt hp'
            injection e with e1 e5 e6
            injection e1 with e1
            injection e1 with e1 e7 e8
            subst e1
            obtain ⟨K', hK'⟩ : ∃ x, p'.1.kind = x := ⟨_, rfl⟩
            rw [hK'] at b0
            have B0 := cell_below hg b0
            have hi0 : (0 : Int) ≤ (k : Int) - 1 := by omega
            have hi1 : (k : Int) - 1 < (N : Int) := by omega
            have hkp : (0 : Int) < (k : Int) := by omega
            have hkn : 0 < k := by omega
            have hkd : decide (0 < k) = true := decide_eq_true hkn
            have hkd2 : decide ((0 : Int) < (k : Int)) = true := decide_eq_true hkp
            clear hgood hsz hmem hpq hp hq hop hoq hpe hqe hK hNM hTX hAT hV hft c0 c1 c2 c3 d0 d1 d2 d3 HMU HMW e2 e4 e5 e6 hp' hK' b0 hg'
            by_cases h3 : K = 3
            · subst h3
              have hv := hgood' rfl
              clear hgood'
              by_cases h3' : K' = 3
              · subst h3'
                go_wp2_with fail
                refine wp_region_quiet_below mixed (by kernel_rfl) ?_
                repeat (go_big_quiet_step (first | (go_at_call 12; refine Calls.below_of _ (HF.out _ _ _ _ ?_); first | exact HRP.out | exact HRQ.out)))
                refine wpQuiet_nil ?_
                intro _ hw'
                obtain ⟨⟨wy, hbz⟩, hw''⟩ := hw'
                subst hw''
                clear C0 C1 C2 C3 D0 D1 D2 D3
                go_wp2_with fail
                go_roundw
                case rel => exact ⟨k + 1, by omega, by go_num, HBZ.out.trans (hbz.mono HBZ.out.size)⟩
                case measure => simp [intOf]; omega
              · have hb' : (K' == 3) = false := beq_eq_false_iff_ne.2 h3'
                clear h3' hv
                go_wp2_with fail
                refine wp_region_quiet_below mixed (by kernel_rfl) ?_
                repeat (go_big_quiet_step (first | (go_at_call 12; refine Calls.below_of _ (HF.out _ _ _ _ ?_); first | exact HRP.out | exact HRQ.out)))
                refine wpQuiet_nil ?_
                intro _ hw'
                obtain ⟨⟨wy, hbz⟩, hw''⟩ := hw'
                subst hw''
                clear C0 C1 C2 C3 D0 D1 D2 D3
                go_wp2_with fail
                go_roundw
                case rel => exact ⟨k + 1, by omega, by go_num, HBZ.out.trans (hbz.mono HBZ.out.size)⟩
                case measure => simp [intOf]; omega
            · have hb3 : (K == 3) = false := beq_eq_false_iff_ne.2 h3
              clear h3 hgood'
              go_wp2_with fail
              refine wp_region_quiet_below mixed (by kernel_rfl) ?_
              repeat (go_big_quiet_step (first | (go_at_call 12; refine Calls.below_of _ (HF.out _ _ _ _ ?_); first | exact HRP.out | exact HRQ.out)))
              refine wpQuiet_nil ?_
              intro _ hw'
              obtain ⟨⟨wy, hbz⟩, hw''⟩ := hw'
              subst hw''
              clear C0 C1 C2 C3 D0 D1 D2 D3
              go_wp2_with fail
              go_roundw
              case rel => exact ⟨k + 1, by omega, by go_num, HBZ.out.trans (hbz.mono HBZ.out.size)⟩
              case measure => simp [intOf]; omega
        · go_wp2
          go_ret
          exact ⟨rfl, HB6.out.trans (HBZ.out.mono HB6.out.size)⟩

theorem pieces_all (a : Option Addr) (len cap : Nat) (zs : List Int) (w : World) (h : IsRow .u8 w a len cap zs) :
    Calls Tryd.prog 4 #[.slice a len cap] w fun e w' => e = .returned (.bool true) ∧ Below w.heap.size w w' := by
  by_cases hb : (1048576 : Int) < (len : Int)
  · go_enter Tryd.func4, Tryd.ntmps4
    go_wp2_with fail
    refine (big_yes a len cap _ hb).mono ?_
    rintro e w' ⟨rfl, rfl⟩
    go_wp2_with fail
    go_ret
    exact ⟨rfl, Below.refl _ _⟩
  · exact walkPieces a len cap w (code_of_row h (by omega)) hb
end Go.Proofs.YtbegfdfdilnjdaaDoor
