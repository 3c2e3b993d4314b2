/- Helper contracts: FormatToken of the program. Asked: the attributes read as the list named, and the token's strings are shorter than 2^30 bytes together. -/
import Derived.Test.YtbegfdfdilnjdaaDoorFmtT
import Derived.Test.YtbegfdfdilnjdaaDoorSpl
namespace Go.Proofs.YtbegfdfdilnjdaaDoor
open Go.ChangeShapes Go.WideShapes Go.ChangeAt Go.RowKit

theorem as_o_o (v : Value) (w : World) : (Instr.typeAssert (.iface 70 v) 59 70 true).run Tryd.prog w = .ok (.tuple #[v, .bool true]) w := by kernel_rfl
theorem as_c_o (v : Value) (w : World) : (Instr.typeAssert (.iface 73 v) 59 70 true).run Tryd.prog w = .ok (.tuple #[.agg #[.string ⟨#[]⟩, .slice none 0 0], .bool false]) w := by kernel_rfl
theorem as_c_c (v : Value) (w : World) : (Instr.typeAssert (.iface 73 v) 59 73 true).run Tryd.prog w = .ok (.tuple #[v, .bool true]) w := by kernel_rfl
theorem as_p_o (v : Value) (w : World) : (Instr.typeAssert (.iface 75 v) 59 70 true).run Tryd.prog w = .ok (.tuple #[.agg #[.string ⟨#[]⟩, .slice none 0 0], .bool false]) w := by kernel_rfl
theorem as_p_c (v : Value) (w : World) : (Instr.typeAssert (.iface 75 v) 59 73 true).run Tryd.prog w = .ok (.tuple #[.agg #[.string ⟨#[]⟩], .bool false]) w := by kernel_rfl
theorem as_p_p (v : Value) (w : World) : (Instr.typeAssert (.iface 75 v) 59 75 true).run Tryd.prog w = .ok (.tuple #[v, .bool true]) w := by kernel_rfl
theorem as_n_o (w : World) : (Instr.typeAssert .nilIface 59 70 true).run Tryd.prog w = .ok (.tuple #[.agg #[.string ⟨#[]⟩, .slice none 0 0], .bool false]) w := by kernel_rfl
theorem as_n_c (w : World) : (Instr.typeAssert .nilIface 59 73 true).run Tryd.prog w = .ok (.tuple #[.agg #[.string ⟨#[]⟩], .bool false]) w := by kernel_rfl
theorem as_n_p (w : World) : (Instr.typeAssert .nilIface 59 75 true).run Tryd.prog w = .ok (.tuple #[.agg #[.string ⟨#[]⟩], .bool false]) w := by kernel_rfl

/-- What markupOf answers. -/
def mkOf (k : Int) (n : ByteArray) (a : Option Addr) (len cap : Nat) (t : ByteArray) : Value :=
  if k = 1 then .iface 70 (.agg #[.string n, .slice a len cap]) else if k = 2 then .iface 73 (.agg #[.string n]) else if k = 3 then .iface 75 (.agg #[.string t]) else .nilIface
set_option maxRecDepth 100000 in
set_option maxHeartbeats 1000000 in
theorem mkOf_any (k : Int) (n : ByteArray) (a : Option Addr) (len cap : Nat) (t : ByteArray) (w : World) :
    Calls Tryd.prog 40 #[.agg #[.int .i64 k, .string n, .slice a len cap, .string t]] w fun e w' => e = .returned (mkOf k n a len cap t) ∧ Grw w w' := by
  have HG := Lib.hid ((Grw.refl w).alloc (.cells #[.int .i64 k, .string n, .slice a len cap, .string t] 27))
  by_cases h1 : k = 1
  · subst h1
    go_enter Tryd.func40, Tryd.ntmps40
    go_wp2
    go_ret
    exact ⟨rfl, HG.out⟩
  · have k1 : (k == 1) = false := beq_eq_false_iff_ne.2 h1
    by_cases h2 : k = 2
    · subst h2
      go_enter Tryd.func40, Tryd.ntmps40
      go_wp2
      go_ret
      exact ⟨rfl, HG.out⟩
    · have k2 : (k == 2) = false := beq_eq_false_iff_ne.2 h2
      by_cases h3 : k = 3
      · subst h3
        go_enter Tryd.func40, Tryd.ntmps40
        go_wp2
        go_ret
        exact ⟨rfl, HG.out⟩
      · have k3 : (k == 3) = false := beq_eq_false_iff_ne.2 h3
        have HE := Lib.hid (show mkOf k n a len cap t = .nilIface by unfold mkOf; rw [if_neg h1, if_neg h2, if_neg h3])
        clear h1 h2 h3
        go_enter Tryd.func40, Tryd.ntmps40
        go_wp2
        go_ret
        exact ⟨by rw [HE.out]; rfl, HG.out⟩

/-- The words of a tag. -/
def attrW (a : At) : ByteArray := a.1 ++ ⟨#[61]⟩ ++ a.2
theorem join_words (n : ByteArray) (xs : List At) : Lib.join ((n :: xs.map attrW).map (·.data.toList)) [32] = n.data.toList ++ fmtAs xs := by
  rw [List.map_cons, Lib.join_cons]
  congr 1
  unfold Lib.joinTail
  induction xs with
  | nil => rfl
  | cons a xs ih =>
    rw [List.map_cons, List.map_cons, List.map_cons, List.flatten_cons, ih]
    show _ = 32 :: _ ++ _ ++ fmtAs xs
    rw [attrW, append_list, append_list]
    simp
theorem words_more {n : ByteArray} {xs : List At} {j : Nat} {a : At} (h : xs[j]? = some a) : n :: ((xs.map attrW).take j ++ [a.1 ++ ⟨#[61]⟩ ++ a.2]) = n :: (xs.map attrW).take (j + 1) := by
  rw [List.take_add_one, List.getElem?_map, h]; rfl
theorem fmt_joined (n : ByteArray) (xs : List At) (t : ByteArray) : (⟨#[60]⟩ : ByteArray) ++ ⟨(n.data.toList ++ fmtAs xs).toArray⟩ ++ ⟨#[62]⟩ = ofL (fmtT ⟨1, n, xs, t⟩) := bytesEq (by
  rw [append_list, append_list, ofL_list]
  simp [fmtT])

theorem readsS_at (w : World) (H : Nat) (hH : w.heap.size = H) (s : ByteArray) : ReadsK encS 1 (H + 1) (w.alloc (.cells #[.string s] 9)) (.slice (some ⟨H, 0, none⟩) 1 1) [s] := by
  subst hH; exact readsS_one w s
set_option maxRecDepth 100000 in
set_option maxHeartbeats 4000000 in
theorem fmtI_any (k : Int) (n : ByteArray) (a : Option Addr) (len cap hi : Nat) (xs : List At) (t : ByteArray) (w : World) (hr : ReadsK encA 2 hi w (.slice a len cap) xs) (hh : hi ≤ w.heap.size) (hn : n.size + (fmtAs xs).length ≤ 1073741824) :
    Calls Tryd.prog 12 #[.agg #[.int .i64 k, .string n, .slice a len cap, .string t]] w fun e w' => e = .returned (.string (ofL (fmtT ⟨k, n, xs, t⟩))) ∧ Below w.heap.size w w' := by
  obtain ⟨a', cap', he, hc1, hc2, _, hcells⟩ := hr
  injection he with e1 e2 e3
  subst e1; subst e2; subst e3
  have HC := Lib.hid hcells; clear hcells
  obtain ⟨N, hN⟩ : ∃ N, xs.length = N := ⟨_, rfl⟩
  rw [hN] at hc1 HC ⊢
  have HN := Lib.hid hN; clear hN
  have HMK := Lib.hid (fun W => mkOf_any k n a N cap t W)
  have HB0 := Lib.hid ((Below.refl w.heap.size w).alloc (Nat.le_refl _) (.cells #[.int .i64 k, .string n, .slice a N cap, .string t] 27))
  by_cases h1 : k = 1
  · subst h1
    have hmk : mkOf 1 n a N cap t = .iface 70 (.agg #[.string n, .slice a N cap]) := rfl
    rw [hmk] at HMK
    have HNN := Lib.hid hn
    have hns : n.size ≤ 1073741824 := by omega
    have o1 := as_o_o (.agg #[.string n, .slice a N cap])
    clear hmk hn
    go_enter Tryd.func12, Tryd.ntmps12
    go_wp2_with fail
    refine (HMK.out _).mono ?_
    rintro e w1 ⟨rfl, hg1⟩
    have HB1 := Lib.hid (HB0.out.trans (hg1.below.mono HB0.out.size))
    clear hg1
    have HIN := Lib.hid (show MineK encS 1 9 w.heap.size w ((w1.alloc (.cells #[.string n, .slice a N cap] 70)).alloc (.cells #[.string n] 9)) (.slice (some ⟨w1.heap.size + 1, 0, none⟩) 1 1) [n] by
      have h1 := HB1.out.alloc HB1.out.size (.cells #[.string n, .slice a N cap] 70)
      have h2 := h1.alloc h1.size (.cells #[.string n] 9)
      have h3 := World.ownsRow_lit (base := w.heap.size) (e := 9) (size := 1) (w1.alloc (.cells #[.string n, .slice a N cap] 70)) #[.string n] 1 h1.size (by decide) (by simp)
      rw [size_alloc] at h3
      exact ⟨h3, h2, h2.size⟩)
    go_wp2_with fail
    go_loopw [4, 20] (fun v i wr => ∃ (j : Nat), j ≤ N ∧ i = .int .i64 j ∧ MineK encS 1 9 w.heap.size w wr v (n :: (xs.map attrW).take j))
      (fun _ i _ => N - (intOf i).toNat)
    case atStart => exact ⟨0, Nat.zero_le _, rfl, HIN.out⟩
    case round =>
      obtain ⟨j, hj, rfl, hM⟩ := hrel
      have HM := Lib.hid hM; clear hM HIN
      by_cases hlt : (j : Int) < (N : Int)
      · rcases HC.out with h0 | ⟨g, off, rfl, hg, hcells⟩
        · omega
        · obtain ⟨x, y, hx⟩ := at_at (xs := xs) (j := j) (by have := HN.out; omega)
          have hxy := fmtAs_at hx
          have c0 : wr.cell? ⟨g, off + j * 2, none⟩ = some (.string x) := by rw [HM.out.below.cell (show g < _ by omega)]; exact hcells j _ hx 0 (by omega)
          have c1 : wr.cell? ⟨g, off + j * 2 + 1, none⟩ = some (.string y) := by rw [HM.out.below.cell (show g < _ by omega)]; exact hcells j _ hx 1 (by omega)
          have HWM := Lib.hid (words_more (n := n) hx)
          have hx1 : x.size ≤ 1073741824 := by have := HNN.out; simp only at hxy; omega
          have hy1 : y.size ≤ 1073741824 := by have := HNN.out; simp only at hxy; omega
          have HLE := Lib.hid (show xs.length ≤ 1073741824 by have := fmtAs_len xs; have := HNN.out; omega)
          clear hcells hx hxy
          go_wp2_with (at_builtin; refine wpList_appS rfl _ _ rfl w.heap.size w _ (n :: (xs.map attrW).take j) rfl ((HM.out.alloc _).alloc _) _ _ [x ++ ⟨#[61]⟩ ++ y] rfl (readsS_at (wr.alloc _) (wr.heap.size + 1) (size_alloc _ _) (x ++ ⟨#[61]⟩ ++ y)) ?c3 ?_)
          case c3 => have := HLE.out; simp; omega
          intro v2 w2 hm2
          have HM2 := Lib.hid (show MineK encS 1 9 w.heap.size w w2 v2 (n :: (xs.map attrW).take (j + 1)) by rw [← HWM.out]; exact hm2)
          clear hm2
          go_wp2
          go_roundw
          case rel => exact ⟨j + 1, by omega, by go_num, HM2.out⟩
          case measure => simp [intOf] <;> omega
      · have hww : (n :: (xs.map attrW).take j) = n :: xs.map attrW := by rw [List.take_of_length_le (by rw [List.length_map]; have := HN.out; omega)]
        have hM := HM.out
        rw [hww] at hM
        obtain ⟨bk, c, rfl, _, hbk, hbw, hcp, hcp2, hcl⟩ := hM.own.strAt (by simp)
        have hjl : (Lib.join ((n :: xs.map attrW).map (·.data.toList)) [32]).length ≤ 1073741824 := by rw [join_words, List.length_append, size_list]; exact HNN.out
        have hxl : xs.length ≤ 1073741824 := by have := fmtAs_len xs; have := HNN.out; omega
        have hJ := Tryd.strings_Join bk 0 c (n :: xs.map attrW) ⟨#[32]⟩ wr (fun i x hi => by rw [Nat.zero_add]; exact hcl i x hi) hbw (by rw [List.length_cons, List.length_map]; omega) hcp (Nat.le_trans hjl (by decide))
        rw [show (⟨#[32]⟩ : ByteArray).data.toList = [32] from rfl, join_words] at hJ
        have HE := Lib.hid (fmt_joined n xs t)
        have hjs : (⟨(n.data.toList ++ fmtAs xs).toArray⟩ : ByteArray).size ≤ 1073741824 := by
          show (n.data.toList ++ fmtAs xs).toArray.size ≤ _
          rw [List.size_toArray, List.length_append, size_list]; exact HNN.out
        obtain ⟨J, hJJ⟩ : ∃ J : ByteArray, ⟨(n.data.toList ++ fmtAs xs).toArray⟩ = J := ⟨_, rfl⟩
        obtain ⟨LW, hLW⟩ : ∃ l, (n :: xs.map attrW).length = l := ⟨_, rfl⟩
        rw [hJJ] at hJ HE hjs
        rw [hLW] at hJ ⊢
        have HJ := Lib.hid hJ
        clear hJ hcl hcp hjl hxl hJJ hLW hww hM
        go_wp2_with fail
        refine HJ.out.mono ?_
        rintro e w2 ⟨rfl, hb2⟩
        have HB2 := Lib.hid (HM.out.below.trans (hb2.mono HM.out.size))
        clear hb2
        go_wp2_with fail
        go_ret
        exact ⟨by rw [← HE.out]; rfl, HB2.out⟩
  · have hne1 := h1
    by_cases h2 : k = 2
    · subst h2
      have hmk : mkOf 2 n a N cap t = .iface 73 (.agg #[.string n]) := rfl
      rw [hmk] at HMK
      have o1 := as_c_o (.agg #[.string n])
      have o2 := as_c_c (.agg #[.string n])
      have HE := Lib.hid (fmtT_close n xs t)
      have hns : n.size ≤ 1073741824 := by omega
      clear hmk hn h1 hne1
      go_enter Tryd.func12, Tryd.ntmps12
      go_wp2_with fail
      refine (HMK.out _).mono ?_
      rintro e w1 ⟨rfl, hg1⟩
      have HB1 := Lib.hid (HB0.out.trans (hg1.below.mono HB0.out.size))
      clear hg1
      go_wp2_with fail
      go_ret
      exact ⟨by rw [← HE.out]; rfl, HB1.out.alloc HB1.out.size _⟩
    · by_cases h3 : k = 3
      · subst h3
        have hmk : mkOf 3 n a N cap t = .iface 75 (.agg #[.string t]) := rfl
        rw [hmk] at HMK
        have o1 := as_p_o (.agg #[.string t])
        have o2 := as_p_c (.agg #[.string t])
        have o3 := as_p_p (.agg #[.string t])
        have HE := Lib.hid (fmtT_text n xs t)
        clear hmk hn h1 hne1 h2
        go_enter Tryd.func12, Tryd.ntmps12
        go_wp2_with fail
        refine (HMK.out _).mono ?_
        rintro e w1 ⟨rfl, hg1⟩
        have HB1 := Lib.hid (HB0.out.trans (hg1.below.mono HB0.out.size))
        clear hg1
        go_wp2_with fail
        go_ret
        exact ⟨by rw [← HE.out]; rfl, HB1.out.alloc HB1.out.size _⟩
      · have hmk : mkOf k n a N cap t = .nilIface := by unfold mkOf; rw [if_neg h1, if_neg h2, if_neg h3]
        rw [hmk] at HMK
        have o1 := as_n_o
        have o2 := as_n_c
        have o3 := as_n_p
        have HE := Lib.hid (fmtT_none n xs t h1 h2 h3)
        clear hmk hn h1 hne1 h2 h3
        go_enter Tryd.func12, Tryd.ntmps12
        go_wp2_with fail
        refine (HMK.out _).mono ?_
        rintro e w1 ⟨rfl, hg1⟩
        have HB1 := Lib.hid (HB0.out.trans (hg1.below.mono HB0.out.size))
        clear hg1
        go_wp2_with fail
        go_ret
        exact ⟨by rw [← HE.out]; rfl, HB1.out⟩
end Go.Proofs.YtbegfdfdilnjdaaDoor
