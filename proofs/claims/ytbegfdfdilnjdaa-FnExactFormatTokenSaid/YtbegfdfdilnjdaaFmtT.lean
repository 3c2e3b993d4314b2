/- Helper contracts: FormatToken of the program and of the model answer alike. Asked: the attributes read as the list named, and the token's strings are shorter than 2^30 bytes together. -/
import Derived.Test.YtbegfdfdilnjdaaShelfJ
import Derived.Test.YtbegfdfdilnjdaaTagP
import Derived.Lib.Join
namespace Go.Proofs.Ytbegfdfdilnjdaa
open Go.ChangeShapes Go.WideShapes Go.ChangeAt Go.RowKit

theorem fmtAs_one (a : At) : fmtAs [a] = 32 :: a.1.data.toList ++ 61 :: a.2.data.toList := by
  show 32 :: _ ++ _ ++ fmtAs [] = _
  simp [fmtAs]
theorem fmtAs_take {xs : List At} {j : Nat} {a : At} (h : xs[j]? = some a) : fmtAs (xs.take (j + 1)) = fmtAs (xs.take j) ++ (32 :: a.1.data.toList ++ 61 :: a.2.data.toList) := by
  rw [List.take_add_one, h, Option.toList_some, fmtAs_append, fmtAs_one]
theorem fmtAs_len : ∀ xs : List At, (fmtAs xs).length = 2 * xs.length + (xs.map fun a => a.1.size + a.2.size).sum
  | [] => rfl
  | a :: xs => by
    show (32 :: _ ++ _ ++ fmtAs xs).length = _
    rw [List.length_append, List.length_append, List.length_cons, List.length_cons, fmtAs_len xs, List.map_cons, List.sum_cons, List.length_cons, size_list, size_list]; omega
theorem fmtAs_le {xs : List At} (j : Nat) : (fmtAs (xs.take j)).length ≤ (fmtAs xs).length := by
  conv => rhs; rw [← List.take_append_drop j xs, fmtAs_append, List.length_append]
  omega
theorem fmtAs_at {xs : List At} {j : Nat} {a : At} (h : xs[j]? = some a) : a.1.size + a.2.size ≤ (fmtAs xs).length := by
  have h1 := fmtAs_le (xs := xs) (j + 1)
  rw [fmtAs_take h] at h1
  simp only [List.length_append, List.length_cons, size_list] at h1
  omega
/-- The form up to the first j attributes. -/
def fmtTo (n : ByteArray) (xs : List At) (j : Nat) : ByteArray := ofL (60 :: (n.data.toList ++ fmtAs (xs.take j)))
theorem fmtTo_zero (n : ByteArray) (xs : List At) : (⟨#[60]⟩ : ByteArray) ++ n = fmtTo n xs 0 := bytesEq (by rw [append_list, fmtTo, ofL_list, List.take_zero]; simp [fmtAs])
theorem fmtTo_succ {n : ByteArray} {xs : List At} {j : Nat} {a : At} (h : xs[j]? = some a) : fmtTo n xs j ++ ⟨#[32]⟩ ++ a.1 ++ ⟨#[61]⟩ ++ a.2 = fmtTo n xs (j + 1) := bytesEq (by
  rw [append_list, append_list, append_list, append_list, fmtTo, fmtTo, ofL_list, ofL_list, fmtAs_take h]
  simp)
theorem fmtTo_size {n : ByteArray} {xs : List At} (j : Nat) (h : n.size + (fmtAs xs).length ≤ 1073741824) : (fmtTo n xs j).size ≤ 1073741825 := by
  rw [fmtTo, ofL_size, List.length_cons, List.length_append, size_list]
  have := fmtAs_le (xs := xs) j
  omega
theorem fmtT_open (n : ByteArray) (xs : List At) (t : ByteArray) {j : Nat} (h : xs.length ≤ j) : fmtTo n xs j ++ ⟨#[62]⟩ = ofL (fmtT ⟨1, n, xs, t⟩) := bytesEq (by
  rw [append_list, fmtTo, ofL_list, ofL_list, List.take_of_length_le h]
  simp [fmtT])
theorem fmtT_close (n : ByteArray) (xs : List At) (t : ByteArray) : (⟨#[60, 47]⟩ : ByteArray) ++ n ++ ⟨#[62]⟩ = ofL (fmtT ⟨2, n, xs, t⟩) := bytesEq (by
  rw [append_list, append_list, ofL_list]
  simp [fmtT])
theorem fmtT_text (n : ByteArray) (xs : List At) (t : ByteArray) : t = ofL (fmtT ⟨3, n, xs, t⟩) := by
  rw [show fmtT ⟨3, n, xs, t⟩ = t.data.toList from rfl, ofL_of]
theorem fmtT_none {k : Int} (n : ByteArray) (xs : List At) (t : ByteArray) (h1 : k ≠ 1) (h2 : k ≠ 2) (h3 : k ≠ 3) : (⟨#[]⟩ : ByteArray) = ofL (fmtT ⟨k, n, xs, t⟩) := by
  unfold fmtT
  rw [if_neg h1, if_neg h2, if_neg h3]; rfl

set_option maxRecDepth 100000 in
set_option maxHeartbeats 4000000 in
theorem fmtS_any (k : Int) (n : ByteArray) (a : Option Addr) (len cap hi : Nat) (xs : List At) (t : ByteArray) (w : World) (hr : ReadsK encA 2 hi w (.slice a len cap) xs) (hh : hi ≤ w.heap.size) (hn : n.size + (fmtAs xs).length ≤ 1073741824) :
    Calls Try.prog 10 #[.agg #[.int .i64 k, .string n, .slice a len cap, .string t]] w fun e w' => e = .returned (.string (ofL (fmtT ⟨k, n, xs, t⟩))) ∧ Grw w w' := by
  obtain ⟨a', cap', he, hc1, hc2, _, hcells⟩ := hr
  injection he with e1 e2 e3
  subst e1; subst e2; subst e3
  have HC := Lib.hid hcells; clear hcells
  obtain ⟨N, hN⟩ : ∃ N, xs.length = N := ⟨_, rfl⟩
  rw [hN] at hc1 HC ⊢
  have HN := Lib.hid hN; clear hN
  obtain ⟨W0, hW0⟩ : ∃ W, w.alloc (.cells #[.int .i64 k, .string n, .slice a N cap, .string t] 30) = W := ⟨_, rfl⟩
  have HG0 := Lib.hid (show Grw w W0 by rw [← hW0]; exact (Grw.refl w).alloc _)
  by_cases h1 : k = 1
  · subst h1
    have hbox := heap_alloc_new w (.cells #[.int .i64 1, .string n, .slice a N cap, .string t] 30)
    rw [hW0] at hbox
    obtain ⟨⟨b0, b1, b2, b3⟩, _⟩ := cells_four hbox
    have HB2 := Lib.hid b2; have HBL := Lib.hid (heap_lt hbox)
    have HZ := Lib.hid (fmtTo_zero n xs)
    have hns : n.size ≤ 1073741824 := by omega
    have HW0 := Lib.hid hW0; have HNN := Lib.hid hn
    clear hbox hW0 hn b0 b1 b2 b3
    go_enter Try.func10, Try.ntmps10
    go_wp2_with fail
    rw [HW0.out, HZ.out]
    go_loopw [3, 4] (fun s i wr => ∃ (j : Nat), j ≤ N ∧ i = .int .i64 j ∧ s = .string (fmtTo n xs j) ∧ Grw W0 wr)
      (fun _ i _ => N - (intOf i).toNat)
    case atStart => exact ⟨0, Nat.zero_le _, rfl, rfl, Grw.refl _⟩
    case round =>
      obtain ⟨j, hj, rfl, rfl, hg⟩ := hrel
      have HG := Lib.hid hg; clear hg
      have q2 : wr.cell? ⟨w.heap.size, 2, none⟩ = some (.slice a N cap) := by rw [HG.out.below.cell HBL.out]; exact HB2.out
      have hS := fmtTo_size j HNN.out
      by_cases hlt : (j : Int) < (N : Int)
      · rcases HC.out with h0 | ⟨g, off, rfl, hg, hcells⟩
        · omega
        · obtain ⟨x, y, hx⟩ := at_at (xs := xs) (j := j) (by have := HN.out; omega)
          have hxy := fmtAs_at hx
          have c0 : wr.cell? ⟨g, off + j * 2, none⟩ = some (.string x) := by rw [(HG0.out.trans HG.out).below.cell (show g < _ by omega)]; exact hcells j _ hx 0 (by omega)
          have c1 : wr.cell? ⟨g, off + j * 2 + 1, none⟩ = some (.string y) := by rw [(HG0.out.trans HG.out).below.cell (show g < _ by omega)]; exact hcells j _ hx 1 (by omega)
          have HSU := Lib.hid (fmtTo_succ (n := n) hx)
          obtain ⟨S, hSS⟩ : ∃ S, fmtTo n xs j = S := ⟨_, rfl⟩
          rw [hSS] at HSU hS ⊢
          have hx1 : x.size ≤ 1073741824 := by have := HNN.out; simp only at hxy; omega
          have hy1 : y.size ≤ 1073741824 := by have := HNN.out; simp only at hxy; omega
          clear hcells hx hSS hxy
          go_wp2
          go_quiet (fail)
          go_wp2
          go_roundw
          case rel => exact ⟨j + 1, by omega, by go_num, by rw [← HSU.out], HG.out.drewN _⟩
          case measure => simp [intOf] <;> omega
      · have hjn : N ≤ j := by omega
        have HE := Lib.hid (fmtT_open n xs t (j := j) (by have := HN.out; omega))
        obtain ⟨S, hSS⟩ : ∃ S, fmtTo n xs j = S := ⟨_, rfl⟩
        rw [hSS] at HE hS ⊢
        clear hSS
        go_wp2
        go_ret
        exact ⟨by rw [← HE.out]; rfl, HG0.out.trans HG.out⟩
  · have k1 : (k == 1) = false := beq_eq_false_iff_ne.2 h1
    have HW0 := Lib.hid hW0
    by_cases h2 : k = 2
    · subst h2
      have HE := Lib.hid (fmtT_close n xs t)
      have hns : n.size ≤ 1073741824 := by omega
      clear hW0 hn h1
      go_enter Try.func10, Try.ntmps10
      go_wp2_with fail
      go_ret
      exact ⟨by rw [← HE.out]; rfl, by rw [HW0.out]; exact HG0.out⟩
    · have k2 : (k == 2) = false := beq_eq_false_iff_ne.2 h2
      by_cases h3 : k = 3
      · subst h3
        have HE := Lib.hid (fmtT_text n xs t)
        clear hW0 hn h1 h2
        go_enter Try.func10, Try.ntmps10
        go_wp2_with fail
        go_ret
        exact ⟨by rw [← HE.out]; rfl, by rw [HW0.out]; exact HG0.out⟩
      · have k3 : (k == 3) = false := beq_eq_false_iff_ne.2 h3
        have HE := Lib.hid (fmtT_none n xs t h1 h2 h3)
        clear hW0 hn h1 h2 h3
        go_enter Try.func10, Try.ntmps10
        go_wp2_with fail
        go_ret
        exact ⟨by rw [← HE.out]; rfl, by rw [HW0.out]; exact HG0.out⟩
end Go.Proofs.Ytbegfdfdilnjdaa
