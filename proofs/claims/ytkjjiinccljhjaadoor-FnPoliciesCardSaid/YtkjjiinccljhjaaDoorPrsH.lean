/- Helper contracts: strings.Cut at the word ahead of a nonce, the hosts behind a word. Asked: the text is no longer than 2^20 bytes; for Cut: the library's MaxLen holds a number. -/
import Derived.Test.YtkjjiinccljhjaaDoorPrsA
import Derived.Test.YtkjjiinccljhjaaDoorPolF
namespace Go.Proofs.YtkjjiinccljhjaaDoor
open Go.ChangeShapes Go.WideShapes Go.ChangeAt Go.RowKit

theorem max0C_of {w : World} (h : w.ShapedOpen Tryd.prog) : Max0 w := Tryd.laysM145.s1_3 w h
theorem cutN_any (s : ByteArray) (hs : s.size ≤ 1048576) (w : World) (hm : Max0 w) :
    Calls Tryd.prog 35 #[.string s, .string ⟨#[59, 110, 111, 110, 99, 101, 32]⟩] w fun e w' => e = .returned (.tuple #[.string (ofL (Lib.cut s.data.toList kNon.data.toList).1), .string (ofL (Lib.cut s.data.toList kNon.data.toList).2.1), .bool (Lib.cut s.data.toList kNon.data.toList).2.2]) ∧ ∃ n, w' = w.drewN n := by
  obtain ⟨m, hm⟩ := hm
  exact Tryd.strings_Cut s ⟨#[59, 110, 111, 110, 99, 101, 32]⟩ m w (by omega) hm
theorem splS_cons (c : UInt8) (l : List UInt8) : ∃ x xs, splS c l = x :: xs := by
  have h : splS c l ≠ [] := by
    unfold splS
    intro e
    have h2 : splitB c l = [] := List.map_eq_nil_iff.1 e
    have := splitB_ne c l
    exact this h2
  cases hs : splS c l with
  | nil => exact absurd hs h
  | cons x xs => exact ⟨x, xs, rfl⟩
theorem own_first {lo hi : Nat} {w : World} {v : Value} {x : ByteArray} {xs : List ByteArray} (h : OwnK encS 1 9 lo hi w v (x :: xs)) : ∃ g n c, v = .slice (some ⟨g, 0, none⟩) n c ∧ 1 ≤ n ∧ n ≤ c ∧ c ≤ 9223372036854775807 := by
  rcases h.1.2 with ⟨_, h0⟩ | ⟨g, cap, cur, e, _, _, hc, hm, _⟩
  · rw [List.length_cons] at h0; omega
  · unfold maxLen at hm
    exact ⟨g, _, cap, e, by rw [List.length_cons]; omega, hc, by omega⟩

set_option maxHeartbeats 1000000 in
theorem readHosts_any (p : ByteArray) (hz : p.size ≤ 1048576) (w : World) :
    Calls Tryd.prog 37 #[.string p] w (NewO ((splS 32 p.data.toList).tail) w) := by
  obtain ⟨x, xs, hx⟩ := splS_cons 32 p.data.toList
  rw [hx, List.tail_cons]
  have HX := Lib.hid hx; clear hx
  go_enter Tryd.func37, Tryd.ntmps37
  go_wp2_with fail
  refine (split_any p 32 (by omega) _).mono ?_
  rintro e w1 ⟨v, rfl, ho, hb⟩
  rw [HX.out] at ho
  obtain ⟨g, n, c, rfl, hn, hc, hcm⟩ := own_first ho
  have HT := Lib.hid (OwnO.tail ho); have HB := Lib.hid hb; clear ho hb
  by_cases h1 : c = 1
  · subst h1
    obtain rfl : n = 1 := by omega
    rw [if_pos rfl] at HT
    go_wp2_with fail
    go_ret
    exact ⟨_, _, _, rfl, HT.out, HB.out⟩
  · rw [if_neg h1] at HT
    have hn1 : (1 : Int) ≤ (n : Int) := by omega
    have hc1 : (n : Int) ≤ (c : Int) := by omega
    go_wp2_with fail
    go_ret
    exact ⟨_, _, _, rfl, HT.out, HB.out⟩
end Go.Proofs.YtkjjiinccljhjaaDoor
