/- Helper contracts over the functions with which the laws draw their inputs out of bytes: whatever the bytes, what is drawn is in range, and of what lay in memory before only the reader's own block is written. -/
import Derived.Test.YtkjjiinccljhjaaDoorRows
import Derived.WalkKit
import Derived.ProofKit
import Derived.OpenShut
import Derived.LoopTactic
import Derived.Lib.Hide
import Derived.Below
import Derived.Laws.Rows
import Derived.Laws.BitsLemmas
import Derived.Deep.QuietTactic
import Derived.BigQuiet
namespace Go.Proofs.YtkjjiinccljhjaaDoor
open Go.ChangeShapes Go.WideShapes Go.ChangeAt Go.RowKit

/-- The bytes that the reader reads: a slice value of length len, each of its cells a byte, below block B. -/
def CodeOk (B : Nat) (w : World) (sv : Value) (len : Nat) : Prop :=
  ∃ (a : Option Addr) (cap : Nat), sv = .slice a len cap ∧ len ≤ 1048576 ∧ (len = 0 ∨ ∃ blk off, a = some ⟨blk, off, none⟩ ∧ blk < B ∧ ∀ j, j < len → ∃ n : Int, 0 ≤ n ∧ n < 256 ∧ w.cell? ⟨blk, off + j, none⟩ = some (.int .u8 n))
/-- Block b is a reader over these bytes. -/
def Cur (b : Nat) (sv : Value) (len : Nat) (w : World) : Prop :=
  ∃ (i : Nat) (h : Int), w.heap[b]? = some (.cells #[sv, .int .i64 i, .int .i64 h] 62 (0, 0)) ∧ i ≤ len ∧ CodeOk b w sv len
/-- Of what lay in memory only block b may have been written; no block is new. -/
structure Only (b : Nat) (w w' : World) : Prop where
  os : w'.os = w.os
  tape : w'.tape = w.tape
  output : w'.output = w.output
  size : w'.heap.size = w.heap.size
  block : ∀ k, k ≠ b → w'.heap[k]? = w.heap[k]?

def ByteOut (b : Nat) (sv : Value) (len : Nat) (w : World) (e : Ending) (w' : World) : Prop :=
  ∃ x : Int, e = .returned (.int .i64 x) ∧ 0 ≤ x ∧ x ≤ 255 ∧ Cur b sv len w' ∧ Only b w w'

theorem and255 (n : Int) : bits .and .i64 n 255 = n % 256 := by
  have h255 : (BitVec.ofInt 64 255).toNat = 2 ^ 8 - 1 := by decide
  have key : (BitVec.ofInt 64 n &&& BitVec.ofInt 64 255).toNat = (n % ((2 ^ 64 : Nat) : Int)).toNat % 2 ^ 8 := by
    rw [BitVec.toNat_and, BitVec.toNat_ofInt, h255, Nat.and_two_pow_sub_one_eq_mod]
  show IntKind.i64.wrap ((BitVec.ofInt 64 n &&& BitVec.ofInt 64 255).toNat : Nat) = n % 256
  rw [key, IntKind.wrap_i64]
  omega
theorem Only.refl (b : Nat) (w : World) : Only b w w := ⟨rfl, rfl, rfl, rfl, fun _ _ => rfl⟩
theorem Only.trans {b : Nat} {w1 w2 w3 : World} (h : Only b w1 w2) (k : Only b w2 w3) : Only b w1 w3 :=
  ⟨k.os.trans h.os, k.tape.trans h.tape, k.output.trans h.output, k.size.trans h.size, fun i hi => (k.block i hi).trans (h.block i hi)⟩
theorem Only.set {b : Nat} {a w : World} (h : Only b a w) (o : Nat) (v : Value) : Only b a (w.setCell ⟨b, o, none⟩ v) :=
  h.trans ⟨rfl, rfl, rfl, by simp [World.setCell], fun k hk => Below.heap_setCell _ _ _ _ hk⟩
theorem Only.drewN {b : Nat} {a w : World} (h : Only b a w) (n : Nat) : Only b a (w.drewN n) := h.trans ⟨rfl, rfl, rfl, rfl, fun _ _ => rfl⟩
theorem Only.cell {b : Nat} {w w' : World} (h : Only b w w') {p : Addr} (hp : p.block ≠ b) : w'.cell? p = w.cell? p := World.cell?_of_block (w := w) (h.block p.block hp)
theorem Only.below {b : Nat} {w w' : World} (h : Only b w w') : Below b w w' := ⟨h.os, h.tape, h.output, by rw [h.size]; exact Nat.le_refl _, fun k hk => h.block k (by omega)⟩
theorem CodeOk.only {b : Nat} {w w' : World} {sv : Value} {len : Nat} (h : CodeOk b w sv len) (k : Only b w w') : CodeOk b w' sv len := by
  obtain ⟨a, cap, e, h1, h2⟩ := h
  refine ⟨a, cap, e, h1, ?_⟩
  rcases h2 with h2 | ⟨blk, off, e2, hb, hc⟩
  · exact Or.inl h2
  · refine Or.inr ⟨blk, off, e2, hb, fun j hj => ?_⟩
    obtain ⟨n, n0, n1, hn⟩ := hc j hj
    exact ⟨n, n0, n1, by rw [k.cell (by show blk ≠ b; omega)]; exact hn⟩
theorem set_at2 {b : Nat} {w : World} {x y z v : Value} {T : TypeId} (h : w.heap[b]? = some (.cells #[x, y, z] T (0, 0))) : (w.setCell ⟨b, 2, none⟩ v).heap[b]? = some (.cells #[x, y, v] T (0, 0)) := by
  rw [heap_setCell_same w b 2 _ T v h]; rfl
theorem set_at1 {b : Nat} {w : World} {x y z v : Value} {T : TypeId} (h : w.heap[b]? = some (.cells #[x, y, z] T (0, 0))) : (w.setCell ⟨b, 1, none⟩ v).heap[b]? = some (.cells #[x, v, z] T (0, 0)) := by
  rw [heap_setCell_same w b 1 _ T v h]; rfl

set_option maxHeartbeats 1000000 in
theorem byte_any (b : Nat) (sv : Value) (len : Nat) (w : World) (hc : Cur b sv len w) :
    Calls Tryd.prog 54 #[.pointer (some ⟨b, 0, none⟩)] w (ByteOut b sv len w) := by
  obtain ⟨i, h, hb, hi, hco⟩ := hc
  obtain ⟨a, cap, hsv, hlen, hcode⟩ := id hco
  subst hsv
  have c0 : w.cell? ⟨b, 0, none⟩ = some (.slice a len cap) := by unfold World.cell?; rw [hb]; rfl
  have c1 : w.cell? ⟨b, 1, none⟩ = some (.int .i64 i) := by unfold World.cell?; rw [hb]; rfl
  have c2 : w.cell? ⟨b, 2, none⟩ = some (.int .i64 h) := by unfold World.cell?; rw [hb]; rfl
  have f1 : w.frozen? ⟨b, 1, none⟩ = false := by unfold World.frozen?; rw [hb]; rfl
  have f2 : w.frozen? ⟨b, 2, none⟩ = false := by unfold World.frozen?; rw [hb]; rfl
  obtain ⟨A, hA⟩ : ∃ A : Int, wrap64 (wrap64 (h * 6364136223846793005) + 1442695040888963407) = A := ⟨_, rfl⟩
  obtain ⟨x, hx⟩ : ∃ x : Int, bits .and .i64 (bits .xor .i64 (A / 8589934592) (A / 140737488355328)) 255 = x := ⟨_, rfl⟩
  obtain ⟨w1, hw1⟩ : ∃ w1 : World, w.setCell ⟨b, 2, none⟩ (.int .i64 A) = w1 := ⟨_, rfl⟩
  have ho1 : Only b w w1 := by rw [← hw1]; exact (Only.refl b w).set 2 _
  have hb1 : w1.heap[b]? = some (.cells #[.slice a len cap, .int .i64 i, .int .i64 A] 62 (0, 0)) := by rw [← hw1]; exact set_at2 hb
  have hx0 : 0 ≤ x ∧ x ≤ 255 := by rw [← hx, and255]; omega
  obtain ⟨hx0, hx1⟩ := hx0
  have d0 : w1.cell? ⟨b, 0, none⟩ = some (.slice a len cap) := by unfold World.cell?; rw [hb1]; rfl
  have d1 : w1.cell? ⟨b, 1, none⟩ = some (.int .i64 i) := by unfold World.cell?; rw [hb1]; rfl
  have d2 : w1.cell? ⟨b, 2, none⟩ = some (.int .i64 A) := by unfold World.cell?; rw [hb1]; rfl
  have g1 : w1.frozen? ⟨b, 1, none⟩ = false := by unfold World.frozen?; rw [hb1]; rfl
  have HB1 := Lib.hid hb1; have HC := Lib.hid (hco.only ho1); have HO := Lib.hid ho1; have HA := Lib.hid hA; have HX := Lib.hid hx; have HW := Lib.hid hw1
  have HD := Lib.hid (show len = 0 ∨ ∃ blk off, a = some ⟨blk, off, none⟩ ∧ blk < b ∧ ∀ j, j < len → ∃ n : Int, 0 ≤ n ∧ n < 256 ∧ w1.cell? ⟨blk, off + j, none⟩ = some (.int .u8 n) from by
    obtain ⟨a', cap', e, _, h2⟩ := HC.out
    cases e
    exact h2)
  clear hb hcode hb1 hco ho1 hA hx hw1
  go_enter Tryd.func54, Tryd.ntmps54
  go_wp2
  rw [HA.out, HW.out]
  clear c0 c1 c2 f1 f2
  go_quiet (fail)
  rw [HX.out]
  go_wp2
  by_cases hil : (i : Int) < (len : Int)
  · have hild : decide ((i : Int) < (len : Int)) = true := decide_eq_true hil
    rcases HD.out with h0 | ⟨blk, off, rfl, hblk, hcells⟩
    · omega
    · obtain ⟨n, n0, n1, hn⟩ := hcells i (by omega)
      clear hcells
      go_quiet (fail)
      go_wp2
      go_quiet (fail)
      go_wp2
      go_ret
      have e1 : (.int .i64 ((i : Int) + 1) : Value) = .int .i64 ((i + 1 : Nat) : Int) := by go_num
      refine ⟨bits .and .i64 (x + n) 255, rfl, by rw [and255]; omega, by rw [and255]; omega, ⟨i + 1, A, ?_, by omega, ?_⟩, ?_⟩
      · rw [← e1]; exact set_at1 HB1.out
      · exact HC.out.only (((Only.refl b w1).set 1 (.int .i64 ((i : Int) + 1))).trans ⟨rfl, rfl, rfl, rfl, fun _ _ => rfl⟩)
      · exact (HO.out.trans ((Only.refl b w1).set 1 (.int .i64 ((i : Int) + 1)))).trans ⟨rfl, rfl, rfl, rfl, fun _ _ => rfl⟩
  · have hild : decide ((i : Int) < (len : Int)) = false := decide_eq_false hil
    go_quiet (fail)
    go_wp2
    go_ret
    exact ⟨x, rfl, hx0, hx1, ⟨i, A, HB1.out, hi, HC.out.only ⟨rfl, rfl, rfl, rfl, fun _ _ => rfl⟩⟩, HO.out.trans ⟨rfl, rfl, rfl, rfl, fun _ _ => rfl⟩⟩

def BelowOut (b : Nat) (sv : Value) (len : Nat) (n : Int) (w : World) (e : Ending) (w' : World) : Prop :=
  ∃ x : Int, e = .returned (.int .i64 x) ∧ 0 ≤ x ∧ (0 < n → x < n) ∧ x ≤ 16777215 ∧ Cur b sv len w' ∧ Only b w w'
theorem rem_bd {x n : Int} (h0 : 0 ≤ x) (hn : 0 < n) : 0 ≤ x % n ∧ x % n < n ∧ x % n ≤ x :=
  by
  have h1 := Int.mul_ediv_add_emod x n
  have h2 := Int.mul_nonneg (show 0 ≤ n by omega) (Int.ediv_nonneg h0 (show 0 ≤ n by omega))
  exact ⟨Int.emod_nonneg _ (by omega), Int.emod_lt_of_pos _ hn, by omega⟩

set_option maxHeartbeats 1000000 in
theorem below_any (b : Nat) (sv : Value) (len : Nat) (n : Int) (w : World) (hc : Cur b sv len w) :
    Calls Tryd.prog 44 #[.pointer (some ⟨b, 0, none⟩), .int .i64 n] w (BelowOut b sv len n w) := by
  have HC := Lib.hid hc; clear hc
  by_cases hn : n ≤ 0
  · go_enter Tryd.func44, Tryd.ntmps44
    go_wp2_with fail
    go_ret
    exact ⟨0, rfl, by omega, by omega, by omega, HC.out, Only.refl _ _⟩
  by_cases hs : n ≤ 256
  · go_enter Tryd.func44, Tryd.ntmps44
    go_wp2_with fail
    refine (byte_any b sv len _ HC.out).mono ?_
    rintro e w1 ⟨x, rfl, hx0, hx1, hc1, ho1⟩
    have HC1 := Lib.hid hc1; have HO1 := Lib.hid ho1; clear hc1 ho1
    obtain ⟨r0, r1, r2⟩ := rem_bd hx0 (show 0 < n by omega)
    have R0 := Lib.hid r0; have R1 := Lib.hid r1; have R2 := Lib.hid r2; clear r0 r1 r2
    go_wp2_with fail
    go_ret
    exact ⟨x % n, rfl, R0.out, fun _ => R1.out, by have := R2.out; omega, HC1.out, HO1.out⟩
  · go_enter Tryd.func44, Tryd.ntmps44
    go_wp2_with fail
    refine (byte_any b sv len _ HC.out).mono ?_
    rintro e w1 ⟨x, rfl, hx0, hx1, hc1, ho1⟩
    have HC1 := Lib.hid hc1; have HO1 := Lib.hid ho1; clear hc1 ho1
    go_wp2_with fail
    refine (byte_any b sv len _ HC1.out).mono ?_
    rintro e w2 ⟨y, rfl, hy0, hy1, hc2, ho2⟩
    have HC2 := Lib.hid hc2; have HO2 := Lib.hid ho2; clear hc2 ho2
    go_wp2_with fail
    refine (byte_any b sv len _ HC2.out).mono ?_
    rintro e w3 ⟨z, rfl, hz0, hz1, hc3, ho3⟩
    have HC3 := Lib.hid hc3; have HO3 := Lib.hid ho3; clear hc3 ho3
    obtain ⟨r0, r1, r2⟩ := rem_bd (show 0 ≤ x * 65536 + y * 256 + z by omega) (show 0 < n by omega)
    have R0 := Lib.hid r0; have R1 := Lib.hid r1; have R2 := Lib.hid r2; clear r0 r1 r2
    go_wp2_with fail
    go_ret
    exact ⟨(x * 65536 + y * 256 + z) % n, rfl, R0.out, fun _ => R1.out, by have := R2.out; omega, HC3.out, (HO1.out.trans HO2.out).trans HO3.out⟩

/-- Of what lay in memory only block b may have been written; there may be new blocks. -/
structure Kept (b : Nat) (w w' : World) : Prop where
  os : w'.os = w.os
  tape : w'.tape = w.tape
  output : w'.output = w.output
  size : w.heap.size ≤ w'.heap.size
  block : ∀ k, k < w.heap.size → k ≠ b → w'.heap[k]? = w.heap[k]?
theorem Kept.refl (b : Nat) (w : World) : Kept b w w := ⟨rfl, rfl, rfl, Nat.le_refl _, fun _ _ _ => rfl⟩
theorem Kept.trans {b : Nat} {w1 w2 w3 : World} (h : Kept b w1 w2) (k : Kept b w2 w3) : Kept b w1 w3 :=
  ⟨k.os.trans h.os, k.tape.trans h.tape, k.output.trans h.output, Nat.le_trans h.size k.size, fun i hi hn => (k.block i (Nat.lt_of_lt_of_le hi h.size) hn).trans (h.block i hi hn)⟩
theorem Only.kept {b : Nat} {w w' : World} (h : Only b w w') : Kept b w w' := ⟨h.os, h.tape, h.output, by rw [h.size]; exact Nat.le_refl _, fun k _ hk => h.block k hk⟩
theorem Kept.alloc (b : Nat) (w : World) (o : Obj) : Kept b w (w.alloc o) := ⟨rfl, rfl, rfl, by simp, fun k hk _ => Below.heap_alloc _ _ _ hk⟩
theorem Kept.below {b : Nat} {w w' : World} (h : Kept b w w') (hb : b ≤ w.heap.size) : Below b w w' := ⟨h.os, h.tape, h.output, h.size, fun k hk => h.block k (by omega) (by omega)⟩
theorem Kept.of_below {b : Nat} {w w' : World} (h : Below w.heap.size w w') : Kept b w w' := ⟨h.os, h.tape, h.output, h.size, fun k hk _ => h.block k hk⟩
theorem lt_heap {w : World} {b : Nat} {o : Obj} (h : w.heap[b]? = some o) : b < w.heap.size := by
  rcases Nat.lt_or_ge b w.heap.size with h' | h'
  · exact h'
  · rw [Array.getElem?_eq_none h'] at h; cases h
theorem Cur.lt {b : Nat} {sv : Value} {len : Nat} {w : World} (h : Cur b sv len w) : b < w.heap.size := by
  obtain ⟨_, _, h1, _, _⟩ := h; exact lt_heap h1
/-- A reader stays one while no old block is written. -/
theorem Cur.below {b : Nat} {sv : Value} {len : Nat} {w w' : World} (h : Cur b sv len w) (k : Below w.heap.size w w') : Cur b sv len w' := by
  have hlt := h.lt
  obtain ⟨i, x, h1, h2, a, cap, e, h3, h4⟩ := h
  refine ⟨i, x, by rw [k.block b hlt]; exact h1, h2, a, cap, e, h3, ?_⟩
  rcases h4 with h4 | ⟨blk, off, e2, hb, hc⟩
  · exact Or.inl h4
  · refine Or.inr ⟨blk, off, e2, hb, fun j hj => ?_⟩
    obtain ⟨n, n0, n1, hn⟩ := hc j hj
    exact ⟨n, n0, n1, by rw [k.cell (by show blk < _; omega)]; exact hn⟩
theorem Cur.alloc {b : Nat} {sv : Value} {len : Nat} {w : World} (h : Cur b sv len w) (o : Obj) : Cur b sv len (w.alloc o) :=
  h.below ((Below.refl _ _).alloc (Nat.le_refl _) _)

def OnceOut (b : Nat) (sv : Value) (len : Nat) (w : World) (e : Ending) (w' : World) : Prop :=
  ∃ x : Bool, e = .returned (.bool x) ∧ Cur b sv len w' ∧ Kept b w w'
theorem once_any (b : Nat) (sv : Value) (len : Nat) (n : Int) (w : World) (hc : Cur b sv len w) :
    Calls Tryd.prog 26 #[.pointer (some ⟨b, 0, none⟩), .int .i64 n] w (OnceOut b sv len w) := by
  have HC := Lib.hid hc; clear hc
  go_enter Tryd.func26, Tryd.ntmps26
  go_wp2_with fail
  refine (below_any b sv len n _ HC.out).mono ?_
  rintro e w1 ⟨x, rfl, hx0, hx1, hx2, hc1, ho1⟩
  have HC1 := Lib.hid hc1; have HO1 := Lib.hid ho1; have HX1 := Lib.hid hx1; clear hc1 ho1 hx1
  go_wp2_with fail
  go_ret
  exact ⟨_, rfl, HC1.out, HO1.out.kept⟩

def NumOut (b : Nat) (sv : Value) (len : Nat) (w : World) (e : Ending) (w' : World) : Prop :=
  ∃ x : Int, e = .returned (.int .i64 x) ∧ -9223372036854775808 ≤ x ∧ x ≤ 9223372036854775807 ∧ Cur b sv len w' ∧ Kept b w w'
def StrOut (b : Nat) (sv : Value) (len : Nat) (w : World) (e : Ending) (w' : World) : Prop :=
  ∃ s : ByteArray, e = .returned (.string s) ∧ s.size ≤ 100 ∧ Cur b sv len w' ∧ Kept b w w'
theorem str_any (b : Nat) (sv : Value) (len : Nat) (g m cap : Nat) (w : World) (hc : Cur b sv len w) (hgb : g ≠ b) (hm : 0 < m) (hm2 : m ≤ 1000)
    (hcells : ∀ j, j < m → ∃ s : ByteArray, s.size ≤ 100 ∧ w.cell? ⟨g, j, none⟩ = some (.string s)) :
    Calls Tryd.prog 27 #[.pointer (some ⟨b, 0, none⟩), .slice (some ⟨g, 0, none⟩) m cap] w (StrOut b sv len w) := by
  have HC := Lib.hid hc; have HS := Lib.hid hcells; clear hc hcells
  go_enter Tryd.func27, Tryd.ntmps27
  go_wp2_with fail
  refine (below_any b sv len m _ HC.out).mono ?_
  rintro e w1 ⟨x, rfl, hx0, hx1, hx2, hc1, ho1⟩
  have hx3 := hx1 (by omega)
  obtain ⟨k, rfl⟩ := Int.eq_ofNat_of_zero_le hx0
  obtain ⟨s, s1, hv⟩ := HS.out k (by omega)
  rw [← ho1.cell (show (⟨g, k, none⟩ : Addr).block ≠ b from hgb)] at hv
  have HC1 := Lib.hid hc1; have HO1 := Lib.hid ho1; clear hc1 ho1 hx1
  go_wp2_with fail
  go_ret
  exact ⟨s, rfl, s1, HC1.out, HO1.out.kept⟩
end Go.Proofs.YtkjjiinccljhjaaDoor
