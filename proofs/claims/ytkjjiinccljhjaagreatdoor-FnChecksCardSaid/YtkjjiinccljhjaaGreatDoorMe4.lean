/- Helper contracts over the functions with which the laws draw their inputs out of bytes: whatever the bytes, what is drawn is in range, and of what lay in memory before only the reader's own block is written. What an argument that came in is, for the walks: an int in its range, a string within reach, a slice of integers whose cells are known. Helper facts, no claim of its own. What a slice argument that came in reads as, for the walks: the list of its elements. Helper facts, no claim of its own. Cells read in a row: what an argument's memory holds. Helper facts, no claim of its own. Slices of strings in memory: what it means that a slice value reads as a list of strings, as data; what an argument of this type is. Helper facts, no claim of its own. Helper contracts over the functions with which the laws copy, compare, measure and mark slices, by program (deep.py). Asked: what lies in memory is as named. Policies: as plain values, and what a policy that came in is. Helper facts, no claim of its own. -/
import Derived.Test.YtkjjiinccljhjaaGreatDoorRows
import Derived.WalkKit
import Derived.ProofKit
import Derived.OpenShut
import Derived.LoopTactic
import Derived.Lib.Hide
import Derived.Below
import Derived.Laws.Rows
import Derived.Laws.BitsLemmas
import Derived.Deep.QuietTactic
import Derived.BigQuiet
import Derived.ShutString
import Derived.ChangeOld
import Derived.SizedLaws
import Derived.Test.YtkjjiinccljhjaaGreatDoorMe1
import Derived.Lib.SmallJoins
import Derived.Deep.Slices
import Derived.Carry
import Derived.Test.YtkjjiinccljhjaaGreatDoorMe3
import Derived.Deep.Fields
import Derived.Shelf.SlSortCmp.QuietGrown
namespace Go.Proofs.YtkjjiinccljhjaaGreatDoor

open Go.ChangeShapes Go.WideShapes Go.ChangeAt Go.RowKit

/-- The bytes that the reader reads: a slice value of length len, each of its cells a byte, below block B. -/
def CodeOk (B : Nat) (w : World) (sv : Value) (len : Nat) : Prop :=
  ∃ (a : Option Addr) (cap : Nat), sv = .slice a len cap ∧ len ≤ 1048576 ∧ (len = 0 ∨ ∃ blk off, a = some ⟨blk, off, none⟩ ∧ blk < B ∧ ∀ j, j < len → ∃ n : Int, 0 ≤ n ∧ n < 256 ∧ w.cell? ⟨blk, off + j, none⟩ = some (.int .u8 n))
/-- Block b is a reader over these bytes. -/
def Cur (b : Nat) (sv : Value) (len : Nat) (w : World) : Prop :=
  ∃ (i : Nat) (h : Int), w.heap[b]? = some (.cells #[sv, .int .i64 i, .int .i64 h] 169 (0, 0)) ∧ i ≤ len ∧ CodeOk b w sv len
/-- Of what lay in memory only block b may have been written; no block is new. -/
structure Only (b : Nat) (w w' : World) : Prop where
  os : w'.os = w.os
  tape : w'.tape = w.tape
  output : w'.output = w.output
  size : w'.heap.size = w.heap.size
  block : ∀ k, k ≠ b → w'.heap[k]? = w.heap[k]?

def ByteOut (b : Nat) (sv : Value) (len : Nat) (w : World) (e : Ending) (w' : World) : Prop :=
  ∃ x : Int, e = .returned (.int .i64 x) ∧ 0 ≤ x ∧ x ≤ 255 ∧ Cur b sv len w' ∧ Only b w w'

theorem and255 (n : Int) : bits .and .i64 n 255 = n % 256 := by
  have h255 : (BitVec.ofInt 64 255).toNat = 2 ^ 8 - 1 := by decide
  have key : (BitVec.ofInt 64 n &&& BitVec.ofInt 64 255).toNat = (n % ((2 ^ 64 : Nat) : Int)).toNat % 2 ^ 8 := by
    rw [BitVec.toNat_and, BitVec.toNat_ofInt, h255, Nat.and_two_pow_sub_one_eq_mod]
  show IntKind.i64.wrap ((BitVec.ofInt 64 n &&& BitVec.ofInt 64 255).toNat : Nat) = n % 256
  rw [key, IntKind.wrap_i64]
  omega
theorem Only.refl (b : Nat) (w : World) : Only b w w := ⟨rfl, rfl, rfl, rfl, fun _ _ => rfl⟩
theorem Only.trans {b : Nat} {w1 w2 w3 : World} (h : Only b w1 w2) (k : Only b w2 w3) : Only b w1 w3 :=
  ⟨k.os.trans h.os, k.tape.trans h.tape, k.output.trans h.output, k.size.trans h.size, fun i hi => (k.block i hi).trans (h.block i hi)⟩
theorem Only.set {b : Nat} {a w : World} (h : Only b a w) (o : Nat) (v : Value) : Only b a (w.setCell ⟨b, o, none⟩ v) :=
  h.trans ⟨rfl, rfl, rfl, by simp [World.setCell], fun k hk => Below.heap_setCell _ _ _ _ hk⟩
theorem Only.drewN {b : Nat} {a w : World} (h : Only b a w) (n : Nat) : Only b a (w.drewN n) := h.trans ⟨rfl, rfl, rfl, rfl, fun _ _ => rfl⟩
theorem Only.cell {b : Nat} {w w' : World} (h : Only b w w') {p : Addr} (hp : p.block ≠ b) : w'.cell? p = w.cell? p := World.cell?_of_block (w := w) (h.block p.block hp)
theorem Only.below {b : Nat} {w w' : World} (h : Only b w w') : Below b w w' := ⟨h.os, h.tape, h.output, by rw [h.size]; exact Nat.le_refl _, fun k hk => h.block k (by omega)⟩
theorem CodeOk.only {b : Nat} {w w' : World} {sv : Value} {len : Nat} (h : CodeOk b w sv len) (k : Only b w w') : CodeOk b w' sv len := by
  obtain ⟨a, cap, e, h1, h2⟩ := h
  refine ⟨a, cap, e, h1, ?_⟩
  rcases h2 with h2 | ⟨blk, off, e2, hb, hc⟩
  · exact Or.inl h2
  · refine Or.inr ⟨blk, off, e2, hb, fun j hj => ?_⟩
    obtain ⟨n, n0, n1, hn⟩ := hc j hj
    exact ⟨n, n0, n1, by rw [k.cell (by show blk ≠ b; omega)]; exact hn⟩
theorem set_at2 {b : Nat} {w : World} {x y z v : Value} {T : TypeId} (h : w.heap[b]? = some (.cells #[x, y, z] T (0, 0))) : (w.setCell ⟨b, 2, none⟩ v).heap[b]? = some (.cells #[x, y, v] T (0, 0)) := by
  rw [heap_setCell_same w b 2 _ T v h]; rfl
theorem set_at1 {b : Nat} {w : World} {x y z v : Value} {T : TypeId} (h : w.heap[b]? = some (.cells #[x, y, z] T (0, 0))) : (w.setCell ⟨b, 1, none⟩ v).heap[b]? = some (.cells #[x, v, z] T (0, 0)) := by
  rw [heap_setCell_same w b 1 _ T v h]; rfl

set_option maxHeartbeats 1000000 in
theorem byte_any (b : Nat) (sv : Value) (len : Nat) (w : World) (hc : Cur b sv len w) :
    Calls Tryz.prog 138 #[.pointer (some ⟨b, 0, none⟩)] w (ByteOut b sv len w) := by
  obtain ⟨i, h, hb, hi, hco⟩ := hc
  obtain ⟨a, cap, hsv, hlen, hcode⟩ := id hco
  subst hsv
  have c0 : w.cell? ⟨b, 0, none⟩ = some (.slice a len cap) := by unfold World.cell?; rw [hb]; rfl
  have c1 : w.cell? ⟨b, 1, none⟩ = some (.int .i64 i) := by unfold World.cell?; rw [hb]; rfl
  have c2 : w.cell? ⟨b, 2, none⟩ = some (.int .i64 h) := by unfold World.cell?; rw [hb]; rfl
  have f1 : w.frozen? ⟨b, 1, none⟩ = false := by unfold World.frozen?; rw [hb]; rfl
  have f2 : w.frozen? ⟨b, 2, none⟩ = false := by unfold World.frozen?; rw [hb]; rfl
  obtain ⟨A, hA⟩ : ∃ A : Int, wrap64 (wrap64 (h * 6364136223846793005) + 1442695040888963407) = A := ⟨_, rfl⟩
  obtain ⟨x, hx⟩ : ∃ x : Int, bits .and .i64 (bits .xor .i64 (A / 8589934592) (A / 140737488355328)) 255 = x := ⟨_, rfl⟩
  obtain ⟨w1, hw1⟩ : ∃ w1 : World, w.setCell ⟨b, 2, none⟩ (.int .i64 A) = w1 := ⟨_, rfl⟩
  have ho1 : Only b w w1 := by rw [← hw1]; exact (Only.refl b w).set 2 _
  have hb1 : w1.heap[b]? = some (.cells #[.slice a len cap, .int .i64 i, .int .i64 A] 169 (0, 0)) := by rw [← hw1]; exact set_at2 hb
  have hx0 : 0 ≤ x ∧ x ≤ 255 := by rw [← hx, and255]; omega
  obtain ⟨hx0, hx1⟩ := hx0
  have d0 : w1.cell? ⟨b, 0, none⟩ = some (.slice a len cap) := by unfold World.cell?; rw [hb1]; rfl
  have d1 : w1.cell? ⟨b, 1, none⟩ = some (.int .i64 i) := by unfold World.cell?; rw [hb1]; rfl
  have d2 : w1.cell? ⟨b, 2, none⟩ = some (.int .i64 A) := by unfold World.cell?; rw [hb1]; rfl
  have g1 : w1.frozen? ⟨b, 1, none⟩ = false := by unfold World.frozen?; rw [hb1]; rfl
  have HB1 := Lib.hid hb1; have HC := Lib.hid (hco.only ho1); have HO := Lib.hid ho1; have HA := Lib.hid hA; have HX := Lib.hid hx; have HW := Lib.hid hw1
  have HD := Lib.hid (show len = 0 ∨ ∃ blk off, a = some ⟨blk, off, none⟩ ∧ blk < b ∧ ∀ j, j < len → ∃ n : Int, 0 ≤ n ∧ n < 256 ∧ w1.cell? ⟨blk, off + j, none⟩ = some (.int .u8 n) from by
    obtain ⟨a', cap', e, _, h2⟩ := HC.out
    cases e
    exact h2)
  clear hb hcode hb1 hco ho1 hA hx hw1
  go_enter Tryz.func138, Tryz.ntmps138
  go_wp2
  rw [HA.out, HW.out]
  clear c0 c1 c2 f1 f2
  go_quiet (fail)
  rw [HX.out]
  go_wp2
  by_cases hil : (i : Int) < (len : Int)
  · have hild : decide ((i : Int) < (len : Int)) = true := decide_eq_true hil
    rcases HD.out with h0 | ⟨blk, off, rfl, hblk, hcells⟩
    · omega
    · obtain ⟨n, n0, n1, hn⟩ := hcells i (by omega)
      clear hcells
      go_quiet (fail)
      go_wp2
      go_quiet (fail)
      go_wp2
      go_ret
      have e1 : (.int .i64 ((i : Int) + 1) : Value) = .int .i64 ((i + 1 : Nat) : Int) := by go_num
      refine ⟨bits .and .i64 (x + n) 255, rfl, by rw [and255]; omega, by rw [and255]; omega, ⟨i + 1, A, ?_, by omega, ?_⟩, ?_⟩
      · rw [← e1]; exact set_at1 HB1.out
      · exact HC.out.only (((Only.refl b w1).set 1 (.int .i64 ((i : Int) + 1))).trans ⟨rfl, rfl, rfl, rfl, fun _ _ => rfl⟩)
      · exact (HO.out.trans ((Only.refl b w1).set 1 (.int .i64 ((i : Int) + 1)))).trans ⟨rfl, rfl, rfl, rfl, fun _ _ => rfl⟩
  · have hild : decide ((i : Int) < (len : Int)) = false := decide_eq_false hil
    go_quiet (fail)
    go_wp2
    go_ret
    exact ⟨x, rfl, hx0, hx1, ⟨i, A, HB1.out, hi, HC.out.only ⟨rfl, rfl, rfl, rfl, fun _ _ => rfl⟩⟩, HO.out.trans ⟨rfl, rfl, rfl, rfl, fun _ _ => rfl⟩⟩

def BelowOut (b : Nat) (sv : Value) (len : Nat) (n : Int) (w : World) (e : Ending) (w' : World) : Prop :=
  ∃ x : Int, e = .returned (.int .i64 x) ∧ 0 ≤ x ∧ (0 < n → x < n) ∧ x ≤ 16777215 ∧ Cur b sv len w' ∧ Only b w w'
theorem rem_bd {x n : Int} (h0 : 0 ≤ x) (hn : 0 < n) : 0 ≤ x % n ∧ x % n < n ∧ x % n ≤ x :=
  by
  have h1 := Int.mul_ediv_add_emod x n
  have h2 := Int.mul_nonneg (show 0 ≤ n by omega) (Int.ediv_nonneg h0 (show 0 ≤ n by omega))
  exact ⟨Int.emod_nonneg _ (by omega), Int.emod_lt_of_pos _ hn, by omega⟩

set_option maxHeartbeats 1000000 in
theorem below_any (b : Nat) (sv : Value) (len : Nat) (n : Int) (w : World) (hc : Cur b sv len w) :
    Calls Tryz.prog 75 #[.pointer (some ⟨b, 0, none⟩), .int .i64 n] w (BelowOut b sv len n w) := by
  have HC := Lib.hid hc; clear hc
  by_cases hn : n ≤ 0
  · go_enter Tryz.func75, Tryz.ntmps75
    go_wp2_with fail
    go_ret
    exact ⟨0, rfl, by omega, by omega, by omega, HC.out, Only.refl _ _⟩
  by_cases hs : n ≤ 256
  · go_enter Tryz.func75, Tryz.ntmps75
    go_wp2_with fail
    refine (byte_any b sv len _ HC.out).mono ?_
    rintro e w1 ⟨x, rfl, hx0, hx1, hc1, ho1⟩
    have HC1 := Lib.hid hc1; have HO1 := Lib.hid ho1; clear hc1 ho1
    obtain ⟨r0, r1, r2⟩ := rem_bd hx0 (show 0 < n by omega)
    have R0 := Lib.hid r0; have R1 := Lib.hid r1; have R2 := Lib.hid r2; clear r0 r1 r2
    go_wp2_with fail
    go_ret
    exact ⟨x % n, rfl, R0.out, fun _ => R1.out, by have := R2.out; omega, HC1.out, HO1.out⟩
  · go_enter Tryz.func75, Tryz.ntmps75
    go_wp2_with fail
    refine (byte_any b sv len _ HC.out).mono ?_
    rintro e w1 ⟨x, rfl, hx0, hx1, hc1, ho1⟩
    have HC1 := Lib.hid hc1; have HO1 := Lib.hid ho1; clear hc1 ho1
    go_wp2_with fail
    refine (byte_any b sv len _ HC1.out).mono ?_
    rintro e w2 ⟨y, rfl, hy0, hy1, hc2, ho2⟩
    have HC2 := Lib.hid hc2; have HO2 := Lib.hid ho2; clear hc2 ho2
    go_wp2_with fail
    refine (byte_any b sv len _ HC2.out).mono ?_
    rintro e w3 ⟨z, rfl, hz0, hz1, hc3, ho3⟩
    have HC3 := Lib.hid hc3; have HO3 := Lib.hid ho3; clear hc3 ho3
    obtain ⟨r0, r1, r2⟩ := rem_bd (show 0 ≤ x * 65536 + y * 256 + z by omega) (show 0 < n by omega)
    have R0 := Lib.hid r0; have R1 := Lib.hid r1; have R2 := Lib.hid r2; clear r0 r1 r2
    go_wp2_with fail
    go_ret
    exact ⟨(x * 65536 + y * 256 + z) % n, rfl, R0.out, fun _ => R1.out, by have := R2.out; omega, HC3.out, (HO1.out.trans HO2.out).trans HO3.out⟩

/-- Of what lay in memory only block b may have been written; there may be new blocks. -/
structure Kept (b : Nat) (w w' : World) : Prop where
  os : w'.os = w.os
  tape : w'.tape = w.tape
  output : w'.output = w.output
  size : w.heap.size ≤ w'.heap.size
  block : ∀ k, k < w.heap.size → k ≠ b → w'.heap[k]? = w.heap[k]?
theorem Kept.refl (b : Nat) (w : World) : Kept b w w := ⟨rfl, rfl, rfl, Nat.le_refl _, fun _ _ _ => rfl⟩
theorem Kept.trans {b : Nat} {w1 w2 w3 : World} (h : Kept b w1 w2) (k : Kept b w2 w3) : Kept b w1 w3 :=
  ⟨k.os.trans h.os, k.tape.trans h.tape, k.output.trans h.output, Nat.le_trans h.size k.size, fun i hi hn => (k.block i (Nat.lt_of_lt_of_le hi h.size) hn).trans (h.block i hi hn)⟩
theorem Only.kept {b : Nat} {w w' : World} (h : Only b w w') : Kept b w w' := ⟨h.os, h.tape, h.output, by rw [h.size]; exact Nat.le_refl _, fun k _ hk => h.block k hk⟩
theorem Kept.alloc (b : Nat) (w : World) (o : Obj) : Kept b w (w.alloc o) := ⟨rfl, rfl, rfl, by simp, fun k hk _ => Below.heap_alloc _ _ _ hk⟩
theorem Kept.below {b : Nat} {w w' : World} (h : Kept b w w') (hb : b ≤ w.heap.size) : Below b w w' := ⟨h.os, h.tape, h.output, h.size, fun k hk => h.block k (by omega) (by omega)⟩
theorem Kept.of_below {b : Nat} {w w' : World} (h : Below w.heap.size w w') : Kept b w w' := ⟨h.os, h.tape, h.output, h.size, fun k hk _ => h.block k hk⟩
theorem lt_heap {w : World} {b : Nat} {o : Obj} (h : w.heap[b]? = some o) : b < w.heap.size := by
  rcases Nat.lt_or_ge b w.heap.size with h' | h'
  · exact h'
  · rw [Array.getElem?_eq_none h'] at h; cases h
theorem Cur.lt {b : Nat} {sv : Value} {len : Nat} {w : World} (h : Cur b sv len w) : b < w.heap.size := by
  obtain ⟨_, _, h1, _, _⟩ := h; exact lt_heap h1
/-- A reader stays one while no old block is written. -/
theorem Cur.below {b : Nat} {sv : Value} {len : Nat} {w w' : World} (h : Cur b sv len w) (k : Below w.heap.size w w') : Cur b sv len w' := by
  have hlt := h.lt
  obtain ⟨i, x, h1, h2, a, cap, e, h3, h4⟩ := h
  refine ⟨i, x, by rw [k.block b hlt]; exact h1, h2, a, cap, e, h3, ?_⟩
  rcases h4 with h4 | ⟨blk, off, e2, hb, hc⟩
  · exact Or.inl h4
  · refine Or.inr ⟨blk, off, e2, hb, fun j hj => ?_⟩
    obtain ⟨n, n0, n1, hn⟩ := hc j hj
    exact ⟨n, n0, n1, by rw [k.cell (by show blk < _; omega)]; exact hn⟩
theorem Cur.alloc {b : Nat} {sv : Value} {len : Nat} {w : World} (h : Cur b sv len w) (o : Obj) : Cur b sv len (w.alloc o) :=
  h.below ((Below.refl _ _).alloc (Nat.le_refl _) _)

def OnceOut (b : Nat) (sv : Value) (len : Nat) (w : World) (e : Ending) (w' : World) : Prop :=
  ∃ x : Bool, e = .returned (.bool x) ∧ Cur b sv len w' ∧ Kept b w w'
theorem once_any (b : Nat) (sv : Value) (len : Nat) (n : Int) (w : World) (hc : Cur b sv len w) :
    Calls Tryz.prog 85 #[.pointer (some ⟨b, 0, none⟩), .int .i64 n] w (OnceOut b sv len w) := by
  have HC := Lib.hid hc; clear hc
  go_enter Tryz.func85, Tryz.ntmps85
  go_wp2_with fail
  refine (below_any b sv len n _ HC.out).mono ?_
  rintro e w1 ⟨x, rfl, hx0, hx1, hx2, hc1, ho1⟩
  have HC1 := Lib.hid hc1; have HO1 := Lib.hid ho1; have HX1 := Lib.hid hx1; clear hc1 ho1 hx1
  go_wp2_with fail
  go_ret
  exact ⟨_, rfl, HC1.out, HO1.out.kept⟩

def NumOut (b : Nat) (sv : Value) (len : Nat) (w : World) (e : Ending) (w' : World) : Prop :=
  ∃ x : Int, e = .returned (.int .i64 x) ∧ -9223372036854775808 ≤ x ∧ x ≤ 9223372036854775807 ∧ Cur b sv len w' ∧ Kept b w w'
theorem int_any (b : Nat) (sv : Value) (len : Nat) (g m cap : Nat) (w : World) (hc : Cur b sv len w) (hgb : g ≠ b) (hm : 0 < m) (hm2 : m ≤ 1000)
    (hcells : ∀ j, j < m → ∃ v : Int, -9223372036854775808 ≤ v ∧ v ≤ 9223372036854775807 ∧ w.cell? ⟨g, j, none⟩ = some (.int .i64 v)) :
    Calls Tryz.prog 133 #[.pointer (some ⟨b, 0, none⟩), .slice (some ⟨g, 0, none⟩) m cap] w (NumOut b sv len w) := by
  have HC := Lib.hid hc; have HS := Lib.hid hcells; clear hc hcells
  go_enter Tryz.func133, Tryz.ntmps133
  go_wp2_with fail
  refine (below_any b sv len m _ HC.out).mono ?_
  rintro e w1 ⟨x, rfl, hx0, hx1, hx2, hc1, ho1⟩
  have hx3 := hx1 (by omega)
  obtain ⟨k, rfl⟩ := Int.eq_ofNat_of_zero_le hx0
  obtain ⟨v, v0, v1, hv⟩ := HS.out k (by omega)
  rw [← ho1.cell (show (⟨g, k, none⟩ : Addr).block ≠ b from hgb)] at hv
  have HC1 := Lib.hid hc1; have HO1 := Lib.hid ho1; clear hc1 ho1 hx1
  go_wp2_with fail
  go_ret
  exact ⟨v, rfl, v0, v1, HC1.out, HO1.out.kept⟩

def StrOut (b : Nat) (sv : Value) (len : Nat) (w : World) (e : Ending) (w' : World) : Prop :=
  ∃ s : ByteArray, e = .returned (.string s) ∧ s.size ≤ 100 ∧ Cur b sv len w' ∧ Kept b w w'
theorem str_any (b : Nat) (sv : Value) (len : Nat) (g m cap : Nat) (w : World) (hc : Cur b sv len w) (hgb : g ≠ b) (hm : 0 < m) (hm2 : m ≤ 1000)
    (hcells : ∀ j, j < m → ∃ s : ByteArray, s.size ≤ 100 ∧ w.cell? ⟨g, j, none⟩ = some (.string s)) :
    Calls Tryz.prog 135 #[.pointer (some ⟨b, 0, none⟩), .slice (some ⟨g, 0, none⟩) m cap] w (StrOut b sv len w) := by
  have HC := Lib.hid hc; have HS := Lib.hid hcells; clear hc hcells
  go_enter Tryz.func135, Tryz.ntmps135
  go_wp2_with fail
  refine (below_any b sv len m _ HC.out).mono ?_
  rintro e w1 ⟨x, rfl, hx0, hx1, hx2, hc1, ho1⟩
  have hx3 := hx1 (by omega)
  obtain ⟨k, rfl⟩ := Int.eq_ofNat_of_zero_le hx0
  obtain ⟨s, s1, hv⟩ := HS.out k (by omega)
  rw [← ho1.cell (show (⟨g, k, none⟩ : Addr).block ≠ b from hgb)] at hv
  have HC1 := Lib.hid hc1; have HO1 := Lib.hid ho1; clear hc1 ho1 hx1
  go_wp2_with fail
  go_ret
  exact ⟨s, rfl, s1, HC1.out, HO1.out.kept⟩

end Go.Proofs.YtkjjiinccljhjaaGreatDoor
namespace Go.Proofs.YtkjjiinccljhjaaGreatDoor
open Go.ChangeShapes Go.WideShapes Go.ChangeAt Go.RowKit

theorem int_range {n : Int} (h : (Lit.int .i64 n).wf = true) : -9223372036854775808 ≤ n ∧ n ≤ 9223372036854775807 := by
  have e1 : IntKind.i64.min = -9223372036854775808 := rfl
  have e2 : IntKind.i64.max = 9223372036854775807 := rfl
  simp [Lit.wf, e1, e2] at h
  omega
theorem str_reach {s : ByteArray} (h : s.data.toList.length ≤ reachBytes) : s.size ≤ 140737488351232 := by
  have e1 : s.size = s.data.size := rfl
  have e2 : s.data.toList.length = s.data.size := Array.length_toList
  have e3 : reachBytes = 140737488351232 := by decide
  omega

/-- A slice of integers that came in: nil, or a row of cap cells, of which the first len are its elements. -/
def IsRow (k : IntKind) (w : World) (a : Option Addr) (len cap : Nat) (zs : List Int) : Prop :=
  (a = none ∧ len = 0 ∧ cap = 0 ∧ zs = []) ∨
  ∃ x, a = some x ∧ len ≤ cap ∧ cap ≤ maxLen ∧ zs.length = cap ∧ (∀ i, i < zs.length → w.cell? (x.add i) = some (.int k (zs.getD i 0))) ∧ ∀ n ∈ zs, (Lit.int k n).wf = true

theorem row_of {P : Program} {H : Type} {enc : TypeId × Value → H} {W : World} {k : IntKind} {t e : TypeId} {a : Option Addr} {len cap : Nat} {d : DataW H} {p : List MemPlace}
    (ht : P.underlying t = some (.slice e)) (he : P.underlying e = some (.int k)) (hc : P.cellsOf e = 1) (h : DataW.Trod enc P W 0 (fun _ => true) true t (.slice a len cap) d p) : ∃ zs, IsRow k W a len cap zs := by
  obtain ⟨fuel, hf⟩ := h
  rcases open_ints ht he hc hf with ⟨hcs, _⟩ | ⟨x, l, c, zs, hcs, _, hl, hm, hz, _, hcell, hwz⟩
  · simp [Value.cells] at hcs
    obtain ⟨rfl, rfl, rfl⟩ := hcs
    exact ⟨[], .inl ⟨rfl, rfl, rfl, rfl⟩⟩
  · simp [Value.cells] at hcs
    obtain ⟨rfl, rfl, rfl⟩ := hcs
    exact ⟨zs, .inr ⟨_, rfl, hl, hm, by simpa using hz, hcell, hwz⟩⟩

theorem u8_range {n : Int} (h : (Lit.int .u8 n).wf = true) : 0 ≤ n ∧ n < 256 := by
  have e1 : IntKind.u8.min = 0 := rfl
  have e2 : IntKind.u8.max = 255 := rfl
  simp [Lit.wf, e1, e2] at h
  omega
/-- The bytes that a law draws from. -/
theorem code_of_row {w : World} {a : Option Addr} {len cap : Nat} {zs : List Int} (h : IsRow .u8 w a len cap zs) (hl : len ≤ 1048576) : CodeOk w.heap.size w (.slice a len cap) len := by
  refine ⟨a, cap, rfl, hl, ?_⟩
  rcases h with ⟨rfl, rfl, rfl, rfl⟩ | ⟨x, rfl, hlc, hm, hz, hcell, hwz⟩
  · exact Or.inl rfl
  · by_cases h0 : len = 0
    · exact Or.inl h0
    · obtain ⟨blk, off, spot⟩ := x
      have c0 := hcell 0 (by omega)
      have hspot : spot = none := by simpa [Addr.add] using World.cell?_spot c0
      subst hspot
      have hlt : blk < w.heap.size := by
        rcases Nat.lt_or_ge blk w.heap.size with h1 | h1
        · exact h1
        · have h2 : w.heap[blk]? = none := Array.getElem?_eq_none h1
          simp [World.cell?, Addr.add, h2] at c0
      refine Or.inr ⟨blk, off, rfl, hlt, fun j hj => ?_⟩
      have hj2 : j < zs.length := by omega
      have hw := u8_range (hwz (zs.getD j 0) (by simp [List.getD, List.getElem?_eq_getElem hj2]))
      refine ⟨zs.getD j 0, hw.1, hw.2, ?_⟩
      have h3 := hcell j hj2
      have e : (⟨blk, off, none⟩ : Addr).add j = ⟨blk, off + j, none⟩ := by
        unfold Addr.add
        split
        · rename_i h4; subst h4; rfl
        · rfl
      rw [e] at h3
      exact h3

end Go.Proofs.YtkjjiinccljhjaaGreatDoor
namespace Go.Proofs.YtkjjiinccljhjaaGreatDoor
open Go.ChangeShapes Go.WideShapes Go.ChangeAt Go.RowKit

theorem i64_range {n : Int} (h : (Lit.int .i64 n).wf = true) : -9223372036854775808 ≤ n ∧ n ≤ 9223372036854775807 := int_range h
theorem reads_of_row {k : IntKind} {w : World} {a : Option Addr} {len cap : Nat} {zs : List Int} (h : IsRow k w a len cap zs) :
    Reads k w.heap.size w (.slice a len cap) (zs.take len) ∧ (zs.take len).length = len ∧ ∀ n ∈ zs.take len, (Lit.int k n).wf = true := by
  rcases h with ⟨rfl, rfl, rfl, rfl⟩ | ⟨x, rfl, hlc, hm, hz, hcell, hwz⟩
  · exact ⟨⟨none, 0, rfl, by simp, by omega, (fun _ => rfl), Or.inl rfl⟩, rfl, by simp⟩
  · have hl : (zs.take len).length = len := by rw [List.length_take]; omega
    refine ⟨⟨some x, cap, by rw [hl], by omega, by unfold maxLen at hm; omega, (fun h => by cases h), ?_⟩, hl, fun n hn => hwz n (List.mem_of_mem_take hn)⟩
    rw [hl]
    by_cases h0 : len = 0
    · exact Or.inl h0
    · obtain ⟨blk, off, spot⟩ := x
      have c0 := hcell 0 (by omega)
      have hspot : spot = none := by simpa [Addr.add] using World.cell?_spot c0
      subst hspot
      have hlt : blk < w.heap.size := by
        rcases Nat.lt_or_ge blk w.heap.size with h1 | h1
        · exact h1
        · have h2 : w.heap[blk]? = none := Array.getElem?_eq_none h1
          simp [World.cell?, Addr.add, h2] at c0
      refine Or.inr ⟨blk, off, rfl, hlt, fun j hj => ?_⟩
      have h3 := hcell j (by omega)
      have e : (⟨blk, off, none⟩ : Addr).add j = ⟨blk, off + j, none⟩ := by
        unfold Addr.add
        split
        · rename_i h4; subst h4; rfl
        · rfl
      rw [e] at h3
      rw [h3]
      have e2 : (zs.take len).getD j 0 = zs.getD j 0 := by simp [List.getD_eq_getElem?_getD, hj]
      rw [e2]
theorem bytes_of_wf {zs : List Int} (h : ∀ n ∈ zs, (Lit.int .u8 n).wf = true) : Bytes zs := fun n hn => u8_range (h n hn)
theorem ints_of_wf {zs : List Int} (h : ∀ n ∈ zs, (Lit.int .i64 n).wf = true) : Ints zs := fun n hn => int_range (h n hn)

end Go.Proofs.YtkjjiinccljhjaaGreatDoor
namespace Go.Proofs.YtkjjiinccljhjaaGreatDoor
open Go.ChangeShapes Go.WideShapes Go.ChangeAt Go.RowKit Go.Joins Go.Deep

theorem add_lit (g off j : Nat) : (⟨g, off, none⟩ : Addr).add j = ⟨g, off + j, none⟩ := by
  unfold Addr.add
  split
  · rename_i h4; subst h4; rfl
  · rfl
theorem mapM_at {f : Nat → Option Value} : ∀ {l : List Nat} {cs : List Value}, l.mapM f = some cs → cs.length = l.length ∧ ∀ i j : Nat, l[i]? = some j → f j = cs[i]?
  | [], cs, h => by
    have : cs = [] := by simpa using h.symm
    subst this
    exact ⟨rfl, fun i j h => by simp at h⟩
  | a :: l, cs, h => by
    rw [List.mapM_cons] at h
    obtain ⟨v, hv, h⟩ := Option.bind_eq_some_iff.1 h
    obtain ⟨vs, hvs, h⟩ := Option.bind_eq_some_iff.1 h
    have : cs = v :: vs := by simpa using h.symm
    subst this
    obtain ⟨k1, k2⟩ := mapM_at hvs
    refine ⟨by simp [k1], fun i j hj => ?_⟩
    cases i with
    | zero =>
      have : a = j := by simpa using hj
      subst this
      simpa using hv
    | succ i => simpa using k2 i j (by simpa using hj)
theorem cells?_at {w : World} {base n : Nat} {a : Addr} {cs : List Value} (h : w.cells? base a n = some cs) : cs.length = n ∧ ∀ i, i < n → w.cell? (a.add i) = cs[i]? := by
  unfold World.cells? at h
  split at h
  · obtain ⟨k1, k2⟩ := mapM_at h
    rw [List.length_range] at k1
    exact ⟨k1, fun i hi => k2 i i (by rw [List.getElem?_range hi])⟩
  · cases h

end Go.Proofs.YtkjjiinccljhjaaGreatDoor
namespace Go.Proofs.YtkjjiinccljhjaaGreatDoor
open Go.ChangeShapes Go.WideShapes Go.ChangeAt Go.RowKit Go.Joins Go.Deep

def stCells (xs : List ByteArray) : List Rw := xs.map fun s => .leaf (.string s)
/-- A slice of strings. -/
def rwSs (v : Value) (xs : List ByteArray) : Rw := .sl v xs.length 1 9 (stCells xs)
theorem rwSs_cell (v : Value) (xs : List ByteArray) : (rwSs v xs).cell = v := rfl
theorem flatS (xs : List ByteArray) : xs.flatMap encS = xs.map Value.string := by
  induction xs with
  | nil => rfl
  | cons x xs ih => rw [List.flatMap_cons, ih]; rfl
theorem stCells_map (xs : List ByteArray) : (stCells xs).map Rw.cell = xs.flatMap encS := by
  rw [flatS]; unfold stCells; rw [List.map_map]; rfl
theorem stCells_len (xs : List ByteArray) : (stCells xs).length = xs.length := by unfold stCells; rw [List.length_map]
theorem stCells_at {xs : List ByteArray} {j : Nat} {a : ByteArray} (h : xs[j]? = some a) : (stCells xs)[j]? = some (.leaf (.string a)) := by
  unfold stCells; rw [List.getElem?_map, h]; rfl
theorem stCells_leaf {xs : List ByteArray} {c : Rw} (h : c ∈ stCells xs) : ∃ a, a ∈ xs ∧ c = .leaf (.string a) := by
  obtain ⟨a, ha, rfl⟩ := List.mem_map.1 h
  exact ⟨a, ha, rfl⟩
theorem stCells_blocks (xs : List ByteArray) : blocksL (stCells xs) = [] := blocksL_nil fun c hc => by
  obtain ⟨s, _, rfl⟩ := stCells_leaf hc
  rw [Rw.blocks]
theorem rwSs_blocks (v : Value) (xs : List ByteArray) : (rwSs v xs).blocks = v.ownBlock.toList := by rw [rwSs, Rw.blocks, stCells_blocks, List.append_nil]
theorem rwSs_nodup (v : Value) (xs : List ByteArray) : (rwSs v xs).blocks.Nodup := by rw [rwSs_blocks]; cases v.ownBlock <;> simp
theorem rwSs_is (v : Value) (xs : List ByteArray) : IsStringS (rwSs v xs) :=
  ⟨v, xs.length, _, stCells xs, rfl, fun j hj => ⟨xs[j], stCells_at (List.getElem?_eq_getElem hj)⟩⟩
theorem rwSs_own {lo hi : Nat} {w : World} {v : Value} {xs : List ByteArray} (h : OwnK encS 1 9 lo hi w v xs) : (rwSs v xs).OwnR lo hi w := by
  rw [rwSs, Rw.OwnR]
  exact ⟨by rw [stCells_map]; exact h, ownRL_iff.2 fun c hc => by obtain ⟨s, _, rfl⟩ := stCells_leaf hc; rw [Rw.OwnR]; rfl⟩
theorem rwSs_reads {hi : Nat} {w : World} {v : Value} {xs : List ByteArray} (h : ReadsK encS 1 hi w v xs) : (rwSs v xs).ReadR hi w := by
  rw [rwSs, Rw.ReadR]
  have h0 := h
  obtain ⟨a, cap, rfl, h1, h2, h3, h4⟩ := h
  refine ⟨⟨a, cap, rfl, by rw [stCells_len, Nat.mul_one], h1, h2, h3, ?_⟩, readRL_iff.2 fun c hc => by obtain ⟨s, _, rfl⟩ := stCells_leaf hc; rw [Rw.ReadR]; rfl⟩
  rcases h4 with h4 | ⟨g, off, rfl, hg, hc⟩
  · exact Or.inl h4
  · refine Or.inr ⟨g, off, rfl, hg, fun j c hj => ?_⟩
    rw [stCells_map] at hj
    have := h0.news encS_len j c hj
    rwa [add_off] at this
theorem rwSs_data (v u : Value) (xs : List ByteArray) : (rwSs v xs).data = (rwSs u xs).data := by rw [rwSs, rwSs, Rw.data, Rw.data]
theorem strs_of_data {x : Rw} {u : Value} {xs : List ByteArray} {hi : Nat} {w : World} (h : x.data = (rwSs u xs).data) (hr : x.ReadR hi w) : ReadsK encS 1 hi w x.cell xs := by
  cases x with
  | leaf v => rw [rwSs, Rw.data, Rw.data] at h; cases h
  | sl v n k e cs =>
    rw [rwSs, Rw.data, Rw.data] at h
    obtain ⟨rfl, hd⟩ := Dt.sl.inj h
    have hl : cs.length = xs.length := by have := congrArg List.length hd; rwa [dataL_len, dataL_len, stCells_len] at this
    rw [Rw.ReadR] at hr
    obtain ⟨⟨a, cap, rfl, h1, h2, h3, h4, h5⟩, _⟩ := hr
    have hn : n = xs.length := by omega
    subst hn
    refine ⟨a, cap, rfl, h2, h3, h4, ?_⟩
    rcases h5 with h5 | ⟨g, off, rfl, hg, hc⟩
    · exact Or.inl h5
    · refine Or.inr ⟨g, off, rfl, hg, fun j y hj i hi' => ?_⟩
      have hjl := (List.getElem?_eq_some_iff.1 hj).1
      obtain rfl : i = 0 := by omega
      obtain ⟨c, hcm⟩ : ∃ c, cs[j]? = some c := ⟨_, List.getElem?_eq_getElem (by omega)⟩
      have e1 := leaf_of_data (data_same hd hcm (stCells_at hj))
      rw [Nat.mul_one]
      refine hc j _ ?_
      rw [List.getElem?_map, hcm, e1]; rfl
theorem sum_le_at {xs : List ByteArray} {s : ByteArray} (h : s ∈ xs) : s.size ≤ (xs.map ByteArray.size).sum := by
  induction xs with
  | nil => cases h
  | cons x xs ih =>
    rw [List.map_cons, List.sum_cons]
    rcases List.mem_cons.1 h with e | h
    · rw [e]; omega
    · have := ih h; omega
def sumSt (xs : List ByteArray) : Nat := (xs.map ByteArray.size).sum
theorem stCells_weight : ∀ xs : List ByteArray, weightL (stCells xs) = sumSt xs
  | [] => rfl
  | x :: xs => by
    have h := stCells_weight xs
    unfold stCells at h ⊢
    rw [List.map_cons, weightL, Rw.weight, h, sumSt, sumSt, List.map_cons, List.sum_cons]; rfl
theorem rwSs_weight (v : Value) (xs : List ByteArray) : (rwSs v xs).weight = xs.length + sumSt xs := by rw [rwSs, Rw.weight, stCells_weight]
theorem stCells_count : ∀ xs : List ByteArray, countL (stCells xs) = xs.length
  | [] => rfl
  | x :: xs => by
    have h := stCells_count xs
    unfold stCells at h ⊢
    rw [List.map_cons, countL, Rw.count, h, List.length_cons]; omega
theorem rwSs_count (v : Value) (xs : List ByteArray) : (rwSs v xs).count = xs.length := by rw [rwSs, Rw.count, stCells_count]
theorem rwSs_small {v : Value} {xs : List ByteArray} (h : ∀ s ∈ xs, s.size ≤ 9223372036854775807) : (rwSs v xs).Small := by
  rw [rwSs, Rw.Small]
  refine smallL_iff.2 fun c hc => ?_
  obtain ⟨a, ha, rfl⟩ := stCells_leaf hc
  rw [Rw.Small]; exact h a ha
/-- A slice of strings that came in. -/
def IsSts (w : World) (v : Value) (xs : List ByteArray) : Prop := ReadsK encS 1 w.heap.size w v xs ∧ ∀ s ∈ xs, s.size ≤ 9223372036854775807
theorem IsSts.form {w : World} {v : Value} {xs : List ByteArray} (h : IsSts w v xs) : ∃ a n c, v = .slice a n c := by
  obtain ⟨⟨a, cap, rfl, _⟩, _⟩ := h
  exact ⟨a, _, cap, rfl⟩

set_option maxRecDepth 100000 in
theorem strs_of {H : Type} {enc : TypeId × Value → H} {W : World} {fuel : Nat} {v : Value} {d : DataW H × List MemPlace} (hf : DataW.trod enc Tryz.prog W 0 (fun _ => true) true fuel 24 [v] = some d) :
    ∃ xs, IsSts W v xs := by
  rcases open_slice Tryz.underlying24 hf with ⟨hcs, _⟩ | ⟨x, len, cap, m, n, D, Pl, hcs, _, hl, hc, hm, _, hel⟩
  · obtain rfl : v = .slice none 0 0 := by simpa using hcs
    exact ⟨[], ⟨none, 0, rfl, Nat.le_refl _, by omega, (fun _ => rfl), Or.inl rfl⟩, by simp⟩
  · obtain rfl : v = .slice (some x) len cap := by simpa using hcs
    simp only [if_true] at hm
    subst hm
    have hstr : Tryz.prog.cellsOf 9 = 1 := by kernel_rfl
    rw [hstr] at hel
    have hx : ∀ i, i < len → ∃ s : ByteArray, W.cell? (x.add i) = some (.string s) ∧ s.size ≤ 9223372036854775807 := by
      intro i hi
      obtain ⟨cs, h1, h2⟩ := hel i (by omega)
      obtain ⟨hlen, hat⟩ := cells?_at h1
      obtain ⟨t, e1, _, w1⟩ := DataW.trod_string Tryz.underlying9 h2
      subst e1
      have g0 := hat 0 (by omega)
      rw [add_add] at g0
      simp at g0
      exact ⟨t, g0, w1⟩
    obtain ⟨f, hf⟩ := choose_lt hx
    refine ⟨(List.range len).map f, ⟨some x, _, by rw [List.length_map, List.length_range], by simpa using hl, by unfold maxLen at hc; omega, (fun h => by cases h), ?_⟩, ?_⟩
    · by_cases h0 : len = 0
      · exact Or.inl (by simpa using h0)
      · obtain ⟨blk, off, spot⟩ := x
        have c0 := (hf 0 (by omega)).1
        have hspot : spot = none := by simpa [Addr.add] using World.cell?_spot c0
        subst hspot
        have hlt : blk < W.heap.size := by
          have := World.block_lt_of_cell? W _ c0
          rwa [add_off] at this
        refine Or.inr ⟨blk, off, rfl, hlt, fun j y hj i hi' => ?_⟩
        have hjl : j < len := by have := (List.getElem?_eq_some_iff.1 hj).1; simpa using this
        simp [hjl] at hj
        subst hj
        obtain ⟨g0, _⟩ := hf j hjl
        rw [add_off] at g0
        obtain rfl : i = 0 := by omega
        rw [Nat.add_zero, Nat.mul_one]; exact g0
    · intro r hr
      obtain ⟨i, hi, rfl⟩ := List.mem_map.1 hr
      exact (hf i (List.mem_range.1 hi)).2

theorem strs_arg {H : Type} {enc : TypeId × Value → H} {W : World} {v : Value} {d : DataW H} {p : List MemPlace} (hv : ∃ a n c, v = .slice a n c) (h : DataW.Trod enc Tryz.prog W 0 (fun _ => true) true 24 v d p) : ∃ xs, IsSts W v xs := by
  obtain ⟨a, n, c, rfl⟩ := hv
  obtain ⟨fuel, hf⟩ := h
  exact strs_of hf

/-- A struct whose fields are one cell each, by value, opened: each field's cell reads at its type. -/
theorem open_fields {P : Program} {H : Type} {enc : TypeId × Value → H} {w : World} {base : Nat} {spare : Nat → Bool} {held : Bool} {r : Reach} {b0 : Nat} {t : TypeId} {fs : Array Field} {v : Value} {d : DataW H} {p : List MemPlace} (hs : P.underlying t = some (.struct fs)) (hone : oneCellFields P fs = true) (hC : P.cellsOf t = fs.size)
    (hv : Value.okWide P w r b0 t v) (h : DataW.Trod enc P w base spare held t v d p) :
    ∃ (cs : Array Value) (m : Nat), v = .agg cs ∧ cs.size = fs.size ∧ ∀ (i : Nat) (f : Field), fs[i]? = some f → ∃ c y, cs[i]? = some c ∧ DataW.trod enc P w base spare held m f.type [c] = some y := by
  obtain ⟨cs, rfl, hsz⟩ := okWide_struct hs hv
  obtain ⟨fuel, hf⟩ := h
  obtain ⟨ys, n, _, _, hl, hlen, hat⟩ := DataW.trod_struct hs hf
  refine ⟨cs, n, rfl, hsz.trans hC, fun i f hi => ?_⟩
  obtain ⟨o, k⟩ := hone_of hone i f hi
  have hil : i < fs.size := (Array.getElem?_eq_some_iff.1 hi).1
  have hic : i < cs.size := by omega
  obtain ⟨y, hy⟩ : ∃ y, ys[i]? = some y := ⟨_, List.getElem?_eq_getElem (by omega)⟩
  refine ⟨cs[i], y, Array.getElem?_eq_getElem hic, ?_⟩
  have := hat i f hi
  rw [o, k, hy] at this
  rw [← this]
  congr 1
  show [cs[i]] = (((Value.agg cs).cells.toList).drop i).take 1
  rw [show (Value.agg cs).cells = cs from rfl, List.drop_eq_getElem_cons (by rw [Array.length_toList]; exact hic)]
  simp

end Go.Proofs.YtkjjiinccljhjaaGreatDoor
namespace Go.Proofs.YtkjjiinccljhjaaGreatDoor
open Go.ChangeShapes Go.WideShapes Go.ChangeAt Go.RowKit

set_option maxHeartbeats 2000000 in
theorem eq_Policy (a0 : Bool) (a1 b1 : Rw) (a2 b2 : Rw) (a3 b3 : Rw) (a4 : ByteArray) (w : World) (hx1 : IsStringS a1) (hy1 : IsStringS b1) (hd1 : a1.data = b1.data) (rx1 : a1.ReadR w.heap.size w) (ry1 : b1.ReadR w.heap.size w) (hx2 : IsStringS a2) (hy2 : IsStringS b2) (hd2 : a2.data = b2.data) (rx2 : a2.ReadR w.heap.size w) (ry2 : b2.ReadR w.heap.size w) (hx3 : IsStringS a3) (hy3 : IsStringS b3) (hd3 : a3.data = b3.data) (rx3 : a3.ReadR w.heap.size w) (ry3 : b3.ReadR w.heap.size w) :
    Calls Tryz.prog 32 #[.agg #[.bool a0, a1.cell, a2.cell, a3.cell, .string a4], .agg #[.bool a0, b1.cell, b2.cell, b3.cell, .string a4]] w fun e w' => e = .returned (.bool true) ∧ Grw w w' := by
  have e4 : (a4.toList == a4.toList) = true := beqL_yes rfl
  go_enter Tryz.func32, Tryz.ntmps32
  go_wp2_with fail
  obtain ⟨w0, hw0⟩ : ∃ x, ((w.alloc (.cells #[.bool a0, a1.cell, a2.cell, a3.cell, .string a4] 26)).alloc (.cells #[.bool a0, b1.cell, b2.cell, b3.cell, .string a4] 26)) = x := ⟨_, rfl⟩
  rw [hw0]
  have HG0 := Lib.hid (show Grw w w0 by rw [← hw0]; exact ((Grw.refl w).alloc _).alloc _)
  have qa2 : w0.cell? ⟨w.heap.size, 2, none⟩ = some (a2.cell) := by rw [← hw0]; simp
  have qb2 : w0.cell? ⟨w.heap.size + 1, 2, none⟩ = some (b2.cell) := by rw [← hw0]; simp
  have qa3 : w0.cell? ⟨w.heap.size, 3, none⟩ = some (a3.cell) := by rw [← hw0]; simp
  have qb3 : w0.cell? ⟨w.heap.size + 1, 3, none⟩ = some (b3.cell) := by rw [← hw0]; simp
  have qa4 : w0.cell? ⟨w.heap.size, 4, none⟩ = some (.string a4) := by rw [← hw0]; simp
  have qb4 : w0.cell? ⟨w.heap.size + 1, 4, none⟩ = some (.string a4) := by rw [← hw0]; simp
  clear hw0
  refine (eq_StringS a1 b1 hx1 hy1 hd1 _ (rx1.up HG0.out) (ry1.up HG0.out)).mono ?_
  rintro e w1 ⟨rfl, hg1⟩
  replace qa2 := (hg1.below.cell (show (⟨w.heap.size, 2, none⟩ : Addr).block < _ from World.block_lt_of_cell? _ _ qa2)).trans qa2
  replace qb2 := (hg1.below.cell (show (⟨w.heap.size + 1, 2, none⟩ : Addr).block < _ from World.block_lt_of_cell? _ _ qb2)).trans qb2
  replace qa3 := (hg1.below.cell (show (⟨w.heap.size, 3, none⟩ : Addr).block < _ from World.block_lt_of_cell? _ _ qa3)).trans qa3
  replace qb3 := (hg1.below.cell (show (⟨w.heap.size + 1, 3, none⟩ : Addr).block < _ from World.block_lt_of_cell? _ _ qb3)).trans qb3
  replace qa4 := (hg1.below.cell (show (⟨w.heap.size, 4, none⟩ : Addr).block < _ from World.block_lt_of_cell? _ _ qa4)).trans qa4
  replace qb4 := (hg1.below.cell (show (⟨w.heap.size + 1, 4, none⟩ : Addr).block < _ from World.block_lt_of_cell? _ _ qb4)).trans qb4
  have HG1 := Lib.hid (HG0.out.trans hg1); clear hg1
  go_wp2_with fail
  refine (eq_StringS a2 b2 hx2 hy2 hd2 _ (rx2.up HG1.out) (ry2.up HG1.out)).mono ?_
  rintro e w2 ⟨rfl, hg2⟩
  replace qa3 := (hg2.below.cell (show (⟨w.heap.size, 3, none⟩ : Addr).block < _ from World.block_lt_of_cell? _ _ qa3)).trans qa3
  replace qb3 := (hg2.below.cell (show (⟨w.heap.size + 1, 3, none⟩ : Addr).block < _ from World.block_lt_of_cell? _ _ qb3)).trans qb3
  replace qa4 := (hg2.below.cell (show (⟨w.heap.size, 4, none⟩ : Addr).block < _ from World.block_lt_of_cell? _ _ qa4)).trans qa4
  replace qb4 := (hg2.below.cell (show (⟨w.heap.size + 1, 4, none⟩ : Addr).block < _ from World.block_lt_of_cell? _ _ qb4)).trans qb4
  have HG2 := Lib.hid (HG1.out.trans hg2); clear hg2
  go_wp2_with fail
  refine (eq_StringS a3 b3 hx3 hy3 hd3 _ (rx3.up HG2.out) (ry3.up HG2.out)).mono ?_
  rintro e w3 ⟨rfl, hg3⟩
  replace qa4 := (hg3.below.cell (show (⟨w.heap.size, 4, none⟩ : Addr).block < _ from World.block_lt_of_cell? _ _ qa4)).trans qa4
  replace qb4 := (hg3.below.cell (show (⟨w.heap.size + 1, 4, none⟩ : Addr).block < _ from World.block_lt_of_cell? _ _ qb4)).trans qb4
  have HG3 := Lib.hid (HG2.out.trans hg3); clear hg3
  go_wp2_with fail
  go_ret
  exact ⟨rfl, HG3.out⟩

def SzPolicy (a1 : Rw) (a2 : Rw) (a3 : Rw) (a4 : ByteArray) (left : Int) (w : World) (e : Ending) (w' : World) : Prop :=
  ∃ r : Int, e = .returned (.int .i64 r) ∧ -1 ≤ r ∧ (0 ≤ r → r + (a1.weight : Nat) + (a2.weight : Nat) + (a3.weight : Nat) + (a4.size : Nat) = left) ∧ Grw w w'
set_option maxRecDepth 100000 in
set_option maxHeartbeats 4000000 in
theorem sz_Policy (a0 : Bool) (a1 : Rw) (a2 : Rw) (a3 : Rw) (a4 : ByteArray) (left : Int) (l1 : 0 ≤ left) (l2 : left ≤ 1099511627776) (w : World) (hx1 : IsStringS a1) (rx1 : a1.ReadR w.heap.size w) (z1 : a1.Small) (hx2 : IsStringS a2) (rx2 : a2.ReadR w.heap.size w) (z2 : a2.Small) (hx3 : IsStringS a3) (rx3 : a3.ReadR w.heap.size w) (z3 : a3.Small) (z4 : a4.size ≤ 9223372036854775807) :
    Calls Tryz.prog 26 #[.agg #[.bool a0, a1.cell, a2.cell, a3.cell, .string a4], .int .i64 left] w (SzPolicy a1 a2 a3 a4 left w) := by
  have HB := Lib.hid ((Grw.refl w).alloc (.cells #[.bool a0, a1.cell, a2.cell, a3.cell, .string a4] 48))
  have HR1 := Lib.hid (rx1.up HB.out)
  obtain ⟨xa1, xn1, xc1, hxc1⟩ := sl_form (is_sl_StringS hx1) rx1
  have HR2 := Lib.hid (rx2.up HB.out)
  obtain ⟨xa2, xn2, xc2, hxc2⟩ := sl_form (is_sl_StringS hx2) rx2
  have HR3 := Lib.hid (rx3.up HB.out)
  obtain ⟨xa3, xn3, xc3, hxc3⟩ := sl_form (is_sl_StringS hx3) rx3
  rw [hxc1, hxc2, hxc3] at HB ⊢
  have hsz1 := sz_StringS a1 hx1 (left) (by omega) (by omega) _ HR1.out z1
  simp only [hxc1, hxc2, hxc3] at hsz1
  have HSZ1 := Lib.hid hsz1; clear hsz1
  go_enter Tryz.func26, Tryz.ntmps26
  go_wp2_with fail
  refine HSZ1.out.mono ?_
  rintro e w1 ⟨r1, rfl, lo1, hr1, hg1⟩
  have q2 : w1.cell? ⟨w.heap.size, 2, none⟩ = some (.slice xa2 xn2 xc2) := by rw [hg1.below.cell (by rw [size_alloc]; show w.heap.size < _; omega)]; simp
  have q3 : w1.cell? ⟨w.heap.size, 3, none⟩ = some (.slice xa3 xn3 xc3) := by rw [hg1.below.cell (by rw [size_alloc]; show w.heap.size < _; omega)]; simp
  have q4 : w1.cell? ⟨w.heap.size, 4, none⟩ = some (.string a4) := by rw [hg1.below.cell (by rw [size_alloc]; show w.heap.size < _; omega)]; simp
  have HG1 := Lib.hid (HB.out.trans hg1); clear hg1
  by_cases d1 : r1 < 0
  · go_wp2_with fail
    go_ret
    exact ⟨-1, rfl, by omega, by omega, HG1.out⟩
  replace hr1 := hr1 (by omega)
  have hsz2 := sz_StringS a2 hx2 (r1) (by omega) (by omega) _ (rx2.up HG1.out) z2
  rw [hxc2] at hsz2
  have HSZ2 := Lib.hid hsz2; clear hsz2
  go_wp2_with fail
  refine HSZ2.out.mono ?_
  rintro e w2 ⟨r2, rfl, lo2, hr2, hg2⟩
  replace q3 := (hg2.below.cell (show (⟨w.heap.size, 3, none⟩ : Addr).block < _ from World.block_lt_of_cell? _ _ q3)).trans q3
  replace q4 := (hg2.below.cell (show (⟨w.heap.size, 4, none⟩ : Addr).block < _ from World.block_lt_of_cell? _ _ q4)).trans q4
  have HG2 := Lib.hid (HG1.out.trans hg2); clear hg2
  by_cases d2 : r2 < 0
  · go_wp2_with fail
    go_ret
    exact ⟨-1, rfl, by omega, by omega, HG2.out⟩
  replace hr2 := hr2 (by omega)
  have hsz3 := sz_StringS a3 hx3 (r2) (by omega) (by omega) _ (rx3.up HG2.out) z3
  rw [hxc3] at hsz3
  have HSZ3 := Lib.hid hsz3; clear hsz3
  go_wp2_with fail
  refine HSZ3.out.mono ?_
  rintro e w3 ⟨r3, rfl, lo3, hr3, hg3⟩
  replace q4 := (hg3.below.cell (show (⟨w.heap.size, 4, none⟩ : Addr).block < _ from World.block_lt_of_cell? _ _ q4)).trans q4
  have HG3 := Lib.hid (HG2.out.trans hg3); clear hg3
  by_cases d3 : r3 < 0
  · go_wp2_with fail
    go_ret
    exact ⟨-1, rfl, by omega, by omega, HG3.out⟩
  replace hr3 := hr3 (by omega)
  by_cases c4 : r3 - (a4.size : Int) < 0
  · go_wp2_with fail
    go_ret
    exact ⟨-1, rfl, by omega, by omega, HG3.out⟩
  go_wp2_with fail
  go_ret
  exact ⟨r3 - (a4.size : Int), rfl, by omega, by omega, HG3.out⟩

set_option maxRecDepth 100000 in
set_option maxHeartbeats 4000000 in
theorem toL_Policy (a0 : Bool) (a1 : Rw) (a2 : Rw) (a3 : Rw) (a4 : ByteArray) (w : World) (hx1 : IsStringS a1) (rx1 : a1.ReadR w.heap.size w) (hl1 : a1.weight ≤ 4398046511104) (hx2 : IsStringS a2) (rx2 : a2.ReadR w.heap.size w) (hl2 : a2.weight ≤ 4398046511104) (hx3 : IsStringS a3) (rx3 : a3.ReadR w.heap.size w) (hl3 : a3.weight ≤ 4398046511104) :
    Calls Tryz.prog 29 #[.agg #[.bool a0, a1.cell, a2.cell, a3.cell, .string a4]] w fun e w' => ∃ b1 b2 b3 : Rw, e = .returned (.agg #[.bool a0, b1.cell, b2.cell, b3.cell, .string a4]) ∧ IsStringS b1 ∧ b1.data = a1.data ∧ IsStringS b2 ∧ b2.data = a2.data ∧ IsStringS b3 ∧ b3.data = a3.data ∧ OwnRL w.heap.size w'.heap.size w' [b1, b2, b3] ∧ (blocksL [b1, b2, b3]).Nodup ∧ Below w.heap.size w w' := by
  obtain ⟨xa1, xn1, xc1, hxc1⟩ := sl_form (is_sl_StringS hx1) rx1
  obtain ⟨xa2, xn2, xc2, hxc2⟩ := sl_form (is_sl_StringS hx2) rx2
  obtain ⟨xa3, xn3, xc3, hxc3⟩ := sl_form (is_sl_StringS hx3) rx3
  obtain ⟨W, hW⟩ : ∃ W, ((w.alloc (.cells #[.bool a0, .slice xa1 xn1 xc1, .slice xa2 xn2 xc2, .slice xa3 xn3 xc3, .string a4] 48)).alloc (.cells #[.bool false, .slice none 0 0, .slice none 0 0, .slice none 0 0, .string ⟨#[]⟩] 26)).alloc (.cells #[.bool a0, .slice none 0 0, .slice none 0 0, .slice none 0 0, .string ⟨#[]⟩] 26) = W := ⟨_, rfl⟩
  have hg0 : Grw w W := by rw [← hW]; exact (((Grw.refl w).alloc _).alloc _).alloc _
  have ho : W.heap[w.heap.size + 2]? = some (.cells #[.bool a0, .slice none 0 0, .slice none 0 0, .slice none 0 0, .string ⟨#[]⟩] 26 (0, 0)) := by rw [← hW]; exact three_new2 w _ _ _
  have hz : W.heap[w.heap.size + 1]? = some (.cells #[.bool false, .slice none 0 0, .slice none 0 0, .slice none 0 0, .string ⟨#[]⟩] 26 (0, 0)) := by rw [← hW]; exact three_new1 w _ _ _
  have ha : W.heap[w.heap.size]? = some (.cells #[.bool a0, .slice xa1 xn1 xc1, .slice xa2 xn2 xc2, .slice xa3 xn3 xc3, .string a4] 48 (0, 0)) := by rw [← hW]; exact three_new0 w _ _ _
  have HSZ := Lib.hid (show w.heap.size + 3 ≤ W.heap.size by rw [← hW, size_alloc, size_alloc, size_alloc]; exact Nat.le_refl _)
  have HTO1 := Lib.hid (fun (V : World) (hv : Below w.heap.size w V) => by have hr := to_StringS a1 hx1 V (Rw.ReadR.mono hv.size _ (Rw.ReadR.below hv (Nat.le_refl _) _ rx1)) hl1; rw [hxc1] at hr; exact hr)
  have HTO2 := Lib.hid (fun (V : World) (hv : Below w.heap.size w V) => by have hr := to_StringS a2 hx2 V (Rw.ReadR.mono hv.size _ (Rw.ReadR.below hv (Nat.le_refl _) _ rx2)) hl2; rw [hxc2] at hr; exact hr)
  have HTO3 := Lib.hid (fun (V : World) (hv : Below w.heap.size w V) => by have hr := to_StringS a3 hx3 V (Rw.ReadR.mono hv.size _ (Rw.ReadR.below hv (Nat.le_refl _) _ rx3)) hl3; rw [hxc3] at hr; exact hr)
  rw [hxc1, hxc2, hxc3]
  have HB := Lib.hid hg0.below; have HO := Lib.hid ho; have HZ := Lib.hid hz; have HA := Lib.hid ha; have HW := Lib.hid hW
  clear rx1 hxc1 rx2 hxc2 rx3 hxc3 hg0 ho hz ha hW
  go_enter Tryz.func29, Tryz.ntmps29
  go_wp2_with fail
  rw [HW.out]
  refine (HTO1.out _ HB.out).mono ?_
  rintro e w1 ⟨y1, rfl, hy1, hd1, hn1, ho1, hb⟩
  obtain ⟨ya1, yn1, yc1, hyc1⟩ := sl_form (is_sl_StringS hy1) (Rw.OwnR.reads _ ho1)
  rw [hyc1]
  have HY1 := Lib.hid hy1; have HD1 := Lib.hid hd1; have HN1 := Lib.hid hn1; have HYC1 := Lib.hid hyc1; clear hy1 hd1 hn1 hyc1
  have HOW1 := Lib.hid (own_mono ho1 HSZ.out (Nat.le_refl _)); clear ho1
  have h1 := below_heap hb (heap_lt HO.out) HO.out; have h2 := below_heap hb (heap_lt HA.out) HA.out; have h3 := below_heap hb (heap_lt HZ.out) HZ.out
  replace HB := Lib.hid (HB.out.trans (hb.mono HB.out.size)); replace HSZ := Lib.hid (Nat.le_trans HSZ.out hb.size); clear hb
  have oq0 := box_cell h1 (j := 0) rfl; have oz0 := box_frz h1 0
  have oq1 := box_cell h1 (j := 1) rfl; have oz1 := box_frz h1 1
  have oq2 := box_cell h1 (j := 2) rfl; have oz2 := box_frz h1 2
  have oq3 := box_cell h1 (j := 3) rfl; have oz3 := box_frz h1 3
  have oq4 := box_cell h1 (j := 4) rfl; have oz4 := box_frz h1 4
  have pq0 := box_cell h2 (j := 0) rfl
  have pq1 := box_cell h2 (j := 1) rfl
  have pq2 := box_cell h2 (j := 2) rfl
  have pq3 := box_cell h2 (j := 3) rfl
  have pq4 := box_cell h2 (j := 4) rfl
  have sq0 := box_cell h3 (j := 0) rfl; have sz0 := box_frz h3 0
  have sq1 := box_cell h3 (j := 1) rfl; have sz1 := box_frz h3 1
  have sq2 := box_cell h3 (j := 2) rfl; have sz2 := box_frz h3 2
  have sq3 := box_cell h3 (j := 3) rfl; have sz3 := box_frz h3 3
  have sq4 := box_cell h3 (j := 4) rfl; have sz4 := box_frz h3 4
  replace HO := Lib.hid h1; replace HA := Lib.hid h2; replace HZ := Lib.hid h3; clear h1 h2 h3
  go_wp2_with fail
  clear oq0 oz0 pq0 sq0 sz0 oq1 oz1 pq1 sq1 sz1 oq2 oz2 pq2 sq2 sz2 oq3 oz3 pq3 sq3 sz3 oq4 oz4 pq4 sq4 sz4
  have h1 := HO.out; have h2 := HA.out; have h3 := HZ.out
  replace h1 := heap_one (o := 1) h1 (.slice ya1 yn1 yc1)
  replace h2 := box_far h2 (show w.heap.size ≠ w.heap.size + 2 by omega) 1 (.slice ya1 yn1 yc1)
  replace h3 := box_far h3 (show w.heap.size + 1 ≠ w.heap.size + 2 by omega) 1 (.slice ya1 yn1 yc1)
  replace h1 : (w1.setCell ⟨w.heap.size + 2, 1, none⟩ (.slice ya1 yn1 yc1)).heap[w.heap.size + 2]? = some (.cells #[.bool a0, .slice ya1 yn1 yc1, .slice none 0 0, .slice none 0 0, .string ⟨#[]⟩] 26 (0, 0)) := h1
  have HON := Lib.hid (show OnlyB [w.heap.size + 1, w.heap.size + 2] w1 (w1.setCell ⟨w.heap.size + 2, 1, none⟩ (.slice ya1 yn1 yc1)) from (OnlyB.refl _ w1).set (by simp))
  replace HOW1 := Lib.hid (Rw.OwnR.top (Rw.OwnR.only HON.out y1 HOW1.out fun b hb hm => by have h := (Rw.OwnR.lt y1 HOW1.out b hb).1; simp only [List.mem_cons, List.mem_nil_iff, or_false] at hm; omega))
  replace HB := Lib.hid (HB.out.trans (HON.out.below (fun b hb => by simp only [List.mem_cons, List.mem_nil_iff, or_false] at hb; omega) HB.out.size)); replace HSZ := Lib.hid (Nat.le_trans HSZ.out HON.out.size)
  clear HON
  replace HO := Lib.hid h1; replace HA := Lib.hid h2; replace HZ := Lib.hid h3; clear h1 h2 h3
  refine (HTO2.out _ HB.out).mono ?_
  rintro e w2 ⟨y2, rfl, hy2, hd2, hn2, ho2, hb⟩
  obtain ⟨ya2, yn2, yc2, hyc2⟩ := sl_form (is_sl_StringS hy2) (Rw.OwnR.reads _ ho2)
  rw [hyc2]
  have HY2 := Lib.hid hy2; have HD2 := Lib.hid hd2; have HN2 := Lib.hid hn2; have HYC2 := Lib.hid hyc2; clear hy2 hd2 hn2 hyc2
  have HX1_2 := Lib.hid (show ∀ b ∈ y1.blocks, b ∉ y2.blocks from fun b h1 h2 => by have := (Rw.OwnR.lt _ HOW1.out b h1).2.2; have := (Rw.OwnR.lt _ ho2 b h2).1; omega)
  replace HOW1 := Lib.hid (Rw.OwnR.top (Rw.OwnR.later HOW1.out hb))
  have HOW2 := Lib.hid (own_mono ho2 HSZ.out (Nat.le_refl _)); clear ho2
  have h1 := below_heap hb (heap_lt HO.out) HO.out; have h2 := below_heap hb (heap_lt HA.out) HA.out; have h3 := below_heap hb (heap_lt HZ.out) HZ.out
  replace HB := Lib.hid (HB.out.trans (hb.mono HB.out.size)); replace HSZ := Lib.hid (Nat.le_trans HSZ.out hb.size); clear hb
  have oq0 := box_cell h1 (j := 0) rfl; have oz0 := box_frz h1 0
  have oq1 := box_cell h1 (j := 1) rfl; have oz1 := box_frz h1 1
  have oq2 := box_cell h1 (j := 2) rfl; have oz2 := box_frz h1 2
  have oq3 := box_cell h1 (j := 3) rfl; have oz3 := box_frz h1 3
  have oq4 := box_cell h1 (j := 4) rfl; have oz4 := box_frz h1 4
  have pq0 := box_cell h2 (j := 0) rfl
  have pq1 := box_cell h2 (j := 1) rfl
  have pq2 := box_cell h2 (j := 2) rfl
  have pq3 := box_cell h2 (j := 3) rfl
  have pq4 := box_cell h2 (j := 4) rfl
  have sq0 := box_cell h3 (j := 0) rfl; have sz0 := box_frz h3 0
  have sq1 := box_cell h3 (j := 1) rfl; have sz1 := box_frz h3 1
  have sq2 := box_cell h3 (j := 2) rfl; have sz2 := box_frz h3 2
  have sq3 := box_cell h3 (j := 3) rfl; have sz3 := box_frz h3 3
  have sq4 := box_cell h3 (j := 4) rfl; have sz4 := box_frz h3 4
  replace HO := Lib.hid h1; replace HA := Lib.hid h2; replace HZ := Lib.hid h3; clear h1 h2 h3
  go_wp2_with fail
  clear oq0 oz0 pq0 sq0 sz0 oq1 oz1 pq1 sq1 sz1 oq2 oz2 pq2 sq2 sz2 oq3 oz3 pq3 sq3 sz3 oq4 oz4 pq4 sq4 sz4
  have h1 := HO.out; have h2 := HA.out; have h3 := HZ.out
  replace h1 := heap_one (o := 2) h1 (.slice ya2 yn2 yc2)
  replace h2 := box_far h2 (show w.heap.size ≠ w.heap.size + 2 by omega) 2 (.slice ya2 yn2 yc2)
  replace h3 := box_far h3 (show w.heap.size + 1 ≠ w.heap.size + 2 by omega) 2 (.slice ya2 yn2 yc2)
  replace h1 : (w2.setCell ⟨w.heap.size + 2, 2, none⟩ (.slice ya2 yn2 yc2)).heap[w.heap.size + 2]? = some (.cells #[.bool a0, .slice ya1 yn1 yc1, .slice ya2 yn2 yc2, .slice none 0 0, .string ⟨#[]⟩] 26 (0, 0)) := h1
  have HON := Lib.hid (show OnlyB [w.heap.size + 1, w.heap.size + 2] w2 (w2.setCell ⟨w.heap.size + 2, 2, none⟩ (.slice ya2 yn2 yc2)) from (OnlyB.refl _ w2).set (by simp))
  replace HOW1 := Lib.hid (Rw.OwnR.top (Rw.OwnR.only HON.out y1 HOW1.out fun b hb hm => by have h := (Rw.OwnR.lt y1 HOW1.out b hb).1; simp only [List.mem_cons, List.mem_nil_iff, or_false] at hm; omega))
  replace HOW2 := Lib.hid (Rw.OwnR.top (Rw.OwnR.only HON.out y2 HOW2.out fun b hb hm => by have h := (Rw.OwnR.lt y2 HOW2.out b hb).1; simp only [List.mem_cons, List.mem_nil_iff, or_false] at hm; omega))
  replace HB := Lib.hid (HB.out.trans (HON.out.below (fun b hb => by simp only [List.mem_cons, List.mem_nil_iff, or_false] at hb; omega) HB.out.size)); replace HSZ := Lib.hid (Nat.le_trans HSZ.out HON.out.size)
  clear HON
  replace HO := Lib.hid h1; replace HA := Lib.hid h2; replace HZ := Lib.hid h3; clear h1 h2 h3
  refine (HTO3.out _ HB.out).mono ?_
  rintro e w3 ⟨y3, rfl, hy3, hd3, hn3, ho3, hb⟩
  obtain ⟨ya3, yn3, yc3, hyc3⟩ := sl_form (is_sl_StringS hy3) (Rw.OwnR.reads _ ho3)
  rw [hyc3]
  have HY3 := Lib.hid hy3; have HD3 := Lib.hid hd3; have HN3 := Lib.hid hn3; have HYC3 := Lib.hid hyc3; clear hy3 hd3 hn3 hyc3
  have HX1_3 := Lib.hid (show ∀ b ∈ y1.blocks, b ∉ y3.blocks from fun b h1 h2 => by have := (Rw.OwnR.lt _ HOW1.out b h1).2.2; have := (Rw.OwnR.lt _ ho3 b h2).1; omega)
  replace HOW1 := Lib.hid (Rw.OwnR.top (Rw.OwnR.later HOW1.out hb))
  have HX2_3 := Lib.hid (show ∀ b ∈ y2.blocks, b ∉ y3.blocks from fun b h1 h2 => by have := (Rw.OwnR.lt _ HOW2.out b h1).2.2; have := (Rw.OwnR.lt _ ho3 b h2).1; omega)
  replace HOW2 := Lib.hid (Rw.OwnR.top (Rw.OwnR.later HOW2.out hb))
  have HOW3 := Lib.hid (own_mono ho3 HSZ.out (Nat.le_refl _)); clear ho3
  have h1 := below_heap hb (heap_lt HO.out) HO.out; have h2 := below_heap hb (heap_lt HA.out) HA.out; have h3 := below_heap hb (heap_lt HZ.out) HZ.out
  replace HB := Lib.hid (HB.out.trans (hb.mono HB.out.size)); replace HSZ := Lib.hid (Nat.le_trans HSZ.out hb.size); clear hb
  have oq0 := box_cell h1 (j := 0) rfl; have oz0 := box_frz h1 0
  have oq1 := box_cell h1 (j := 1) rfl; have oz1 := box_frz h1 1
  have oq2 := box_cell h1 (j := 2) rfl; have oz2 := box_frz h1 2
  have oq3 := box_cell h1 (j := 3) rfl; have oz3 := box_frz h1 3
  have oq4 := box_cell h1 (j := 4) rfl; have oz4 := box_frz h1 4
  have pq0 := box_cell h2 (j := 0) rfl
  have pq1 := box_cell h2 (j := 1) rfl
  have pq2 := box_cell h2 (j := 2) rfl
  have pq3 := box_cell h2 (j := 3) rfl
  have pq4 := box_cell h2 (j := 4) rfl
  have sq0 := box_cell h3 (j := 0) rfl; have sz0 := box_frz h3 0
  have sq1 := box_cell h3 (j := 1) rfl; have sz1 := box_frz h3 1
  have sq2 := box_cell h3 (j := 2) rfl; have sz2 := box_frz h3 2
  have sq3 := box_cell h3 (j := 3) rfl; have sz3 := box_frz h3 3
  have sq4 := box_cell h3 (j := 4) rfl; have sz4 := box_frz h3 4
  replace HO := Lib.hid h1; replace HA := Lib.hid h2; replace HZ := Lib.hid h3; clear h1 h2 h3
  go_wp2_with fail
  have h1 := HO.out; have h2 := HA.out; have h3 := HZ.out
  replace h1 := heap_one (o := 3) h1 (.slice ya3 yn3 yc3)
  replace h2 := box_far h2 (show w.heap.size ≠ w.heap.size + 2 by omega) 3 (.slice ya3 yn3 yc3)
  replace h3 := box_far h3 (show w.heap.size + 1 ≠ w.heap.size + 2 by omega) 3 (.slice ya3 yn3 yc3)
  replace h1 := heap_one (o := 4) h1 (.string a4)
  replace h2 := box_far h2 (show w.heap.size ≠ w.heap.size + 2 by omega) 4 (.string a4)
  replace h3 := box_far h3 (show w.heap.size + 1 ≠ w.heap.size + 2 by omega) 4 (.string a4)
  replace h1 : ((w3.setCell ⟨w.heap.size + 2, 3, none⟩ (.slice ya3 yn3 yc3)).setCell ⟨w.heap.size + 2, 4, none⟩ (.string a4)).heap[w.heap.size + 2]? = some (.cells #[.bool a0, .slice ya1 yn1 yc1, .slice ya2 yn2 yc2, .slice ya3 yn3 yc3, .string a4] 26 (0, 0)) := h1
  replace h3 := heap_one (o := 0) h3 (.bool a0)
  replace h3 := heap_one (o := 1) h3 (.slice ya1 yn1 yc1)
  replace h3 := heap_one (o := 2) h3 (.slice ya2 yn2 yc2)
  replace h3 := heap_one (o := 3) h3 (.slice ya3 yn3 yc3)
  replace h3 := heap_one (o := 4) h3 (.string a4)
  replace h3 : (((((((w3.setCell ⟨w.heap.size + 2, 3, none⟩ (.slice ya3 yn3 yc3)).setCell ⟨w.heap.size + 2, 4, none⟩ (.string a4)).setCell ⟨w.heap.size + 1, 0, none⟩ (.bool a0)).setCell ⟨w.heap.size + 1, 1, none⟩ (.slice ya1 yn1 yc1)).setCell ⟨w.heap.size + 1, 2, none⟩ (.slice ya2 yn2 yc2)).setCell ⟨w.heap.size + 1, 3, none⟩ (.slice ya3 yn3 yc3)).setCell ⟨w.heap.size + 1, 4, none⟩ (.string a4)).heap[w.heap.size + 1]? = some (.cells #[.bool a0, .slice ya1 yn1 yc1, .slice ya2 yn2 yc2, .slice ya3 yn3 yc3, .string a4] 26 (0, 0)) := h3
  have HON := Lib.hid (show OnlyB [w.heap.size + 1, w.heap.size + 2] w3 (((((((w3.setCell ⟨w.heap.size + 2, 3, none⟩ (.slice ya3 yn3 yc3)).setCell ⟨w.heap.size + 2, 4, none⟩ (.string a4)).setCell ⟨w.heap.size + 1, 0, none⟩ (.bool a0)).setCell ⟨w.heap.size + 1, 1, none⟩ (.slice ya1 yn1 yc1)).setCell ⟨w.heap.size + 1, 2, none⟩ (.slice ya2 yn2 yc2)).setCell ⟨w.heap.size + 1, 3, none⟩ (.slice ya3 yn3 yc3)).setCell ⟨w.heap.size + 1, 4, none⟩ (.string a4)) from (((((((OnlyB.refl _ w3).set (by simp)).set (by simp)).set (by simp)).set (by simp)).set (by simp)).set (by simp)).set (by simp))
  replace HOW1 := Lib.hid (Rw.OwnR.top (Rw.OwnR.only HON.out y1 HOW1.out fun b hb hm => by have h := (Rw.OwnR.lt y1 HOW1.out b hb).1; simp only [List.mem_cons, List.mem_nil_iff, or_false] at hm; omega))
  replace HOW2 := Lib.hid (Rw.OwnR.top (Rw.OwnR.only HON.out y2 HOW2.out fun b hb hm => by have h := (Rw.OwnR.lt y2 HOW2.out b hb).1; simp only [List.mem_cons, List.mem_nil_iff, or_false] at hm; omega))
  replace HOW3 := Lib.hid (Rw.OwnR.top (Rw.OwnR.only HON.out y3 HOW3.out fun b hb hm => by have h := (Rw.OwnR.lt y3 HOW3.out b hb).1; simp only [List.mem_cons, List.mem_nil_iff, or_false] at hm; omega))
  replace HB := Lib.hid (HB.out.trans (HON.out.below (fun b hb => by simp only [List.mem_cons, List.mem_nil_iff, or_false] at hb; omega) HB.out.size)); replace HSZ := Lib.hid (Nat.le_trans HSZ.out HON.out.size)
  clear HON
  have fq0 := box_cell h3 (j := 0) rfl
  have fq1 := box_cell h3 (j := 1) rfl
  have fq2 := box_cell h3 (j := 2) rfl
  have fq3 := box_cell h3 (j := 3) rfl
  have fq4 := box_cell h3 (j := 4) rfl
  refine bodyPost_ret (v := .agg #[.bool a0, .slice ya1 yn1 yc1, .slice ya2 yn2 yc2, .slice ya3 yn3 yc3, .string a4]) (by simp [results, Tryz.results29, go_sem, fq0, fq1, fq2, fq3, fq4]) rfl ?_
  refine ⟨y1, y2, y3, by rw [HYC1.out, HYC2.out, HYC3.out], HY1.out, HD1.out, HY2.out, HD2.out, HY3.out, HD3.out, ?_, ?_, HB.out⟩
  · refine ownRL_iff.2 fun c hc => ?_
    simp only [List.mem_cons, List.mem_nil_iff, or_false] at hc
    rcases hc with rfl | rfl | rfl
    · exact own_mono HOW1.out (by omega) (Nat.le_refl _)
    · exact own_mono HOW2.out (by omega) (Nat.le_refl _)
    · exact own_mono HOW3.out (by omega) (Nat.le_refl _)
  · simp only [blocksL, List.append_nil]
    exact (List.nodup_append.2 ⟨HN1.out, (List.nodup_append.2 ⟨HN2.out, HN3.out, fun a ha b hb e => by subst e; exact absurd hb (HX2_3.out a ha)⟩), fun a ha b hb e => by subst e; simp only [List.mem_append] at hb; rcases hb with hb | hb <;> first | exact absurd hb (HX1_2.out a ha) | exact absurd hb (HX1_3.out a ha)⟩)

theorem eqV_Policy (a0 : Bool) (a1 b1 : Rw) (a2 b2 : Rw) (a3 b3 : Rw) (a4 : ByteArray) (u1 u2 u3 v1 v2 v3 : Value) (e1 : a1.cell = u1) (f1 : b1.cell = v1) (e2 : a2.cell = u2) (f2 : b2.cell = v2) (e3 : a3.cell = u3) (f3 : b3.cell = v3) (w : World) (hx1 : IsStringS a1) (hy1 : IsStringS b1) (hd1 : a1.data = b1.data) (rx1 : a1.ReadR w.heap.size w) (ry1 : b1.ReadR w.heap.size w) (hx2 : IsStringS a2) (hy2 : IsStringS b2) (hd2 : a2.data = b2.data) (rx2 : a2.ReadR w.heap.size w) (ry2 : b2.ReadR w.heap.size w) (hx3 : IsStringS a3) (hy3 : IsStringS b3) (hd3 : a3.data = b3.data) (rx3 : a3.ReadR w.heap.size w) (ry3 : b3.ReadR w.heap.size w) :
    Calls Tryz.prog 32 #[.agg #[.bool a0, u1, u2, u3, .string a4], .agg #[.bool a0, v1, v2, v3, .string a4]] w fun e w' => e = .returned (.bool true) ∧ Grw w w' := by
  subst e1; subst f1; subst e2; subst f2; subst e3; subst f3
  exact eq_Policy a0 a1 b1 a2 b2 a3 b3 a4 w hx1 hy1 hd1 rx1 ry1 hx2 hy2 hd2 rx2 ry2 hx3 hy3 hd3 rx3 ry3

end Go.Proofs.YtkjjiinccljhjaaGreatDoor
namespace Go.Proofs.YtkjjiinccljhjaaGreatDoor
open Go.ChangeShapes Go.WideShapes Go.ChangeAt Go.RowKit Go.Joins Go.Deep

/-- A policy as a plain value. -/
structure Pol where
  set : Bool
  scr : List ByteArray
  sty : List ByteArray
  img : List ByteArray
  non : ByteArray
/-- A policy in memory: its three slices read so. -/
def ReadP (hi : Nat) (w : World) (v1 v2 v3 : Value) (p : Pol) : Prop := ReadsK encS 1 hi w v1 p.scr ∧ ReadsK encS 1 hi w v2 p.sty ∧ ReadsK encS 1 hi w v3 p.img
/-- A policy that came in. -/
def IsPo (w : World) (v1 v2 v3 : Value) (p : Pol) : Prop := IsSts w v1 p.scr ∧ IsSts w v2 p.sty ∧ IsSts w v3 p.img ∧ p.non.size ≤ 9223372036854775807
theorem ReadP.below {hi B : Nat} {w w' : World} {v1 v2 v3 : Value} {p : Pol} (h : ReadP hi w v1 v2 v3 p) (hb : Below B w w') (hB : hi ≤ B) : ReadP hi w' v1 v2 v3 p := ⟨h.1.below hb hB, h.2.1.below hb hB, h.2.2.below hb hB⟩
theorem ReadP.mono {hi hi' : Nat} {w : World} {v1 v2 v3 : Value} {p : Pol} (h : ReadP hi w v1 v2 v3 p) (hh : hi ≤ hi') : ReadP hi' w v1 v2 v3 p := ⟨h.1.mono hh, h.2.1.mono hh, h.2.2.mono hh⟩

set_option maxRecDepth 100000 in
theorem policy_of {H : Type} {enc : TypeId × Value → H} {W : World} {base : Nat} {v : Value} {d : DataW H} {p : List MemPlace} (hv : Value.okWide Tryz.prog W .any base 48 v) (h : DataW.Trod enc Tryz.prog W 0 (fun _ => true) true 48 v d p) :
    ∃ (q : Pol) (a1 : Option Addr) (n1 c1 : Nat) (a2 : Option Addr) (n2 c2 : Nat) (a3 : Option Addr) (n3 c3 : Nat), v = .agg #[.bool q.set, .slice a1 n1 c1, .slice a2 n2 c2, .slice a3 n3 c3, .string q.non] ∧ IsPo W (.slice a1 n1 c1) (.slice a2 n2 c2) (.slice a3 n3 c3) q := by
  obtain ⟨cs, m, rfl, hsz, hat⟩ := open_fields Tryz.underlying48 (by kernel_rfl) (by kernel_rfl) hv h
  obtain ⟨u0, y0, e0, t0⟩ := hat 0 _ rfl
  obtain ⟨u1, y1, e1, t1⟩ := hat 1 _ rfl
  obtain ⟨u2, y2, e2, t2⟩ := hat 2 _ rfl
  obtain ⟨u3, y3, e3, t3⟩ := hat 3 _ rfl
  obtain ⟨u4, y4, e4, t4⟩ := hat 4 _ rfl
  obtain ⟨b, k0, _⟩ := DataW.trod_bool Tryz.underlying4 t0
  obtain ⟨s, k4, _, w4⟩ := DataW.trod_string Tryz.underlying9 t4
  cases k0; cases k4
  obtain ⟨x1, i1⟩ := strs_of t1
  obtain ⟨x2, i2⟩ := strs_of t2
  obtain ⟨x3, i3⟩ := strs_of t3
  obtain ⟨a1, n1, c1, rfl⟩ := i1.form
  obtain ⟨a2, n2, c2, rfl⟩ := i2.form
  obtain ⟨a3, n3, c3, rfl⟩ := i3.form
  refine ⟨⟨b, x1, x2, x3, s⟩, a1, n1, c1, a2, n2, c2, a3, n3, c3, ?_, i1, i2, i3, w4⟩
  have hsz5 : cs.size = 5 := hsz
  congr 1
  apply Array.ext
  · rw [hsz5]; rfl
  · intro i h1 h2
    rw [hsz5] at h1
    have hh : ∀ {j : Nat} {u : Value} (hj : j < cs.size), cs[j]? = some u → cs[j] = u := fun hj e => Option.some.inj ((Array.getElem?_eq_getElem hj).symm.trans e)
    match i, h1 with
    | 0, _ => exact hh _ e0
    | 1, _ => exact hh _ e1
    | 2, _ => exact hh _ e2
    | 3, _ => exact hh _ e3
    | 4, _ => exact hh _ e4

end Go.Proofs.YtkjjiinccljhjaaGreatDoor
