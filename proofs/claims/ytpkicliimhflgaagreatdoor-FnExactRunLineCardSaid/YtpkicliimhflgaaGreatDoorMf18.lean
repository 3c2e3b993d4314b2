/- Helper contracts over the functions with which the laws draw their inputs out of bytes: whatever the bytes, what is drawn is in range, and of what lay in memory before only the reader's own block is written. What an argument that came in is, for the walks: an int in its range, a string within reach, a slice of integers whose cells are known. Helper facts, no claim of its own. What a slice argument that came in reads as, for the walks: the list of its elements. Helper facts, no claim of its own. What a builder, and a slice of tokens, that came in is, for the walks. Helper facts, no claim of its own. Helper contracts over the functions with which the laws copy, compare, measure and mark slices, by program (deep.py). Asked: what lies in memory is as named. Helper facts for the walks over the pieces of a page: a slice of tokens of the call's own over the changes of memory, what is answered, in plain words; the pieces that the program takes. No claim of its own. Helper facts for the walks of the exact laws over tokens: bounds on the marks, the call's own tokens over the changes of memory. No claim of its own. What walks of laws on builders share: a copy of a builder as a reading, what stays below. No claim of its own. What the walks of the laws on AddToken and AddTokens share: copies of arguments as readings, the calls of the program and of the model in one form, boxes. No claim of its own. What a sheet, and a slice of sheets, that came in is, for the walks. Helper facts, no claim of its own. -/
import Derived.Test.YtpkicliimhflgaaGreatDoorRows
import Derived.WalkKit
import Derived.ProofKit
import Derived.OpenShut
import Derived.LoopTactic
import Derived.Lib.Hide
import Derived.Below
import Derived.Laws.Rows
import Derived.Laws.BitsLemmas
import Derived.Deep.QuietTactic
import Derived.BigQuiet
import Derived.ShutString
import Derived.ChangeOld
import Derived.SizedLaws
import Derived.Test.YtpkicliimhflgaaGreatDoorMf1
import Derived.Test.YtpkicliimhflgaaGreatDoorMf17
import Derived.Test.YtpkicliimhflgaaGreatDoorMf6
import Derived.Test.YtpkicliimhflgaaGreatDoorMf4
import Derived.Test.YtpkicliimhflgaaGreatDoorMf3
import Derived.Shelf.SlSortCmp.QuietGrown
import Derived.Test.YtpkicliimhflgaaGreatDoorMf7
import Derived.Test.YtpkicliimhflgaaGreatDoorMf13
import Derived.Test.YtpkicliimhflgaaGreatDoorMf14
namespace Go.Proofs.YtpkicliimhflgaaGreatDoor

open Go.ChangeShapes Go.WideShapes Go.ChangeAt Go.RowKit

/-- The bytes that the reader reads: a slice value of length len, each of its cells a byte, below block B. -/
def CodeOk (B : Nat) (w : World) (sv : Value) (len : Nat) : Prop :=
  ∃ (a : Option Addr) (cap : Nat), sv = .slice a len cap ∧ len ≤ 1048576 ∧ (len = 0 ∨ ∃ blk off, a = some ⟨blk, off, none⟩ ∧ blk < B ∧ ∀ j, j < len → ∃ n : Int, 0 ≤ n ∧ n < 256 ∧ w.cell? ⟨blk, off + j, none⟩ = some (.int .u8 n))
/-- Block b is a reader over these bytes. -/
def Cur (b : Nat) (sv : Value) (len : Nat) (w : World) : Prop :=
  ∃ (i : Nat) (h : Int), w.heap[b]? = some (.cells #[sv, .int .i64 i, .int .i64 h] 139 (0, 0)) ∧ i ≤ len ∧ CodeOk b w sv len
/-- Of what lay in memory only block b may have been written; no block is new. -/
structure Only (b : Nat) (w w' : World) : Prop where
  os : w'.os = w.os
  tape : w'.tape = w.tape
  output : w'.output = w.output
  size : w'.heap.size = w.heap.size
  block : ∀ k, k ≠ b → w'.heap[k]? = w.heap[k]?

def ByteOut (b : Nat) (sv : Value) (len : Nat) (w : World) (e : Ending) (w' : World) : Prop :=
  ∃ x : Int, e = .returned (.int .i64 x) ∧ 0 ≤ x ∧ x ≤ 255 ∧ Cur b sv len w' ∧ Only b w w'

theorem and255 (n : Int) : bits .and .i64 n 255 = n % 256 := by
  have h255 : (BitVec.ofInt 64 255).toNat = 2 ^ 8 - 1 := by decide
  have key : (BitVec.ofInt 64 n &&& BitVec.ofInt 64 255).toNat = (n % ((2 ^ 64 : Nat) : Int)).toNat % 2 ^ 8 := by
    rw [BitVec.toNat_and, BitVec.toNat_ofInt, h255, Nat.and_two_pow_sub_one_eq_mod]
  show IntKind.i64.wrap ((BitVec.ofInt 64 n &&& BitVec.ofInt 64 255).toNat : Nat) = n % 256
  rw [key, IntKind.wrap_i64]
  omega
theorem Only.refl (b : Nat) (w : World) : Only b w w := ⟨rfl, rfl, rfl, rfl, fun _ _ => rfl⟩
theorem Only.trans {b : Nat} {w1 w2 w3 : World} (h : Only b w1 w2) (k : Only b w2 w3) : Only b w1 w3 :=
  ⟨k.os.trans h.os, k.tape.trans h.tape, k.output.trans h.output, k.size.trans h.size, fun i hi => (k.block i hi).trans (h.block i hi)⟩
theorem Only.set {b : Nat} {a w : World} (h : Only b a w) (o : Nat) (v : Value) : Only b a (w.setCell ⟨b, o, none⟩ v) :=
  h.trans ⟨rfl, rfl, rfl, by simp [World.setCell], fun k hk => Below.heap_setCell _ _ _ _ hk⟩
theorem Only.drewN {b : Nat} {a w : World} (h : Only b a w) (n : Nat) : Only b a (w.drewN n) := h.trans ⟨rfl, rfl, rfl, rfl, fun _ _ => rfl⟩
theorem Only.cell {b : Nat} {w w' : World} (h : Only b w w') {p : Addr} (hp : p.block ≠ b) : w'.cell? p = w.cell? p := World.cell?_of_block (w := w) (h.block p.block hp)
theorem Only.below {b : Nat} {w w' : World} (h : Only b w w') : Below b w w' := ⟨h.os, h.tape, h.output, by rw [h.size]; exact Nat.le_refl _, fun k hk => h.block k (by omega)⟩
theorem CodeOk.only {b : Nat} {w w' : World} {sv : Value} {len : Nat} (h : CodeOk b w sv len) (k : Only b w w') : CodeOk b w' sv len := by
  obtain ⟨a, cap, e, h1, h2⟩ := h
  refine ⟨a, cap, e, h1, ?_⟩
  rcases h2 with h2 | ⟨blk, off, e2, hb, hc⟩
  · exact Or.inl h2
  · refine Or.inr ⟨blk, off, e2, hb, fun j hj => ?_⟩
    obtain ⟨n, n0, n1, hn⟩ := hc j hj
    exact ⟨n, n0, n1, by rw [k.cell (by show blk ≠ b; omega)]; exact hn⟩
theorem set_at2 {b : Nat} {w : World} {x y z v : Value} {T : TypeId} (h : w.heap[b]? = some (.cells #[x, y, z] T (0, 0))) : (w.setCell ⟨b, 2, none⟩ v).heap[b]? = some (.cells #[x, y, v] T (0, 0)) := by
  rw [heap_setCell_same w b 2 _ T v h]; rfl
theorem set_at1 {b : Nat} {w : World} {x y z v : Value} {T : TypeId} (h : w.heap[b]? = some (.cells #[x, y, z] T (0, 0))) : (w.setCell ⟨b, 1, none⟩ v).heap[b]? = some (.cells #[x, v, z] T (0, 0)) := by
  rw [heap_setCell_same w b 1 _ T v h]; rfl

set_option maxHeartbeats 1000000 in
theorem byte_any (b : Nat) (sv : Value) (len : Nat) (w : World) (hc : Cur b sv len w) :
    Calls Tryz.prog 130 #[.pointer (some ⟨b, 0, none⟩)] w (ByteOut b sv len w) := by
  obtain ⟨i, h, hb, hi, hco⟩ := hc
  obtain ⟨a, cap, hsv, hlen, hcode⟩ := id hco
  subst hsv
  have c0 : w.cell? ⟨b, 0, none⟩ = some (.slice a len cap) := by unfold World.cell?; rw [hb]; rfl
  have c1 : w.cell? ⟨b, 1, none⟩ = some (.int .i64 i) := by unfold World.cell?; rw [hb]; rfl
  have c2 : w.cell? ⟨b, 2, none⟩ = some (.int .i64 h) := by unfold World.cell?; rw [hb]; rfl
  have f1 : w.frozen? ⟨b, 1, none⟩ = false := by unfold World.frozen?; rw [hb]; rfl
  have f2 : w.frozen? ⟨b, 2, none⟩ = false := by unfold World.frozen?; rw [hb]; rfl
  obtain ⟨A, hA⟩ : ∃ A : Int, wrap64 (wrap64 (h * 6364136223846793005) + 1442695040888963407) = A := ⟨_, rfl⟩
  obtain ⟨x, hx⟩ : ∃ x : Int, bits .and .i64 (bits .xor .i64 (A / 8589934592) (A / 140737488355328)) 255 = x := ⟨_, rfl⟩
  obtain ⟨w1, hw1⟩ : ∃ w1 : World, w.setCell ⟨b, 2, none⟩ (.int .i64 A) = w1 := ⟨_, rfl⟩
  have ho1 : Only b w w1 := by rw [← hw1]; exact (Only.refl b w).set 2 _
  have hb1 : w1.heap[b]? = some (.cells #[.slice a len cap, .int .i64 i, .int .i64 A] 139 (0, 0)) := by rw [← hw1]; exact set_at2 hb
  have hx0 : 0 ≤ x ∧ x ≤ 255 := by rw [← hx, and255]; omega
  obtain ⟨hx0, hx1⟩ := hx0
  have d0 : w1.cell? ⟨b, 0, none⟩ = some (.slice a len cap) := by unfold World.cell?; rw [hb1]; rfl
  have d1 : w1.cell? ⟨b, 1, none⟩ = some (.int .i64 i) := by unfold World.cell?; rw [hb1]; rfl
  have d2 : w1.cell? ⟨b, 2, none⟩ = some (.int .i64 A) := by unfold World.cell?; rw [hb1]; rfl
  have g1 : w1.frozen? ⟨b, 1, none⟩ = false := by unfold World.frozen?; rw [hb1]; rfl
  have HB1 := Lib.hid hb1; have HC := Lib.hid (hco.only ho1); have HO := Lib.hid ho1; have HA := Lib.hid hA; have HX := Lib.hid hx; have HW := Lib.hid hw1
  have HD := Lib.hid (show len = 0 ∨ ∃ blk off, a = some ⟨blk, off, none⟩ ∧ blk < b ∧ ∀ j, j < len → ∃ n : Int, 0 ≤ n ∧ n < 256 ∧ w1.cell? ⟨blk, off + j, none⟩ = some (.int .u8 n) from by
    obtain ⟨a', cap', e, _, h2⟩ := HC.out
    cases e
    exact h2)
  clear hb hcode hb1 hco ho1 hA hx hw1
  go_enter Tryz.func130, Tryz.ntmps130
  go_wp2
  rw [HA.out, HW.out]
  clear c0 c1 c2 f1 f2
  go_quiet (fail)
  rw [HX.out]
  go_wp2
  by_cases hil : (i : Int) < (len : Int)
  · have hild : decide ((i : Int) < (len : Int)) = true := decide_eq_true hil
    rcases HD.out with h0 | ⟨blk, off, rfl, hblk, hcells⟩
    · omega
    · obtain ⟨n, n0, n1, hn⟩ := hcells i (by omega)
      clear hcells
      go_quiet (fail)
      go_wp2
      go_quiet (fail)
      go_wp2
      go_ret
      have e1 : (.int .i64 ((i : Int) + 1) : Value) = .int .i64 ((i + 1 : Nat) : Int) := by go_num
      refine ⟨bits .and .i64 (x + n) 255, rfl, by rw [and255]; omega, by rw [and255]; omega, ⟨i + 1, A, ?_, by omega, ?_⟩, ?_⟩
      · rw [← e1]; exact set_at1 HB1.out
      · exact HC.out.only (((Only.refl b w1).set 1 (.int .i64 ((i : Int) + 1))).trans ⟨rfl, rfl, rfl, rfl, fun _ _ => rfl⟩)
      · exact (HO.out.trans ((Only.refl b w1).set 1 (.int .i64 ((i : Int) + 1)))).trans ⟨rfl, rfl, rfl, rfl, fun _ _ => rfl⟩
  · have hild : decide ((i : Int) < (len : Int)) = false := decide_eq_false hil
    go_quiet (fail)
    go_wp2
    go_ret
    exact ⟨x, rfl, hx0, hx1, ⟨i, A, HB1.out, hi, HC.out.only ⟨rfl, rfl, rfl, rfl, fun _ _ => rfl⟩⟩, HO.out.trans ⟨rfl, rfl, rfl, rfl, fun _ _ => rfl⟩⟩

def BelowOut (b : Nat) (sv : Value) (len : Nat) (n : Int) (w : World) (e : Ending) (w' : World) : Prop :=
  ∃ x : Int, e = .returned (.int .i64 x) ∧ 0 ≤ x ∧ (0 < n → x < n) ∧ x ≤ 16777215 ∧ Cur b sv len w' ∧ Only b w w'
theorem rem_bd {x n : Int} (h0 : 0 ≤ x) (hn : 0 < n) : 0 ≤ x % n ∧ x % n < n ∧ x % n ≤ x :=
  by
  have h1 := Int.mul_ediv_add_emod x n
  have h2 := Int.mul_nonneg (show 0 ≤ n by omega) (Int.ediv_nonneg h0 (show 0 ≤ n by omega))
  exact ⟨Int.emod_nonneg _ (by omega), Int.emod_lt_of_pos _ hn, by omega⟩

set_option maxHeartbeats 1000000 in
theorem below_any (b : Nat) (sv : Value) (len : Nat) (n : Int) (w : World) (hc : Cur b sv len w) :
    Calls Tryz.prog 92 #[.pointer (some ⟨b, 0, none⟩), .int .i64 n] w (BelowOut b sv len n w) := by
  have HC := Lib.hid hc; clear hc
  by_cases hn : n ≤ 0
  · go_enter Tryz.func92, Tryz.ntmps92
    go_wp2_with fail
    go_ret
    exact ⟨0, rfl, by omega, by omega, by omega, HC.out, Only.refl _ _⟩
  by_cases hs : n ≤ 256
  · go_enter Tryz.func92, Tryz.ntmps92
    go_wp2_with fail
    refine (byte_any b sv len _ HC.out).mono ?_
    rintro e w1 ⟨x, rfl, hx0, hx1, hc1, ho1⟩
    have HC1 := Lib.hid hc1; have HO1 := Lib.hid ho1; clear hc1 ho1
    obtain ⟨r0, r1, r2⟩ := rem_bd hx0 (show 0 < n by omega)
    have R0 := Lib.hid r0; have R1 := Lib.hid r1; have R2 := Lib.hid r2; clear r0 r1 r2
    go_wp2_with fail
    go_ret
    exact ⟨x % n, rfl, R0.out, fun _ => R1.out, by have := R2.out; omega, HC1.out, HO1.out⟩
  · go_enter Tryz.func92, Tryz.ntmps92
    go_wp2_with fail
    refine (byte_any b sv len _ HC.out).mono ?_
    rintro e w1 ⟨x, rfl, hx0, hx1, hc1, ho1⟩
    have HC1 := Lib.hid hc1; have HO1 := Lib.hid ho1; clear hc1 ho1
    go_wp2_with fail
    refine (byte_any b sv len _ HC1.out).mono ?_
    rintro e w2 ⟨y, rfl, hy0, hy1, hc2, ho2⟩
    have HC2 := Lib.hid hc2; have HO2 := Lib.hid ho2; clear hc2 ho2
    go_wp2_with fail
    refine (byte_any b sv len _ HC2.out).mono ?_
    rintro e w3 ⟨z, rfl, hz0, hz1, hc3, ho3⟩
    have HC3 := Lib.hid hc3; have HO3 := Lib.hid ho3; clear hc3 ho3
    obtain ⟨r0, r1, r2⟩ := rem_bd (show 0 ≤ x * 65536 + y * 256 + z by omega) (show 0 < n by omega)
    have R0 := Lib.hid r0; have R1 := Lib.hid r1; have R2 := Lib.hid r2; clear r0 r1 r2
    go_wp2_with fail
    go_ret
    exact ⟨(x * 65536 + y * 256 + z) % n, rfl, R0.out, fun _ => R1.out, by have := R2.out; omega, HC3.out, (HO1.out.trans HO2.out).trans HO3.out⟩

/-- Of what lay in memory only block b may have been written; there may be new blocks. -/
structure Kept (b : Nat) (w w' : World) : Prop where
  os : w'.os = w.os
  tape : w'.tape = w.tape
  output : w'.output = w.output
  size : w.heap.size ≤ w'.heap.size
  block : ∀ k, k < w.heap.size → k ≠ b → w'.heap[k]? = w.heap[k]?
theorem Kept.refl (b : Nat) (w : World) : Kept b w w := ⟨rfl, rfl, rfl, Nat.le_refl _, fun _ _ _ => rfl⟩
theorem Kept.trans {b : Nat} {w1 w2 w3 : World} (h : Kept b w1 w2) (k : Kept b w2 w3) : Kept b w1 w3 :=
  ⟨k.os.trans h.os, k.tape.trans h.tape, k.output.trans h.output, Nat.le_trans h.size k.size, fun i hi hn => (k.block i (Nat.lt_of_lt_of_le hi h.size) hn).trans (h.block i hi hn)⟩
theorem Only.kept {b : Nat} {w w' : World} (h : Only b w w') : Kept b w w' := ⟨h.os, h.tape, h.output, by rw [h.size]; exact Nat.le_refl _, fun k _ hk => h.block k hk⟩
theorem Kept.alloc (b : Nat) (w : World) (o : Obj) : Kept b w (w.alloc o) := ⟨rfl, rfl, rfl, by simp, fun k hk _ => Below.heap_alloc _ _ _ hk⟩
theorem Kept.below {b : Nat} {w w' : World} (h : Kept b w w') (hb : b ≤ w.heap.size) : Below b w w' := ⟨h.os, h.tape, h.output, h.size, fun k hk => h.block k (by omega) (by omega)⟩
theorem Kept.of_below {b : Nat} {w w' : World} (h : Below w.heap.size w w') : Kept b w w' := ⟨h.os, h.tape, h.output, h.size, fun k hk _ => h.block k hk⟩
theorem lt_heap {w : World} {b : Nat} {o : Obj} (h : w.heap[b]? = some o) : b < w.heap.size := by
  rcases Nat.lt_or_ge b w.heap.size with h' | h'
  · exact h'
  · rw [Array.getElem?_eq_none h'] at h; cases h
theorem Cur.lt {b : Nat} {sv : Value} {len : Nat} {w : World} (h : Cur b sv len w) : b < w.heap.size := by
  obtain ⟨_, _, h1, _, _⟩ := h; exact lt_heap h1
/-- A reader stays one while no old block is written. -/
theorem Cur.below {b : Nat} {sv : Value} {len : Nat} {w w' : World} (h : Cur b sv len w) (k : Below w.heap.size w w') : Cur b sv len w' := by
  have hlt := h.lt
  obtain ⟨i, x, h1, h2, a, cap, e, h3, h4⟩ := h
  refine ⟨i, x, by rw [k.block b hlt]; exact h1, h2, a, cap, e, h3, ?_⟩
  rcases h4 with h4 | ⟨blk, off, e2, hb, hc⟩
  · exact Or.inl h4
  · refine Or.inr ⟨blk, off, e2, hb, fun j hj => ?_⟩
    obtain ⟨n, n0, n1, hn⟩ := hc j hj
    exact ⟨n, n0, n1, by rw [k.cell (by show blk < _; omega)]; exact hn⟩
theorem Cur.alloc {b : Nat} {sv : Value} {len : Nat} {w : World} (h : Cur b sv len w) (o : Obj) : Cur b sv len (w.alloc o) :=
  h.below ((Below.refl _ _).alloc (Nat.le_refl _) _)

def OnceOut (b : Nat) (sv : Value) (len : Nat) (w : World) (e : Ending) (w' : World) : Prop :=
  ∃ x : Bool, e = .returned (.bool x) ∧ Cur b sv len w' ∧ Kept b w w'
theorem once_any (b : Nat) (sv : Value) (len : Nat) (n : Int) (w : World) (hc : Cur b sv len w) :
    Calls Tryz.prog 112 #[.pointer (some ⟨b, 0, none⟩), .int .i64 n] w (OnceOut b sv len w) := by
  have HC := Lib.hid hc; clear hc
  go_enter Tryz.func112, Tryz.ntmps112
  go_wp2_with fail
  refine (below_any b sv len n _ HC.out).mono ?_
  rintro e w1 ⟨x, rfl, hx0, hx1, hx2, hc1, ho1⟩
  have HC1 := Lib.hid hc1; have HO1 := Lib.hid ho1; have HX1 := Lib.hid hx1; clear hc1 ho1 hx1
  go_wp2_with fail
  go_ret
  exact ⟨_, rfl, HC1.out, HO1.out.kept⟩

def NumOut (b : Nat) (sv : Value) (len : Nat) (w : World) (e : Ending) (w' : World) : Prop :=
  ∃ x : Int, e = .returned (.int .i64 x) ∧ -9223372036854775808 ≤ x ∧ x ≤ 9223372036854775807 ∧ Cur b sv len w' ∧ Kept b w w'
theorem int_any (b : Nat) (sv : Value) (len : Nat) (g m cap : Nat) (w : World) (hc : Cur b sv len w) (hgb : g ≠ b) (hm : 0 < m) (hm2 : m ≤ 1000)
    (hcells : ∀ j, j < m → ∃ v : Int, -9223372036854775808 ≤ v ∧ v ≤ 9223372036854775807 ∧ w.cell? ⟨g, j, none⟩ = some (.int .i64 v)) :
    Calls Tryz.prog 96 #[.pointer (some ⟨b, 0, none⟩), .slice (some ⟨g, 0, none⟩) m cap] w (NumOut b sv len w) := by
  have HC := Lib.hid hc; have HS := Lib.hid hcells; clear hc hcells
  go_enter Tryz.func96, Tryz.ntmps96
  go_wp2_with fail
  refine (below_any b sv len m _ HC.out).mono ?_
  rintro e w1 ⟨x, rfl, hx0, hx1, hx2, hc1, ho1⟩
  have hx3 := hx1 (by omega)
  obtain ⟨k, rfl⟩ := Int.eq_ofNat_of_zero_le hx0
  obtain ⟨v, v0, v1, hv⟩ := HS.out k (by omega)
  rw [← ho1.cell (show (⟨g, k, none⟩ : Addr).block ≠ b from hgb)] at hv
  have HC1 := Lib.hid hc1; have HO1 := Lib.hid ho1; clear hc1 ho1 hx1
  go_wp2_with fail
  go_ret
  exact ⟨v, rfl, v0, v1, HC1.out, HO1.out.kept⟩

def StrOut (b : Nat) (sv : Value) (len : Nat) (w : World) (e : Ending) (w' : World) : Prop :=
  ∃ s : ByteArray, e = .returned (.string s) ∧ s.size ≤ 100 ∧ Cur b sv len w' ∧ Kept b w w'
theorem str_any (b : Nat) (sv : Value) (len : Nat) (g m cap : Nat) (w : World) (hc : Cur b sv len w) (hgb : g ≠ b) (hm : 0 < m) (hm2 : m ≤ 1000)
    (hcells : ∀ j, j < m → ∃ s : ByteArray, s.size ≤ 100 ∧ w.cell? ⟨g, j, none⟩ = some (.string s)) :
    Calls Tryz.prog 93 #[.pointer (some ⟨b, 0, none⟩), .slice (some ⟨g, 0, none⟩) m cap] w (StrOut b sv len w) := by
  have HC := Lib.hid hc; have HS := Lib.hid hcells; clear hc hcells
  go_enter Tryz.func93, Tryz.ntmps93
  go_wp2_with fail
  refine (below_any b sv len m _ HC.out).mono ?_
  rintro e w1 ⟨x, rfl, hx0, hx1, hx2, hc1, ho1⟩
  have hx3 := hx1 (by omega)
  obtain ⟨k, rfl⟩ := Int.eq_ofNat_of_zero_le hx0
  obtain ⟨s, s1, hv⟩ := HS.out k (by omega)
  rw [← ho1.cell (show (⟨g, k, none⟩ : Addr).block ≠ b from hgb)] at hv
  have HC1 := Lib.hid hc1; have HO1 := Lib.hid ho1; clear hc1 ho1 hx1
  go_wp2_with fail
  go_ret
  exact ⟨s, rfl, s1, HC1.out, HO1.out.kept⟩

end Go.Proofs.YtpkicliimhflgaaGreatDoor
namespace Go.Proofs.YtpkicliimhflgaaGreatDoor
open Go.ChangeShapes Go.WideShapes Go.ChangeAt Go.RowKit

theorem int_range {n : Int} (h : (Lit.int .i64 n).wf = true) : -9223372036854775808 ≤ n ∧ n ≤ 9223372036854775807 := by
  have e1 : IntKind.i64.min = -9223372036854775808 := rfl
  have e2 : IntKind.i64.max = 9223372036854775807 := rfl
  simp [Lit.wf, e1, e2] at h
  omega
theorem str_reach {s : ByteArray} (h : s.data.toList.length ≤ reachBytes) : s.size ≤ 140737488351232 := by
  have e1 : s.size = s.data.size := rfl
  have e2 : s.data.toList.length = s.data.size := Array.length_toList
  have e3 : reachBytes = 140737488351232 := by decide
  omega

/-- A slice of integers that came in: nil, or a row of cap cells, of which the first len are its elements. -/
def IsRow (k : IntKind) (w : World) (a : Option Addr) (len cap : Nat) (zs : List Int) : Prop :=
  (a = none ∧ len = 0 ∧ cap = 0 ∧ zs = []) ∨
  ∃ x, a = some x ∧ len ≤ cap ∧ cap ≤ maxLen ∧ zs.length = cap ∧ (∀ i, i < zs.length → w.cell? (x.add i) = some (.int k (zs.getD i 0))) ∧ ∀ n ∈ zs, (Lit.int k n).wf = true

theorem row_of {P : Program} {H : Type} {enc : TypeId × Value → H} {W : World} {k : IntKind} {t e : TypeId} {a : Option Addr} {len cap : Nat} {d : DataW H} {p : List MemPlace}
    (ht : P.underlying t = some (.slice e)) (he : P.underlying e = some (.int k)) (hc : P.cellsOf e = 1) (h : DataW.Trod enc P W 0 (fun _ => true) true t (.slice a len cap) d p) : ∃ zs, IsRow k W a len cap zs := by
  obtain ⟨fuel, hf⟩ := h
  rcases open_ints ht he hc hf with ⟨hcs, _⟩ | ⟨x, l, c, zs, hcs, _, hl, hm, hz, _, hcell, hwz⟩
  · simp [Value.cells] at hcs
    obtain ⟨rfl, rfl, rfl⟩ := hcs
    exact ⟨[], .inl ⟨rfl, rfl, rfl, rfl⟩⟩
  · simp [Value.cells] at hcs
    obtain ⟨rfl, rfl, rfl⟩ := hcs
    exact ⟨zs, .inr ⟨_, rfl, hl, hm, by simpa using hz, hcell, hwz⟩⟩

theorem u8_range {n : Int} (h : (Lit.int .u8 n).wf = true) : 0 ≤ n ∧ n < 256 := by
  have e1 : IntKind.u8.min = 0 := rfl
  have e2 : IntKind.u8.max = 255 := rfl
  simp [Lit.wf, e1, e2] at h
  omega
/-- The bytes that a law draws from. -/
theorem code_of_row {w : World} {a : Option Addr} {len cap : Nat} {zs : List Int} (h : IsRow .u8 w a len cap zs) (hl : len ≤ 1048576) : CodeOk w.heap.size w (.slice a len cap) len := by
  refine ⟨a, cap, rfl, hl, ?_⟩
  rcases h with ⟨rfl, rfl, rfl, rfl⟩ | ⟨x, rfl, hlc, hm, hz, hcell, hwz⟩
  · exact Or.inl rfl
  · by_cases h0 : len = 0
    · exact Or.inl h0
    · obtain ⟨blk, off, spot⟩ := x
      have c0 := hcell 0 (by omega)
      have hspot : spot = none := by simpa [Addr.add] using World.cell?_spot c0
      subst hspot
      have hlt : blk < w.heap.size := by
        rcases Nat.lt_or_ge blk w.heap.size with h1 | h1
        · exact h1
        · have h2 : w.heap[blk]? = none := Array.getElem?_eq_none h1
          simp [World.cell?, Addr.add, h2] at c0
      refine Or.inr ⟨blk, off, rfl, hlt, fun j hj => ?_⟩
      have hj2 : j < zs.length := by omega
      have hw := u8_range (hwz (zs.getD j 0) (by simp [List.getD, List.getElem?_eq_getElem hj2]))
      refine ⟨zs.getD j 0, hw.1, hw.2, ?_⟩
      have h3 := hcell j hj2
      have e : (⟨blk, off, none⟩ : Addr).add j = ⟨blk, off + j, none⟩ := by
        unfold Addr.add
        split
        · rename_i h4; subst h4; rfl
        · rfl
      rw [e] at h3
      exact h3

end Go.Proofs.YtpkicliimhflgaaGreatDoor
namespace Go.Proofs.YtpkicliimhflgaaGreatDoor
open Go.ChangeShapes Go.WideShapes Go.ChangeAt Go.RowKit

theorem i64_range {n : Int} (h : (Lit.int .i64 n).wf = true) : -9223372036854775808 ≤ n ∧ n ≤ 9223372036854775807 := int_range h
theorem reads_of_row {k : IntKind} {w : World} {a : Option Addr} {len cap : Nat} {zs : List Int} (h : IsRow k w a len cap zs) :
    Reads k w.heap.size w (.slice a len cap) (zs.take len) ∧ (zs.take len).length = len ∧ ∀ n ∈ zs.take len, (Lit.int k n).wf = true := by
  rcases h with ⟨rfl, rfl, rfl, rfl⟩ | ⟨x, rfl, hlc, hm, hz, hcell, hwz⟩
  · exact ⟨⟨none, 0, rfl, by simp, by omega, (fun _ => rfl), Or.inl rfl⟩, rfl, by simp⟩
  · have hl : (zs.take len).length = len := by rw [List.length_take]; omega
    refine ⟨⟨some x, cap, by rw [hl], by omega, by unfold maxLen at hm; omega, (fun h => by cases h), ?_⟩, hl, fun n hn => hwz n (List.mem_of_mem_take hn)⟩
    rw [hl]
    by_cases h0 : len = 0
    · exact Or.inl h0
    · obtain ⟨blk, off, spot⟩ := x
      have c0 := hcell 0 (by omega)
      have hspot : spot = none := by simpa [Addr.add] using World.cell?_spot c0
      subst hspot
      have hlt : blk < w.heap.size := by
        rcases Nat.lt_or_ge blk w.heap.size with h1 | h1
        · exact h1
        · have h2 : w.heap[blk]? = none := Array.getElem?_eq_none h1
          simp [World.cell?, Addr.add, h2] at c0
      refine Or.inr ⟨blk, off, rfl, hlt, fun j hj => ?_⟩
      have h3 := hcell j (by omega)
      have e : (⟨blk, off, none⟩ : Addr).add j = ⟨blk, off + j, none⟩ := by
        unfold Addr.add
        split
        · rename_i h4; subst h4; rfl
        · rfl
      rw [e] at h3
      rw [h3]
      have e2 : (zs.take len).getD j 0 = zs.getD j 0 := by simp [List.getD_eq_getElem?_getD, hj]
      rw [e2]
theorem bytes_of_wf {zs : List Int} (h : ∀ n ∈ zs, (Lit.int .u8 n).wf = true) : Bytes zs := fun n hn => u8_range (h n hn)
theorem ints_of_wf {zs : List Int} (h : ∀ n ∈ zs, (Lit.int .i64 n).wf = true) : Ints zs := fun n hn => int_range (h n hn)

end Go.Proofs.YtpkicliimhflgaaGreatDoor
namespace Go.Proofs.YtpkicliimhflgaaGreatDoor
open Go.ChangeShapes Go.WideShapes Go.ChangeAt Go.RowKit Go.Joins Go.Deep

theorem trod_struct4 {P : Program} {H : Type} {enc : TypeId × Value → H} {w : World} {base : Nat} {spare : Nat → Bool} {held : Bool} {t : TypeId} {f0 f1 f2 f3 : Field} {fuel : Nat} {cs : List Value} {x : DataW H × List MemPlace} (ht : P.underlying t = some (.struct #[f0, f1, f2, f3])) (h : DataW.trod enc P w base spare held fuel t cs = some x) :
    ∃ y0 y1 y2 y3 n, x = (.agg [y0.1, y1.1, y2.1, y3.1], y0.2 ++ (y1.2 ++ (y2.2 ++ y3.2))) ∧ cs.length = P.cellsOf t ∧ DataW.trod enc P w base spare held n f0.type ((cs.drop f0.offset).take (P.cellsOf f0.type)) = some y0 ∧
      DataW.trod enc P w base spare held n f1.type ((cs.drop f1.offset).take (P.cellsOf f1.type)) = some y1 ∧ DataW.trod enc P w base spare held n f2.type ((cs.drop f2.offset).take (P.cellsOf f2.type)) = some y2 ∧ DataW.trod enc P w base spare held n f3.type ((cs.drop f3.offset).take (P.cellsOf f3.type)) = some y3 := by
  obtain ⟨xs, n, _, rfl, hl, hlen, hf⟩ := DataW.trod_struct ht h
  match xs, hlen with
  | [y0, y1, y2, y3], _ => exact ⟨y0, y1, y2, y3, n, by simp, hl, by simpa using hf 0 f0 rfl, by simpa using hf 1 f1 rfl, by simpa using hf 2 f2 rfl, by simpa using hf 3 f3 rfl⟩
theorem four_of {cs : List Value} (h : cs.length = 4) : ∃ c0 c1 c2 c3, cs = [c0, c1, c2, c3] := by
  match cs, h with
  | [c0, c1, c2, c3], _ => exact ⟨c0, c1, c2, c3, rfl⟩
theorem slice_of {P : Program} {H : Type} {enc : TypeId × Value → H} {w : World} {base : Nat} {spare : Nat → Bool} {held : Bool} {t e : TypeId} {fuel : Nat} {v : Value} {x : DataW H × List MemPlace} (ht : P.underlying t = some (.slice e)) (h : DataW.trod enc P w base spare held fuel t [v] = some x) : ∃ a len cap, v = .slice a len cap := by
  rcases open_slice ht h with ⟨hcs, _⟩ | ⟨a, l, c, _, _, _, _, hcs, _⟩
  · exact ⟨none, 0, 0, by simpa using hcs⟩
  · exact ⟨some a, l, c, by simpa using hcs⟩

instance : Inhabited Nv := ⟨(⟨⟨#[]⟩, ⟨#[]⟩, 0, []⟩, svNil)⟩
instance : Inhabited Tv := ⟨(tokZero, svNil)⟩
def NdOk (x : Nd) : Prop := x.name.size ≤ 9223372036854775807 ∧ x.text.size ≤ 9223372036854775807 ∧ (∀ a ∈ x.attrs, AtOk a) ∧ -9223372036854775808 ≤ x.parent ∧ x.parent ≤ 9223372036854775807
/-- A slice of nodes that came in. -/
def IsNds (w : World) (v : Value) (ns : List Nv) : Prop := ReadN w.heap.size w v ns ∧ ∀ p ∈ ns, NdOk p.1
set_option maxRecDepth 100000 in
theorem nodes_of {H : Type} {enc : TypeId × Value → H} {W : World} {fuel : Nat} {v : Value} {d : DataW H × List MemPlace} (hf : DataW.trod enc Tryz.prog W 0 (fun _ => true) true fuel 57 [v] = some d) :
    ∃ ns, IsNds W v ns := by
  rcases open_slice Tryz.underlying57 hf with ⟨hcs, _⟩ | ⟨x, len, cap, m, n, D, Pl, hcs, _, hl, hc, hm, _, hel⟩
  · obtain rfl : v = .slice none 0 0 := by simpa using hcs
    exact ⟨[], ⟨⟨none, 0, rfl, Nat.le_refl _, by omega, (fun _ => rfl), Or.inl rfl⟩, by simp⟩, by simp⟩
  · obtain rfl : v = .slice (some x) len cap := by simpa using hcs
    simp only [if_true] at hm
    subst hm
    have hC : Tryz.prog.cellsOf 184 = 4 := by kernel_rfl
    rw [hC] at hel
    have hstr : Tryz.prog.cellsOf 9 = 1 := by kernel_rfl
    have hint : Tryz.prog.cellsOf 3 = 1 := by kernel_rfl
    have hsl : Tryz.prog.cellsOf 182 = 1 := by kernel_rfl
    have hx : ∀ i, i < len → ∃ p : Nv, W.cell? (x.add (i * 4)) = some (.string p.1.name) ∧ W.cell? (x.add (i * 4 + 1)) = some (.string p.1.text) ∧ W.cell? (x.add (i * 4 + 2)) = some (.int .i64 p.1.parent) ∧ W.cell? (x.add (i * 4 + 3)) = some (sv p.2) ∧ ReadsK encA 2 W.heap.size W (sv p.2) p.1.attrs ∧ NdOk p.1 := by
      intro i hi
      obtain ⟨cs, h1, h2⟩ := hel i (by omega)
      obtain ⟨hlen, hat⟩ := cells?_at h1
      obtain ⟨y0, y1, y2, y3, n', _, _, t0, t1, t2, t3⟩ := trod_struct4 Tryz.underlying184 h2
      obtain ⟨c0, c1, c2, c3, rfl⟩ := four_of hlen
      obtain ⟨s, e0, _, w0⟩ := DataW.trod_string Tryz.underlying9 t0
      obtain ⟨t, e1, _, w1⟩ := DataW.trod_string Tryz.underlying9 t1
      obtain ⟨k, e2, _, w2⟩ := DataW.trod_int Tryz.underlying3 t2
      simp [hstr, hint] at e0 e1 e2
      simp [hsl] at t3
      obtain ⟨aa, al, ac, rfl⟩ := slice_of Tryz.underlying182 t3
      obtain ⟨xs, hxs, _, hok⟩ := attrs_of (enc := enc) (W := W) (a := aa) (len := al) (cap := ac) (d := y3.1) (p := y3.2) ⟨n', t3⟩
      have g0 := hat 0 (by omega)
      have g1 := hat 1 (by omega)
      have g2 := hat 2 (by omega)
      have g3 := hat 3 (by omega)
      rw [add_add] at g0 g1 g2 g3
      simp at g0 g1 g2 g3
      have hk := i64_range w2
      exact ⟨(⟨s, t, k, xs⟩, (aa, al, ac)), by rw [g0, e0], by rw [g1, e1], by rw [g2, e2], g3, hxs, w0, w1, hok, hk.1, hk.2⟩
    obtain ⟨f, hf⟩ := choose_lt hx
    refine ⟨(List.range len).map f, ⟨⟨some x, _, by rw [List.length_map, List.length_range], by simpa using hl, by unfold maxLen at hc; omega, (fun h => by cases h), ?_⟩, fun p hp => ?_⟩, fun p hp => ?_⟩
    · by_cases h0 : len = 0
      · exact Or.inl (by simpa using h0)
      · obtain ⟨blk, off, spot⟩ := x
        have c0 := (hf 0 (by omega)).1
        have hspot : spot = none := by simpa [Addr.add] using World.cell?_spot c0
        subst hspot
        have hlt : blk < W.heap.size := by
          have := World.block_lt_of_cell? W _ c0
          rwa [add_lit] at this
        refine Or.inr ⟨blk, off, rfl, hlt, fun j y hj i hi' => ?_⟩
        have hjl : j < len := by have := (List.getElem?_eq_some_iff.1 hj).1; simpa using this
        simp [hjl] at hj
        subst hj
        obtain ⟨g0, g1, g2, g3, _⟩ := hf j hjl
        rw [add_lit] at g0 g1 g2 g3
        rcases (show i = 0 ∨ i = 1 ∨ i = 2 ∨ i = 3 by omega) with rfl | rfl | rfl | rfl
        · rw [Nat.add_zero]; exact g0
        · rw [Nat.add_assoc]; exact g1
        · rw [Nat.add_assoc]; exact g2
        · rw [Nat.add_assoc]; exact g3
    · obtain ⟨i, hi, rfl⟩ := List.mem_map.1 hp
      exact (hf i (List.mem_range.1 hi)).2.2.2.2.1
    · obtain ⟨i, hi, rfl⟩ := List.mem_map.1 hp
      exact (hf i (List.mem_range.1 hi)).2.2.2.2.2

def TkOk (x : Tok) : Prop := x.name.size ≤ 9223372036854775807 ∧ x.text.size ≤ 9223372036854775807 ∧ (∀ a ∈ x.attrs, AtOk a)
/-- A slice of tokens that came in. -/
def IsTks (w : World) (v : Value) (ns : List Tv) : Prop := ReadT w.heap.size w v ns ∧ ∀ p ∈ ns, TkOk p.1

theorem ndCells_small : ∀ {ns : List Nv}, (∀ p ∈ ns, NdOk p.1) → SmallL (ndCells ns)
  | [], _ => trivial
  | p :: ns, h => by
    have h1 := h p List.mem_cons_self
    rw [ndCells]
    refine smallL_iff.2 fun c hc => ?_
    rcases List.mem_cons.1 hc with e | hc
    · rw [e, Rw.Small]; exact h1.1
    rcases List.mem_cons.1 hc with e | hc
    · rw [e, Rw.Small]; exact h1.2.1
    rcases List.mem_cons.1 hc with e | hc
    · rw [e, Rw.Small]; exact Nat.zero_le _
    rcases List.mem_cons.1 hc with e | hc
    · rw [e]; exact rwA_small h1.2.2.1
    · exact smallL_iff.1 (ndCells_small fun q hq => h q (List.mem_cons_of_mem _ hq)) c hc
theorem rwN_small {v : Value} {ns : List Nv} (h : ∀ p ∈ ns, NdOk p.1) : (rwN v ns).Small := by rw [rwN, Rw.Small]; exact ndCells_small h
theorem tkCells_small : ∀ {ns : List Tv}, (∀ p ∈ ns, TkOk p.1) → SmallL (tkCells ns)
  | [], _ => trivial
  | p :: ns, h => by
    have h1 := h p List.mem_cons_self
    rw [tkCells]
    refine smallL_iff.2 fun c hc => ?_
    rcases List.mem_cons.1 hc with e | hc
    · rw [e, Rw.Small]; exact Nat.zero_le _
    rcases List.mem_cons.1 hc with e | hc
    · rw [e, Rw.Small]; exact h1.1
    rcases List.mem_cons.1 hc with e | hc
    · rw [e]; exact rwA_small h1.2.2
    rcases List.mem_cons.1 hc with e | hc
    · rw [e, Rw.Small]; exact h1.2.1
    · exact smallL_iff.1 (tkCells_small fun q hq => h q (List.mem_cons_of_mem _ hq)) c hc
theorem rwT_smallS {v : Value} {ns : List Tv} (h : ∀ p ∈ ns, TkOk p.1) : (rwT v ns).Small := by rw [rwT, Rw.Small]; exact tkCells_small h
theorem rwI_small (v : Value) (zs : List Int) : (rwI v zs).Small := by
  rw [rwI, Rw.Small]
  refine smallL_iff.2 fun c hc => ?_
  obtain ⟨z, rfl⟩ := intCells_leaf hc
  rw [Rw.Small]; exact Nat.zero_le _
/-- A builder that came in. -/
def IsBd (w : World) (nv ov : Value) (ns : List Nv) (zs : List Int) : Prop := IsNds w nv ns ∧ Reads .i64 w.heap.size w ov zs ∧ (∀ z ∈ zs, (Lit.int .i64 z).wf = true) ∧ (∃ a n c, nv = .slice a n c) ∧ ∃ a n c, ov = .slice a n c
set_option maxRecDepth 100000 in
theorem builder_of {H : Type} {enc : TypeId × Value → H} {W : World} {base : Nat} {v : Value} {d : DataW H} {p : List MemPlace} (hv : Value.okWide Tryz.prog W .any base 59 v) (h : DataW.Trod enc Tryz.prog W 0 (fun _ => true) true 59 v d p) :
    ∃ (nv ov : Value) (ns : List Nv) (zs : List Int), v = .agg #[nv, ov] ∧ IsBd W nv ov ns zs := by
  obtain ⟨v0, v1, y0, y1, n, rfl, _, _, h0, h1⟩ := open_agg2 Tryz.underlying59 (by kernel_rfl) (by kernel_rfl) hv h
  obtain ⟨a1, l1, c1, rfl⟩ := slice_of Tryz.underlying39 h1
  obtain ⟨a0, l0, c0, rfl⟩ := slice_of Tryz.underlying57 h0
  obtain ⟨ns, hns⟩ := nodes_of h0
  obtain ⟨zs, hz⟩ := row_of (k := .i64) Tryz.underlying39 Tryz.underlying3 (by kernel_rfl) (W := W) (a := a1) (len := l1) (cap := c1) (d := y1.1) (p := y1.2) ⟨n, h1⟩
  obtain ⟨r1, r2, r3⟩ := reads_of_row hz
  exact ⟨_, _, ns, zs.take l1, rfl, hns, r1, r3, ⟨a0, l0, c0, rfl⟩, ⟨a1, l1, c1, rfl⟩⟩

end Go.Proofs.YtpkicliimhflgaaGreatDoor
namespace Go.Proofs.YtpkicliimhflgaaGreatDoor
open Go.ChangeShapes Go.WideShapes Go.ChangeAt Go.RowKit

def SzToken (a1 : ByteArray) (a2 : Rw) (a3 : ByteArray) (left : Int) (w : World) (e : Ending) (w' : World) : Prop :=
  ∃ r : Int, e = .returned (.int .i64 r) ∧ -1 ≤ r ∧ (0 ≤ r → r + (a1.size : Nat) + (a2.weight : Nat) + (a3.size : Nat) = left) ∧ Grw w w'
theorem info_TokenS : (Tryz.prog.info? 154).map (fun i => (i.zero, i.size, i.bytes)) = some (some (.agg #[.int .i64 0, .string ⟨#[]⟩, .slice none 0 0, .string ⟨#[]⟩]), 4, 64) := by kernel_rfl

end Go.Proofs.YtpkicliimhflgaaGreatDoor
namespace Go.Proofs.YtpkicliimhflgaaGreatDoor
open Go.ChangeShapes Go.WideShapes Go.ChangeAt Go.RowKit

theorem MineT.alloc {B : Nat} {w0 w : World} {v : Value} {ts : List Tv} (h : MineT B w0 w v ts) (o : Obj) : MineT B w0 (w.alloc o) v ts := h.later ((Below.refl _ w).alloc (Nat.le_refl _) o)
theorem MineT.rebase {B B' : Nat} {w0 w0' w : World} {v : Value} {ts : List Tv} (h : MineT B w0 w v ts) (hB : B' ≤ B) (hb : Below B' w0' w) : MineT B' w0' w v ts :=
  ⟨⟨(h.row.own.mono hB (Nat.le_refl _)).1, hb, Nat.le_trans hB h.row.size⟩, fun p hp => (h.inn p hp).mono hB (Nat.le_refl _), h.nod⟩
theorem MineT.set {B b o : Nat} {w0 w : World} {v u : Value} {ts : List Tv} (h : MineT B w0 w v ts) (hb : b < B) : MineT B (w.setCell ⟨b, o, none⟩ u) (w.setCell ⟨b, o, none⟩ u) v ts :=
  ⟨⟨(ownK_set h.row.own hb).1, Below.refl _ _, Nat.le_trans h.row.size (size_set _ _ _)⟩, fun p hp => (ownK_set (h.inn p hp) hb).mono (Nat.le_refl _) (size_set _ _ _), h.nod⟩
theorem MineT.slice {B : Nat} {w0 w : World} {v : Value} {ts : List Tv} (h : MineT B w0 w v ts) : ∃ a n c, v = .slice a n c := h.row.own.slice'
theorem heap_one1 {w : World} {b : Nat} {x u : Value} {T : TypeId} (h : w.heap[b]? = some (.cells #[x] T (0, 0))) : (w.setCell ⟨b, 0, none⟩ u).heap[b]? = some (.cells #[u] T (0, 0)) := by
  rw [heap_one (o := 0) h u]; rfl
theorem cells_one {w : World} {b : Nat} {x : Value} {T : TypeId} (h : w.heap[b]? = some (.cells #[x] T (0, 0))) : w.cell? ⟨b, 0, none⟩ = some x ∧ w.frozen? ⟨b, 0, none⟩ = false := by
  refine ⟨?_, ?_⟩
  · unfold World.cell?; rw [h]; rfl
  · unfold World.frozen?; rw [h]; rfl

/-- What FeedText answers for the bytes x: the tokens, all the call's own, and what remains. -/
def FeedOut (x : List UInt8) (w : World) (e : Ending) (w' : World) : Prop :=
  ∃ v ts, e = .returned (.tuple #[v, .agg #[.string (ofL (feedB x).2)]]) ∧ ts.map Prod.fst = (feedB x).1 ∧ MineT w.heap.size w w' v ts
/-- What EndText and TokensOf answer: these tokens, all the call's own. -/
def ToksOut (l : List Tok) (w : World) (e : Ending) (w' : World) : Prop :=
  ∃ v ts, e = .returned v ∧ ts.map Prod.fst = l ∧ MineT w.heap.size w w' v ts
/-- One token more. -/
theorem toks_more {x y z : List UInt8} {ts : List Tv} {p : Tv} (h : feedB x = (ts.map Prod.fst ++ (feedB y).1, (feedB y).2)) (hy : feedB y = (p.1 :: (feedB z).1, (feedB z).2)) : feedB x = ((ts ++ [p]).map Prod.fst ++ (feedB z).1, (feedB z).2) := by
  rw [h, hy]; simp
theorem toks_none {x y z : List UInt8} {ts : List Tv} (h : feedB x = (ts.map Prod.fst ++ (feedB y).1, (feedB y).2)) (hy : feedB y = ((feedB z).1, (feedB z).2)) : feedB x = (ts.map Prod.fst ++ (feedB z).1, (feedB z).2) := by
  rw [h, hy]
theorem toks_end {x y : List UInt8} {ts : List Tv} (h : feedB x = (ts.map Prod.fst ++ (feedB y).1, (feedB y).2)) (hy : feedB y = ([], y)) : ts.map Prod.fst = (feedB x).1 ∧ y = (feedB x).2 := by
  rw [h, hy]; simp
theorem tag_inside (y : List UInt8) (e : Nat) : (ofL y).extract 1 e = ofL ((y.take e).drop 1) := by
  rw [extract_eq, ofL_list]
  congr 1
  rw [List.drop_take]
/-- What TagOf answers, by cases. -/
theorem tagOut_cases {s : ByteArray} {w : World} {e : Ending} {w' : World} (h : TagOut s w e w') :
    (∃ a n c, tagB s.data.toList = none ∧ e = .returned (.tuple #[.agg #[.int .i64 0, .string ⟨#[]⟩, .slice a n c, .string ⟨#[]⟩], .bool false]) ∧ Below w.heap.size w w') ∨
    ∃ t a n c, tagB s.data.toList = some t ∧ e = .returned (.tuple #[.agg #[.int .i64 t.kind, .string t.name, .slice a n c, .string t.text], .bool true]) ∧ OwnK encA 2 178 w.heap.size w'.heap.size w' (.slice a n c) t.attrs ∧ Below w.heap.size w w' := by
  obtain ⟨⟨a, n, c⟩, he, ho, hb⟩ := h
  cases ht : tagB s.data.toList with
  | none =>
    have e1 : tagT s = tokZero := by unfold tagT; rw [ht]; rfl
    have e2 : tagOk s = false := by unfold tagOk; rw [ht]; rfl
    refine Or.inl ⟨a, n, c, rfl, ?_, hb⟩
    rw [he, e2, e1]; rfl
  | some t =>
    have e1 : tagT s = t := by unfold tagT; rw [ht]; rfl
    have e2 : tagOk s = true := by unfold tagOk; rw [ht]; rfl
    refine Or.inr ⟨t, a, n, c, rfl, ?_, ?_, hb⟩
    · rw [he, e2, e1]; rfl
    · rw [e1] at ho; exact ho
/-- One token in a new block, whose number is known otherwise. -/
theorem readsT_at (w : World) (p : Tv) (H : Nat) (hH : w.heap.size = H) {k : Int} {nm tx : ByteArray} {u : Value} (h1 : p.1.kind = k) (h2 : p.1.name = nm) (h3 : sv p.2 = u) (h4 : p.1.text = tx) :
    ReadsK encT 4 (H + 1) (w.alloc (.cells #[.int .i64 k, .string nm, u, .string tx] 154)) (.slice (some ⟨H, 0, none⟩) 1 1) [p] := by
  subst hH; exact readsT_one w p h1 h2 h3 h4
/-- A slice of one new token. -/
theorem mineT_lit {B : Nat} {w0 w : World} (p : Tv) (H : Nat) (hH : w.heap.size = H) (hB : B ≤ w.heap.size) (hb : Below B w0 w) {k : Int} {nm tx : ByteArray} {u : Value} (h1 : p.1.kind = k) (h2 : p.1.name = nm) (h3 : sv p.2 = u) (h4 : p.1.text = tx)
    (hi : OwnK encA 2 178 B w.heap.size w (sv p.2) p.1.attrs) : MineT B w0 (w.alloc (.cells #[.int .i64 k, .string nm, u, .string tx] 154)) (.slice (some ⟨H, 0, none⟩) 1 1) [p] := by
  subst hH; subst h1; subst h2; subst h3; subst h4
  have ha : Below w.heap.size w (w.alloc (.cells #[.int .i64 p.1.kind, .string p.1.name, sv p.2, .string p.1.text] 154)) := (Below.refl _ w).alloc (Nat.le_refl _) _
  refine ⟨⟨?_, hb.trans (ha.mono hB), by rw [size_alloc]; omega⟩, fun q hq => ?_, ?_⟩
  · have := World.ownsRow_lit (base := B) (e := 154) (size := 4) w #[.int .i64 p.1.kind, .string p.1.name, sv p.2, .string p.1.text] 1 hB (by decide) (by simp)
    exact this
  · rw [List.mem_singleton] at hq
    subst hq
    exact (hi.later ha).mono (Nat.le_refl _) ha.size
  · unfold insB
    rw [List.flatMap_cons, List.flatMap_nil, List.append_nil]
    cases (sv p.2).ownBlock with
    | none => exact List.nodup_nil
    | some g => simp
theorem endB_nil : endB [] = [] := by simp [endB]
theorem endB_tag {r : List UInt8} (h : r[0]? = some 60) : endB r = [] := by unfold endB; rw [if_pos (Or.inr h)]
theorem endB_text {r : List UInt8} (h : r ≠ []) (h2 : r[0]? ≠ some 60) : endB r = [tokText (ofL r)] := by unfold endB; rw [if_neg (by rintro (h3 | h3); exact h h3; exact h2 h3)]
theorem toks_nodup {B : Nat} {w0 wr w1 : World} {v : Value} {ts : List Tv} {p : Tv} {hi : Nat} (h : MineT B w0 wr v ts) (ho : OwnK encA 2 178 wr.heap.size hi w1 (sv p.2) p.1.attrs) : (insB ts ++ insB [p]).Nodup := by
  rw [List.nodup_append]
  refine ⟨h.nod, ?_, fun a ha b hb e => ?_⟩
  · unfold insB
    rw [List.flatMap_cons, List.flatMap_nil, List.append_nil]
    cases (sv p.2).ownBlock with
    | none => exact List.nodup_nil
    | some g => simp
  · subst e
    obtain ⟨q, hq, hb2⟩ := insB_mem.1 hb
    rw [List.mem_singleton] at hq
    subst hq
    have h1 := (h.lt a ha).2
    have h2 := (ho.1.lt a hb2).1
    omega
theorem idx_tag {y : List UInt8} (h0 : idxB 60 y = 0) (h1 : idxB 62 y < y.length) : 1 ≤ idxB 62 y := by
  cases y with
  | nil => exact absurd h1 (Nat.not_lt_zero _)
  | cons b l =>
    have hb : b = 60 := by
      have := idxB_at (c := 60) (l := b :: l) (by rw [h0]; simp)
      rw [h0] at this
      simpa using this
    subst hb
    rw [idxB, if_neg (by decide)]; omega

end Go.Proofs.YtpkicliimhflgaaGreatDoor
namespace Go.Proofs.YtpkicliimhflgaaGreatDoor
open Go.ChangeShapes Go.WideShapes Go.ChangeAt Go.RowKit

theorem tagB_attrs {l : List UInt8} {t : Tok} (h : tagB l = some t) : t.attrs.length ≤ 4 := by
  unfold tagB at h
  split at h
  · cases h
  · split at h
    · split at h
      · cases h; exact Nat.zero_le _
      · cases h
    · split at h
      · cases h
      · split at h
        · cases h
        · split at h
          · rename_i hh; cases h; exact hh.2
          · cases h
theorem feed_attrs (a : List UInt8) : ∀ t ∈ (feedB a).1, t.attrs.length ≤ 4 := by
  generalize hn : a.length = n
  induction n using Nat.strongRecOn generalizing a with
  | _ n ih =>
    by_cases h1 : 0 < idxB 60 a ∧ idxB 60 a < a.length
    · rw [feed_text h1.1 h1.2]
      intro t ht
      rcases List.mem_cons.1 ht with h | h
      · subst h; exact Nat.zero_le _
      · exact ih (a.length - idxB 60 a) (by omega) (a.drop (idxB 60 a)) List.length_drop t h
    · by_cases h2 : idxB 60 a = 0 ∧ idxB 62 a < a.length
      · rw [feed_tag h2.1 h2.2]
        intro t ht
        rcases List.mem_append.1 ht with h | h
        · exact tagB_attrs (Option.mem_toList.1 h)
        · exact ih (a.length - (idxB 62 a + 1)) (by omega) (a.drop (idxB 62 a + 1)) List.length_drop t h
      · have hl := idxB_le 60 a
        have hl2 := idxB_le 62 a
        rw [feed_end (x := a) (by omega) h1]
        intro t ht; cases ht
theorem end_attrs (r : List UInt8) : ∀ t ∈ endB r, t.attrs.length ≤ 4 := by
  intro t ht
  unfold endB at ht
  split at ht
  · cases ht
  · rw [List.mem_singleton] at ht; subst ht; exact Nat.zero_le _
theorem tokens_attrs (s : List UInt8) : ∀ t ∈ tokensB s, t.attrs.length ≤ 4 := by
  intro t ht
  rcases List.mem_append.1 ht with h | h
  · exact feed_attrs s t h
  · exact end_attrs _ t h
theorem atCells_count : ∀ ats : List At, countL (atCells ats) = 2 * ats.length
  | [] => rfl
  | a :: ats => by rw [atCells, countL, countL, Rw.count, Rw.count, atCells_count ats, List.length_cons]; omega
theorem rwA_count (v : Value) (ats : List At) : (rwA v ats).count = 2 * ats.length := by rw [rwA, Rw.count, atCells_count]
theorem tkCells_count : ∀ {ts : List Tv}, (∀ p ∈ ts, p.1.attrs.length ≤ 4) → countL (tkCells ts) ≤ 11 * ts.length
  | [], _ => by rw [tkCells, countL]; exact Nat.zero_le _
  | p :: ts, h => by
    have ih := tkCells_count fun q hq => h q (List.mem_cons_of_mem _ hq)
    have h1 := h p List.mem_cons_self
    rw [tkCells, countL, countL, countL, countL, Rw.count, Rw.count, Rw.count, rwA_count, List.length_cons]; omega
theorem rwT_small {v : Value} {ts : List Tv} {l : List Tok} (h : ts.map Prod.fst = l) (ha : ∀ t ∈ l, t.attrs.length ≤ 4) : (rwT v ts).count ≤ 11 * l.length := by
  rw [rwT, Rw.count]
  subst h
  rw [List.length_map]
  exact tkCells_count fun p hp => ha p.1 (List.mem_map_of_mem hp)
theorem mark_is_read {x : Rw} {lo hi k hi' : Nat} {w : World} (h : (x.mark k).OwnR lo hi w) (hh : hi ≤ hi') : (x.mark k).ReadR hi' w := Rw.ReadR.mono hh _ (Rw.OwnR.reads _ h)
theorem own_read {x : Rw} {lo hi hi' : Nat} {w : World} (h : x.OwnR lo hi w) (hh : hi ≤ hi') : x.ReadR hi' w := Rw.ReadR.mono hh _ (Rw.OwnR.reads _ h)
/-- What another call owns is as it was when this call's own is written. -/
theorem own_apart {x y : Rw} {lo hi lo' hi' : Nat} {w w' : World} (h : x.OwnR lo hi w) (hy : y.OwnR lo' hi' w) (hh : hi ≤ lo') (ho : OnlyB y.blocks w w') : x.OwnR lo hi w' := by
  refine Rw.OwnR.only ho x h fun b hb hby => ?_
  have h1 := Rw.OwnR.lt x h b hb
  have h2 := Rw.OwnR.lt y hy b hby
  omega
theorem own_back {y : Rw} {lo hi : Nat} {w0 w w' : World} (hb : Below lo w0 w) (hy : y.OwnR lo hi w) (hl : lo ≤ w.heap.size) (ho : OnlyB y.blocks w w') : Below lo w0 w' :=
  hb.trans (ho.below (fun b hbm => (Rw.OwnR.lt y hy b hbm).1) hl)
theorem optL_nodup (o : Option Nat) : o.toList.Nodup := by cases o <;> simp
/-- What TagOf answers, in letters. -/
theorem tagOut_all {s : ByteArray} {w : World} {e : Ending} {w' : World} (h : TagOut s w e w') :
    ∃ a n c, e = .returned (.tuple #[.agg #[.int .i64 (tagT s).kind, .string (tagT s).name, .slice a n c, .string (tagT s).text], .bool (tagOk s)]) ∧ OwnK encA 2 178 w.heap.size w'.heap.size w' (.slice a n c) (tagT s).attrs ∧ Below w.heap.size w w' := by
  obtain ⟨⟨a, n, c⟩, he, ho, hb⟩ := h
  exact ⟨a, n, c, he, ho, hb⟩

end Go.Proofs.YtpkicliimhflgaaGreatDoor
namespace Go.Proofs.YtpkicliimhflgaaGreatDoor
open Go.ChangeShapes Go.WideShapes Go.ChangeAt Go.RowKit

mutual
theorem count_data : ∀ (x y : Rw), x.data = y.data → x.count = y.count
  | .leaf v, .leaf u, _ => rfl
  | .leaf v, .sl u n k e cs, h => by rw [Rw.data, Rw.data] at h; cases h
  | .sl u n k e cs, .leaf v, h => by rw [Rw.data, Rw.data] at h; cases h
  | .sl v n k e cs, .sl u m j f ds, h => by
    rw [Rw.data, Rw.data] at h
    rw [Rw.count, Rw.count]
    exact countL_data cs ds (Dt.sl.inj h).2
theorem countL_data : ∀ (cs ds : List Rw), dataL cs = dataL ds → countL cs = countL ds
  | [], [], _ => rfl
  | [], d :: ds, h => by rw [dataL, dataL] at h; cases h
  | c :: cs, [], h => by rw [dataL, dataL] at h; cases h
  | c :: cs, d :: ds, h => by
    rw [dataL, dataL] at h
    obtain ⟨h1, h2⟩ := List.cons.inj h
    rw [countL, countL, count_data c d h1, countL_data cs ds h2]
end
/-- A copy of a builder that came in, as a reading. -/
theorem tb_any {w X : World} {nv ov : Value} {ns : List Nv} {zs : List Int} (hr : ReadN w.heap.size w nv ns) (hi : Reads .i64 w.heap.size w ov zs) (hl : (rwN nv ns).weight ≤ 1048576) (hl2 : (rwI ov zs).weight ≤ 1048576) (hb : Below w.heap.size w X) :
    Calls Tryz.prog 27 #[.agg #[nv, ov]] X fun e w' => ∃ na nn nc oa on oc, e = .returned (.agg #[.slice na nn nc, .slice oa on oc]) ∧ BdIn w'.heap.size w' (.slice na nn nc) (.slice oa on oc) ⟨ns.map Prod.fst, zs⟩ ∧ Below X.heap.size X w' := by
  refine (toL_Builder (rwN nv ns) (rwI ov zs) X (rwN_is _ _) (rwN_reads ((hr.below hb (Nat.le_refl _)).mono hb.size)) (by omega) (rwI_is _ _) (rwI_reads.2 ((hi.below hb (Nat.le_refl _)).mono hb.size)) (by omega)).mono ?_
  rintro e w' ⟨y0, y1, rfl, i0, d0, i1, d1, ho, _, hb'⟩
  have h := bdIn_of d0 i1 d1 ho
  obtain ⟨na, nn, nc, e0⟩ := sl_form (is_sl_NodeS i0) (Rw.OwnR.reads _ (ownL_two.1 ho).1)
  obtain ⟨oa, on, oc, e1⟩ := sl_form (is_sl_IntS i1) (Rw.OwnR.reads _ (ownL_two.1 ho).2)
  rw [e0, e1] at h
  exact ⟨na, nn, nc, oa, on, oc, by rw [e0, e1], h, hb'⟩

end Go.Proofs.YtpkicliimhflgaaGreatDoor
namespace Go.Proofs.YtpkicliimhflgaaGreatDoor
open Go.ChangeShapes Go.WideShapes Go.ChangeAt Go.RowKit

theorem ownTk {lo hi : Nat} {w : World} {y : Rw} {v u : Value} {ats : List At} (d : y.data = (rwA u ats).data) (e : y.cell = v) (h : OwnRL lo hi w [y]) : ReadsK encA 2 w.heap.size w v ats := by
  subst e; exact attrs_of_data d (rd_of (ownL_one.1 h))
/-- What AddToken answers, with the places of all that it made. -/
def AddForm (b : Bd) (t : Tok) (X : World) (e : Ending) (w' : World) : Prop :=
  ∃ na nn nc oa on oc ns, e = .returned (.tuple #[.agg #[.slice na nn nc, .slice oa on oc], .int .i64 (addTok b t).2]) ∧ ns.map Prod.fst = (addTok b t).1.nodes ∧ BdM X.heap.size X w' (.slice na nn nc) (.slice oa on oc) ns (addTok b t).1.opn
theorem addForm {b : Bd} {t : Tok} {X w' : World} {e : Ending} (h : AddOut b t X e w') : AddForm b t X e w' := by
  obtain ⟨nv, ov, he, hb⟩ := h
  obtain ⟨na, nn, nc, oa, on, oc, rfl, rfl⟩ := hb.lens
  obtain ⟨ns, hns, hm, ho⟩ := hb
  exact ⟨na, nn, nc, oa, on, oc, ns, he, hns, ⟨hm, ho⟩⟩
theorem adds_any {X : World} {nv ov : Value} {b : Bd} {kd : Int} {nm tx : ByteArray} {ats : List At} {ta : Option Addr} {tn tc : Nat} (hb : BdIn X.heap.size X nv ov b) (hf : Fits b) (ht : ReadsK encA 2 X.heap.size X (.slice ta tn tc) ats) (hta : ats.length ≤ 1048576) :
    Calls Tryz.prog 107 #[.agg #[nv, ov], .agg #[.int .i64 kd, .string nm, .slice ta tn tc, .string tx]] X (AddForm b ⟨kd, nm, ats, tx⟩ X) :=
  (add_spec nv ov b ⟨kd, nm, ats, tx⟩ ta tn tc X hb hf ht (by show ats.length ≤ _; omega)).mono fun _ _ h => addForm h
/-- What an argument may hold so that append stays within its reach. -/
theorem fits_row {v u : Value} {ns : List Nv} {zs : List Int} (h : (rwN v ns).weight ≤ 1048576) (h2 : (rwI u zs).weight ≤ 1048576) : Fits ⟨ns.map Prod.fst, zs⟩ := by
  have := (rwN_weight v ns).1
  rw [rwI_weight] at h2
  exact ⟨by show ndW (ns.map Prod.fst) ≤ _; omega, by show zs.length ≤ _; omega⟩
theorem attrs_row {v : Value} {ats : List At} (h : (rwA v ats).weight ≤ 1048576) : ats.length ≤ 1048576 := by
  rw [rwA, Rw.weight] at h; omega
theorem bd_al {B : Nat} {w0 w : World} {nv ov : Value} {ns : List Nv} {zs : List Int} (h : BdM B w0 w nv ov ns zs) (o : Obj) : BdM B w0 (w.alloc o) nv ov ns zs := h.later ((Below.refl _ _).alloc (Nat.le_refl _) o)
theorem bd_st2 {B c : Nat} {w0 w : World} {nv ov u v : Value} {ns : List Nv} {zs : List Int} (hb : w.heap[c]? = some (.cells zBd 41 (0, 0))) (hB : B ≤ c) (h : BdM B w0 w nv ov ns zs) : BdM B w0 ((w.setCell ⟨c, 0, none⟩ u).setCell ⟨c, 1, none⟩ v) nv ov ns zs := (h.setT hb hB).setT (Box2.set0 hb u) hB
theorem heap_bl {X w' : World} {g : Nat} {o : Obj} (k : Below X.heap.size X w') (h : X.heap[g]? = some o) : w'.heap[g]? = some o := below_heap k (heap_lt h) h
theorem bd_nobox {B c : Nat} {w0 w : World} {x y nv ov : Value} {ns : List Nv} {zs : List Int} (hq : Box2 w c x y) (h : BdM B w0 w nv ov ns zs) : c ∉ blocksL [rwN nv ns, rwI ov zs] := by
  intro hc
  rw [blocksL, blocksL, blocksL, List.append_nil] at hc
  rcases List.mem_append.1 hc with hc | hc
  · rw [rwN, Rw.blocks, ndCells_blocks] at hc
    rcases List.mem_append.1 hc with hc | hc
    · exact row_ne_box h.n.row.row hq nd_ne_bd.1 (by have : nv.ownBlock = some c := by simpa using hc
                                                     exact this.symm)
    · obtain ⟨p, hp, hpb⟩ := insN_mem.1 hc
      exact row_ne_box (h.n.inn p hp).1 hq nd_ne_bd.2.1 hpb.symm
  · rw [rwI_blocks] at hc
    exact row_ne_box h.o.row hq nd_ne_bd.2.2.1 (by have : ov.ownBlock = some c := by simpa using hc
                                                   exact this.symm)

end Go.Proofs.YtpkicliimhflgaaGreatDoor
namespace Go.Proofs.YtpkicliimhflgaaGreatDoor
open Go.ChangeShapes Go.WideShapes Go.ChangeAt Go.RowKit Go.Joins Go.Deep

theorem slice_in {P : Program} {H : Type} {enc : TypeId × Value → H} {w : World} {base : Nat} {spare : Nat → Bool} {held : Bool} {t e : TypeId} {fuel : Nat} {v : Value} {x : DataW H × List MemPlace} (ht : P.underlying t = some (.slice e)) (h : DataW.trod enc P w base spare held fuel t [v] = some x) : ∃ a len cap, v = .slice a len cap := by
  rcases open_slice ht h with ⟨hcs, _⟩ | ⟨a, l, c, _, _, _, _, hcs, _⟩
  · exact ⟨none, 0, 0, by simpa using hcs⟩
  · exact ⟨some a, l, c, by simpa using hcs⟩
instance : Inhabited Shv := ⟨([], svNil)⟩
/-- A slice of rules that came in. -/
def IsRus (w : World) (v : Value) (rs : List Ru) : Prop := ReadsK encU 2 w.heap.size w v rs ∧ ∀ r ∈ rs, RuOk r
set_option maxRecDepth 100000 in
theorem rules_of {H : Type} {enc : TypeId × Value → H} {W : World} {fuel : Nat} {v : Value} {d : DataW H × List MemPlace} (hf : DataW.trod enc Tryz.prog W 0 (fun _ => true) true fuel 124 [v] = some d) :
    ∃ rs, IsRus W v rs := by
  rcases open_slice Tryz.underlying124 hf with ⟨hcs, _⟩ | ⟨x, len, cap, m, n, D, Pl, hcs, _, hl, hc, hm, _, hel⟩
  · obtain rfl : v = .slice none 0 0 := by simpa using hcs
    exact ⟨[], ⟨none, 0, rfl, Nat.le_refl _, by omega, (fun _ => rfl), Or.inl rfl⟩, by simp⟩
  · obtain rfl : v = .slice (some x) len cap := by simpa using hcs
    simp only [if_true] at hm
    subst hm
    have hC : Tryz.prog.cellsOf 213 = 2 := by kernel_rfl
    rw [hC] at hel
    have hstr : Tryz.prog.cellsOf 9 = 1 := by kernel_rfl
    have hint : Tryz.prog.cellsOf 3 = 1 := by kernel_rfl
    have hx : ∀ i, i < len → ∃ y : Ru, W.cell? (x.add (i * 2)) = some (.string y.1) ∧ W.cell? (x.add (i * 2 + 1)) = some (.int .i64 y.2) ∧ RuOk y := by
      intro i hi
      obtain ⟨cs, h1, h2⟩ := hel i (by omega)
      obtain ⟨hlen, hat⟩ := cells?_at h1
      obtain ⟨y0, y1, n', _, _, t0, t1⟩ := trod_struct2 Tryz.underlying213 h2
      obtain ⟨s, e0, _, w0⟩ := DataW.trod_string Tryz.underlying9 t0
      obtain ⟨t, e1, _, w1⟩ := DataW.trod_int Tryz.underlying3 t1
      obtain ⟨c0, c1, rfl⟩ : ∃ c0 c1, cs = [c0, c1] := by
        rcases cs with _ | ⟨c0, _ | ⟨c1, _ | ⟨c2, cs⟩⟩⟩
        · cases hlen
        · cases hlen
        · exact ⟨c0, c1, rfl⟩
        · exact absurd (congrArg (fun n => n - 2) hlen) (by simp)
      simp [hstr, hint] at e0 e1
      have g0 := hat 0 (by omega)
      have g1 := hat 1 (by omega)
      rw [add_add] at g0 g1
      simp at g0 g1
      have hk := i64_range w1
      exact ⟨(s, t), by rw [g0, e0], by rw [g1, e1], w0, hk.1, hk.2⟩
    obtain ⟨f, hf⟩ := choose_lt hx
    refine ⟨(List.range len).map f, ⟨some x, _, by rw [List.length_map, List.length_range], by simpa using hl, by unfold maxLen at hc; omega, (fun h => by cases h), ?_⟩, ?_⟩
    · by_cases h0 : len = 0
      · exact Or.inl (by simpa using h0)
      · obtain ⟨blk, off, spot⟩ := x
        have c0 := (hf 0 (by omega)).1
        have hspot : spot = none := by simpa [Addr.add] using World.cell?_spot c0
        subst hspot
        have hlt : blk < W.heap.size := by
          have := World.block_lt_of_cell? W _ c0
          rwa [add_lit] at this
        refine Or.inr ⟨blk, off, rfl, hlt, fun j y hj i hi' => ?_⟩
        have hjl : j < len := by have := (List.getElem?_eq_some_iff.1 hj).1; simpa using this
        simp [hjl] at hj
        subst hj
        obtain ⟨g0, g1, _⟩ := hf j hjl
        rw [add_lit] at g0 g1
        rcases (show i = 0 ∨ i = 1 by omega) with rfl | rfl
        · rw [Nat.add_zero]; exact g0
        · rw [Nat.add_assoc]; exact g1
    · intro r hr
      obtain ⟨i, hi, rfl⟩ := List.mem_map.1 hr
      exact (hf i (List.mem_range.1 hi)).2.2

/-- A slice of sheets that came in. -/
def IsShs (w : World) (v : Value) (ss : List Shv) : Prop := ReadH w.heap.size w v ss ∧ ∀ p ∈ ss, ∀ r ∈ p.1, RuOk r
set_option maxRecDepth 100000 in
theorem sheets_of {H : Type} {enc : TypeId × Value → H} {W : World} {fuel : Nat} {v : Value} {d : DataW H × List MemPlace} (hf : DataW.trod enc Tryz.prog W 0 (fun _ => true) true fuel 60 [v] = some d) :
    ∃ ss, IsShs W v ss := by
  rcases open_slice Tryz.underlying60 hf with ⟨hcs, _⟩ | ⟨x, len, cap, m, n, D, Pl, hcs, _, hl, hc, hm, _, hel⟩
  · obtain rfl : v = .slice none 0 0 := by simpa using hcs
    exact ⟨[], ⟨⟨none, 0, rfl, Nat.le_refl _, by omega, (fun _ => rfl), Or.inl rfl⟩, by simp⟩, by simp⟩
  · obtain rfl : v = .slice (some x) len cap := by simpa using hcs
    simp only [if_true] at hm
    subst hm
    have hC : Tryz.prog.cellsOf 126 = 1 := by kernel_rfl
    rw [hC] at hel
    have hsl : Tryz.prog.cellsOf 124 = 1 := by kernel_rfl
    have hx : ∀ i, i < len → ∃ p : Shv, W.cell? (x.add i) = some (sv p.2) ∧ IsRus W (sv p.2) p.1 := by
      intro i hi
      obtain ⟨cs, h1, h2⟩ := hel i (by omega)
      obtain ⟨hlen, hat⟩ := cells?_at h1
      obtain ⟨y0, n', _, _, t0⟩ := trod_struct1 Tryz.underlying126 h2
      obtain ⟨c0, rfl⟩ : ∃ c0, cs = [c0] := by
        rcases cs with _ | ⟨c0, _ | ⟨c1, cs⟩⟩
        · cases hlen
        · exact ⟨c0, rfl⟩
        · exact absurd (congrArg (fun n => n - 1) hlen) (by simp)
      simp [hsl] at t0
      obtain ⟨aa, al, ac, rfl⟩ := slice_in Tryz.underlying124 t0
      obtain ⟨rs, hrs⟩ := rules_of (enc := enc) (W := W) t0
      have g0 := hat 0 (by omega)
      rw [add_add] at g0
      simp at g0
      exact ⟨(rs, (aa, al, ac)), g0, hrs⟩
    obtain ⟨f, hf⟩ := choose_lt hx
    refine ⟨(List.range len).map f, ⟨⟨some x, _, by rw [List.length_map, List.length_range], by simpa using hl, by unfold maxLen at hc; omega, (fun h => by cases h), ?_⟩, fun p hp => ?_⟩, fun p hp => ?_⟩
    · by_cases h0 : len = 0
      · exact Or.inl (by simpa using h0)
      · obtain ⟨blk, off, spot⟩ := x
        have c0 := (hf 0 (by omega)).1
        have hspot : spot = none := by simpa [Addr.add] using World.cell?_spot c0
        subst hspot
        have hlt : blk < W.heap.size := by
          have := World.block_lt_of_cell? W _ c0
          rwa [add_lit] at this
        refine Or.inr ⟨blk, off, rfl, hlt, fun j y hj i hi' => ?_⟩
        have hjl : j < len := by have := (List.getElem?_eq_some_iff.1 hj).1; simpa using this
        simp [hjl] at hj
        subst hj
        obtain ⟨g0, _⟩ := hf j hjl
        rw [add_lit] at g0
        obtain rfl : i = 0 := by omega
        rw [Nat.add_zero, Nat.mul_one]; exact g0
    · obtain ⟨i, hi, rfl⟩ := List.mem_map.1 hp
      exact (hf i (List.mem_range.1 hi)).2.1
    · obtain ⟨i, hi, rfl⟩ := List.mem_map.1 hp
      exact (hf i (List.mem_range.1 hi)).2.2
theorem sheets_arg {H : Type} {enc : TypeId × Value → H} {W : World} {v : Value} {d : DataW H} {p : List MemPlace} (hv : ∃ a n c, v = .slice a n c) (h : DataW.Trod enc Tryz.prog W 0 (fun _ => true) true 60 v d p) : ∃ ss, IsShs W v ss := by
  obtain ⟨a, n, c, rfl⟩ := hv
  obtain ⟨fuel, hf⟩ := h
  exact sheets_of hf

set_option maxRecDepth 100000 in
theorem sheet_of {H : Type} {enc : TypeId × Value → H} {W : World} {base : Nat} {v : Value} {d : DataW H} {p : List MemPlace} (hv : Value.okWide Tryz.prog W .any base 126 v) (h : DataW.Trod enc Tryz.prog W 0 (fun _ => true) true 126 v d p) :
    ∃ (a : Option Addr) (n c : Nat) (rs : List Ru), v = .agg #[.slice a n c] ∧ IsRus W (.slice a n c) rs := by
  obtain ⟨v0, y0, n, rfl, _, _, h0⟩ := open_agg1 Tryz.underlying126 (by kernel_rfl) (by kernel_rfl) hv h
  obtain ⟨a, l, c, rfl⟩ := slice_in Tryz.underlying124 h0
  obtain ⟨rs, hrs⟩ := rules_of (enc := enc) (W := W) h0
  exact ⟨a, l, c, rs, rfl, hrs⟩

theorem ruCells_small : ∀ {rs : List Ru}, (∀ r ∈ rs, RuOk r) → SmallL (ruCells rs)
  | [], _ => trivial
  | r :: rs, h => by
    have h1 := h r List.mem_cons_self
    rw [ruCells]
    refine smallL_iff.2 fun c hc => ?_
    rcases List.mem_cons.1 hc with e | hc
    · rw [e, Rw.Small]; exact h1.1
    rcases List.mem_cons.1 hc with e | hc
    · rw [e, Rw.Small]; exact Nat.zero_le _
    · exact smallL_iff.1 (ruCells_small fun q hq => h q (List.mem_cons_of_mem _ hq)) c hc
theorem rwU_small {v : Value} {rs : List Ru} (h : ∀ r ∈ rs, RuOk r) : (rwU v rs).Small := by rw [rwU, Rw.Small]; exact ruCells_small h
theorem rwH_small {v : Value} {ss : List Shv} (h : ∀ p ∈ ss, ∀ r ∈ p.1, RuOk r) : (rwH v ss).Small := by
  rw [rwH, Rw.Small]
  refine smallL_iff.2 fun c hc => ?_
  obtain ⟨p, hp, rfl⟩ := shCells_mem c hc
  exact rwU_small (h p hp)
/-- How many rules there are, by the weight. -/
theorem ruCells_weight : ∀ rs : List Ru, weightL (ruCells rs) = (rs.map fun r => r.1.size).sum
  | [] => rfl
  | r :: rs => by
    have h1 : (Rw.leaf (.int .i64 r.2)).weight = 0 := rfl
    rw [ruCells, weightL, weightL, ruCells_weight rs, h1, Nat.zero_add, List.map_cons, List.sum_cons]; rfl
theorem rwU_weight (v : Value) (rs : List Ru) : (rwU v rs).weight = rs.length + (rs.map fun r => r.1.size).sum := by rw [rwU, Rw.weight, ruCells_weight]
theorem shCells_weight : ∀ ss : List Shv, (flatR ss).length ≤ weightL (shCells ss)
  | [] => Nat.le_refl _
  | p :: ss => by
    have ih := shCells_weight ss
    rw [shCells, weightL, rwU_weight]
    rw [flatR, List.flatMap_cons, List.length_append]
    rw [flatR] at ih
    omega
theorem rwH_weight (v : Value) (ss : List Shv) : ss.length ≤ (rwH v ss).weight ∧ (flatR ss).length ≤ (rwH v ss).weight := by
  rw [rwH, Rw.weight]
  have := shCells_weight ss
  exact ⟨Nat.le_add_right _ _, by omega⟩
theorem rules_flat {ss : List Shv} {p : Shv} (h : p ∈ ss) : p.1.length ≤ (flatR ss).length := by
  induction ss with
  | nil => cases h
  | cons q ss ih =>
    rw [flatR, List.flatMap_cons, List.length_append]
    rcases List.mem_cons.1 h with rfl | h
    · exact Nat.le_add_right _ _
    · have := ih h; rw [flatR] at this; omega
/-- What the laws' walks need of sheets: few, in range. -/
structure ShsOk (ss : List Shv) : Prop where
  len : ss.length ≤ 1048576
  tot : (flatR ss).length ≤ 1048576
  ok : ∀ p ∈ ss, ∀ r ∈ p.1, RuOk r
theorem ShsOk.each {ss : List Shv} (h : ShsOk ss) : ∀ p ∈ ss, p.1.length ≤ 1099511627776 := fun _ hp => Nat.le_trans (rules_flat hp) (Nat.le_trans h.tot (by decide))
theorem ShsOk.of {ss us : List Shv} (h : ShsOk ss) (e : us.map Prod.fst = ss.map Prod.fst) : ShsOk us := by
  have hl : us.length = ss.length := by have := congrArg List.length e; simpa using this
  refine ⟨by rw [hl]; exact h.len, by rw [flatR_of e]; exact h.tot, fun p hp r hr => ?_⟩
  have hm : p.1 ∈ ss.map Prod.fst := by rw [← e]; exact List.mem_map_of_mem hp
  obtain ⟨q, hq, e2⟩ := List.mem_map.1 hm
  exact h.ok q hq r (by rw [e2]; exact hr)
theorem shsOk_of {v : Value} {ss : List Shv} (h : (rwH v ss).weight ≤ 1048576) (hok : ∀ p ∈ ss, ∀ r ∈ p.1, RuOk r) : ShsOk ss := by
  have := rwH_weight v ss
  exact ⟨by omega, by omega, hok⟩

end Go.Proofs.YtpkicliimhflgaaGreatDoor
