/- 5 texts in one. -/
import Derived.Test.YtgcdfkpidcdicaaGreatDoorRows
import Derived.WalkKit
import Derived.ProofKit
import Derived.OpenShut
import Derived.LoopTactic
import Derived.Lib.Hide
import Derived.Below
import Derived.Laws.Rows
import Derived.Laws.BitsLemmas
import Derived.Deep.QuietTactic
import Derived.BigQuiet
import Derived.Test.YtgcdfkpidcdicaaGreatDoorBasA
namespace Go.Proofs.YtgcdfkpidcdicaaGreatDoor
/- Draw -/
open Go.ChangeShapes Go.WideShapes Go.ChangeAt Go.RowKit

/-- The bytes that the reader reads: a slice value of length len, each of its cells a byte, below block B. -/
def CodeOk (B : Nat) (w : World) (sv : Value) (len : Nat) : Prop :=
  ∃ (a : Option Addr) (cap : Nat), sv = .slice a len cap ∧ len ≤ 1048576 ∧ (len = 0 ∨ ∃ blk off, a = some ⟨blk, off, none⟩ ∧ blk < B ∧ ∀ j, j < len → ∃ n : Int, 0 ≤ n ∧ n < 256 ∧ w.cell? ⟨blk, off + j, none⟩ = some (.int .u8 n))
/-- Block b is a reader over these bytes. -/
def Cur (b : Nat) (sv : Value) (len : Nat) (w : World) : Prop :=
  ∃ (i : Nat) (h : Int), w.heap[b]? = some (.cells #[sv, .int .i64 i, .int .i64 h] 157 (0, 0)) ∧ i ≤ len ∧ CodeOk b w sv len
/-- Of what lay in memory only block b may have been written; no block is new. -/
structure Only (b : Nat) (w w' : World) : Prop where
  os : w'.os = w.os
  tape : w'.tape = w.tape
  output : w'.output = w.output
  size : w'.heap.size = w.heap.size
  block : ∀ k, k ≠ b → w'.heap[k]? = w.heap[k]?

def ByteOut (b : Nat) (sv : Value) (len : Nat) (w : World) (e : Ending) (w' : World) : Prop :=
  ∃ x : Int, e = .returned (.int .i64 x) ∧ 0 ≤ x ∧ x ≤ 255 ∧ Cur b sv len w' ∧ Only b w w'

theorem and255 (n : Int) : bits .and .i64 n 255 = n % 256 := by
  have h255 : (BitVec.ofInt 64 255).toNat = 2 ^ 8 - 1 := by decide
  have key : (BitVec.ofInt 64 n &&& BitVec.ofInt 64 255).toNat = (n % ((2 ^ 64 : Nat) : Int)).toNat % 2 ^ 8 := by
    rw [BitVec.toNat_and, BitVec.toNat_ofInt, h255, Nat.and_two_pow_sub_one_eq_mod]
  show IntKind.i64.wrap ((BitVec.ofInt 64 n &&& BitVec.ofInt 64 255).toNat : Nat) = n % 256
  rw [key, IntKind.wrap_i64]
  omega
theorem Only.refl (b : Nat) (w : World) : Only b w w := ⟨rfl, rfl, rfl, rfl, fun _ _ => rfl⟩
theorem Only.trans {b : Nat} {w1 w2 w3 : World} (h : Only b w1 w2) (k : Only b w2 w3) : Only b w1 w3 :=
  ⟨k.os.trans h.os, k.tape.trans h.tape, k.output.trans h.output, k.size.trans h.size, fun i hi => (k.block i hi).trans (h.block i hi)⟩
theorem Only.set {b : Nat} {a w : World} (h : Only b a w) (o : Nat) (v : Value) : Only b a (w.setCell ⟨b, o, none⟩ v) :=
  h.trans ⟨rfl, rfl, rfl, by simp [World.setCell], fun k hk => Below.heap_setCell _ _ _ _ hk⟩
theorem Only.drewN {b : Nat} {a w : World} (h : Only b a w) (n : Nat) : Only b a (w.drewN n) := h.trans ⟨rfl, rfl, rfl, rfl, fun _ _ => rfl⟩
theorem Only.cell {b : Nat} {w w' : World} (h : Only b w w') {p : Addr} (hp : p.block ≠ b) : w'.cell? p = w.cell? p := World.cell?_of_block (w := w) (h.block p.block hp)
theorem Only.below {b : Nat} {w w' : World} (h : Only b w w') : Below b w w' := ⟨h.os, h.tape, h.output, by rw [h.size]; exact Nat.le_refl _, fun k hk => h.block k (by omega)⟩
theorem CodeOk.only {b : Nat} {w w' : World} {sv : Value} {len : Nat} (h : CodeOk b w sv len) (k : Only b w w') : CodeOk b w' sv len := by
  obtain ⟨a, cap, e, h1, h2⟩ := h
  refine ⟨a, cap, e, h1, ?_⟩
  rcases h2 with h2 | ⟨blk, off, e2, hb, hc⟩
  · exact Or.inl h2
  · refine Or.inr ⟨blk, off, e2, hb, fun j hj => ?_⟩
    obtain ⟨n, n0, n1, hn⟩ := hc j hj
    exact ⟨n, n0, n1, by rw [k.cell (by show blk ≠ b; omega)]; exact hn⟩
theorem set_at2 {b : Nat} {w : World} {x y z v : Value} {T : TypeId} (h : w.heap[b]? = some (.cells #[x, y, z] T (0, 0))) : (w.setCell ⟨b, 2, none⟩ v).heap[b]? = some (.cells #[x, y, v] T (0, 0)) := by
  rw [heap_setCell_same w b 2 _ T v h]; rfl
theorem set_at1 {b : Nat} {w : World} {x y z v : Value} {T : TypeId} (h : w.heap[b]? = some (.cells #[x, y, z] T (0, 0))) : (w.setCell ⟨b, 1, none⟩ v).heap[b]? = some (.cells #[x, v, z] T (0, 0)) := by
  rw [heap_setCell_same w b 1 _ T v h]; rfl

set_option maxHeartbeats 1000000 in
theorem byte_any (b : Nat) (sv : Value) (len : Nat) (w : World) (hc : Cur b sv len w) :
    Calls Tryz.prog 131 #[.pointer (some ⟨b, 0, none⟩)] w (ByteOut b sv len w) := by
  obtain ⟨i, h, hb, hi, hco⟩ := hc
  obtain ⟨a, cap, hsv, hlen, hcode⟩ := id hco
  subst hsv
  have c0 : w.cell? ⟨b, 0, none⟩ = some (.slice a len cap) := by unfold World.cell?; rw [hb]; rfl
  have c1 : w.cell? ⟨b, 1, none⟩ = some (.int .i64 i) := by unfold World.cell?; rw [hb]; rfl
  have c2 : w.cell? ⟨b, 2, none⟩ = some (.int .i64 h) := by unfold World.cell?; rw [hb]; rfl
  have f1 : w.frozen? ⟨b, 1, none⟩ = false := by unfold World.frozen?; rw [hb]; rfl
  have f2 : w.frozen? ⟨b, 2, none⟩ = false := by unfold World.frozen?; rw [hb]; rfl
  obtain ⟨A, hA⟩ : ∃ A : Int, wrap64 (wrap64 (h * 6364136223846793005) + 1442695040888963407) = A := ⟨_, rfl⟩
  obtain ⟨x, hx⟩ : ∃ x : Int, bits .and .i64 (bits .xor .i64 (A / 8589934592) (A / 140737488355328)) 255 = x := ⟨_, rfl⟩
  obtain ⟨w1, hw1⟩ : ∃ w1 : World, w.setCell ⟨b, 2, none⟩ (.int .i64 A) = w1 := ⟨_, rfl⟩
  have ho1 : Only b w w1 := by rw [← hw1]; exact (Only.refl b w).set 2 _
  have hb1 : w1.heap[b]? = some (.cells #[.slice a len cap, .int .i64 i, .int .i64 A] 157 (0, 0)) := by rw [← hw1]; exact set_at2 hb
  have hx0 : 0 ≤ x ∧ x ≤ 255 := by rw [← hx, and255]; omega
  obtain ⟨hx0, hx1⟩ := hx0
  have d0 : w1.cell? ⟨b, 0, none⟩ = some (.slice a len cap) := by unfold World.cell?; rw [hb1]; rfl
  have d1 : w1.cell? ⟨b, 1, none⟩ = some (.int .i64 i) := by unfold World.cell?; rw [hb1]; rfl
  have d2 : w1.cell? ⟨b, 2, none⟩ = some (.int .i64 A) := by unfold World.cell?; rw [hb1]; rfl
  have g1 : w1.frozen? ⟨b, 1, none⟩ = false := by unfold World.frozen?; rw [hb1]; rfl
  have HB1 := Lib.hid hb1; have HC := Lib.hid (hco.only ho1); have HO := Lib.hid ho1; have HA := Lib.hid hA; have HX := Lib.hid hx; have HW := Lib.hid hw1
  have HD := Lib.hid (show len = 0 ∨ ∃ blk off, a = some ⟨blk, off, none⟩ ∧ blk < b ∧ ∀ j, j < len → ∃ n : Int, 0 ≤ n ∧ n < 256 ∧ w1.cell? ⟨blk, off + j, none⟩ = some (.int .u8 n) from by
    obtain ⟨a', cap', e, _, h2⟩ := HC.out
    cases e
    exact h2)
  clear hb hcode hb1 hco ho1 hA hx hw1
  go_enter Tryz.func131, Tryz.ntmps131
  go_wp2
  rw [HA.out, HW.out]
  clear c0 c1 c2 f1 f2
  go_quiet (fail)
  rw [HX.out]
  go_wp2
  by_cases hil : (i : Int) < (len : Int)
  · have hild : decide ((i : Int) < (len : Int)) = true := decide_eq_true hil
    rcases HD.out with h0 | ⟨blk, off, rfl, hblk, hcells⟩
    · omega
    · obtain ⟨n, n0, n1, hn⟩ := hcells i (by omega)
      clear hcells
      go_quiet (fail)
      go_wp2
      go_quiet (fail)
      go_wp2
      go_ret
      have e1 : (.int .i64 ((i : Int) + 1) : Value) = .int .i64 ((i + 1 : Nat) : Int) := by go_num
      refine ⟨bits .and .i64 (x + n) 255, rfl, by rw [and255]; omega, by rw [and255]; omega, ⟨i + 1, A, ?_, by omega, ?_⟩, ?_⟩
      · rw [← e1]; exact set_at1 HB1.out
      · exact HC.out.only (((Only.refl b w1).set 1 (.int .i64 ((i : Int) + 1))).trans ⟨rfl, rfl, rfl, rfl, fun _ _ => rfl⟩)
      · exact (HO.out.trans ((Only.refl b w1).set 1 (.int .i64 ((i : Int) + 1)))).trans ⟨rfl, rfl, rfl, rfl, fun _ _ => rfl⟩
  · have hild : decide ((i : Int) < (len : Int)) = false := decide_eq_false hil
    go_quiet (fail)
    go_wp2
    go_ret
    exact ⟨x, rfl, hx0, hx1, ⟨i, A, HB1.out, hi, HC.out.only ⟨rfl, rfl, rfl, rfl, fun _ _ => rfl⟩⟩, HO.out.trans ⟨rfl, rfl, rfl, rfl, fun _ _ => rfl⟩⟩

def BelowOut (b : Nat) (sv : Value) (len : Nat) (n : Int) (w : World) (e : Ending) (w' : World) : Prop :=
  ∃ x : Int, e = .returned (.int .i64 x) ∧ 0 ≤ x ∧ (0 < n → x < n) ∧ x ≤ 16777215 ∧ Cur b sv len w' ∧ Only b w w'
theorem rem_bd {x n : Int} (h0 : 0 ≤ x) (hn : 0 < n) : 0 ≤ x % n ∧ x % n < n ∧ x % n ≤ x :=
  by
  have h1 := Int.mul_ediv_add_emod x n
  have h2 := Int.mul_nonneg (show 0 ≤ n by omega) (Int.ediv_nonneg h0 (show 0 ≤ n by omega))
  exact ⟨Int.emod_nonneg _ (by omega), Int.emod_lt_of_pos _ hn, by omega⟩

set_option maxHeartbeats 1000000 in
theorem below_any (b : Nat) (sv : Value) (len : Nat) (n : Int) (w : World) (hc : Cur b sv len w) :
    Calls Tryz.prog 79 #[.pointer (some ⟨b, 0, none⟩), .int .i64 n] w (BelowOut b sv len n w) := by
  have HC := Lib.hid hc; clear hc
  by_cases hn : n ≤ 0
  · go_enter Tryz.func79, Tryz.ntmps79
    go_wp2_with fail
    go_ret
    exact ⟨0, rfl, by omega, by omega, by omega, HC.out, Only.refl _ _⟩
  by_cases hs : n ≤ 256
  · go_enter Tryz.func79, Tryz.ntmps79
    go_wp2_with fail
    refine (byte_any b sv len _ HC.out).mono ?_
    rintro e w1 ⟨x, rfl, hx0, hx1, hc1, ho1⟩
    have HC1 := Lib.hid hc1; have HO1 := Lib.hid ho1; clear hc1 ho1
    obtain ⟨r0, r1, r2⟩ := rem_bd hx0 (show 0 < n by omega)
    have R0 := Lib.hid r0; have R1 := Lib.hid r1; have R2 := Lib.hid r2; clear r0 r1 r2
    go_wp2_with fail
    go_ret
    exact ⟨x % n, rfl, R0.out, fun _ => R1.out, by have := R2.out; omega, HC1.out, HO1.out⟩
  · go_enter Tryz.func79, Tryz.ntmps79
    go_wp2_with fail
    refine (byte_any b sv len _ HC.out).mono ?_
    rintro e w1 ⟨x, rfl, hx0, hx1, hc1, ho1⟩
    have HC1 := Lib.hid hc1; have HO1 := Lib.hid ho1; clear hc1 ho1
    go_wp2_with fail
    refine (byte_any b sv len _ HC1.out).mono ?_
    rintro e w2 ⟨y, rfl, hy0, hy1, hc2, ho2⟩
    have HC2 := Lib.hid hc2; have HO2 := Lib.hid ho2; clear hc2 ho2
    go_wp2_with fail
    refine (byte_any b sv len _ HC2.out).mono ?_
    rintro e w3 ⟨z, rfl, hz0, hz1, hc3, ho3⟩
    have HC3 := Lib.hid hc3; have HO3 := Lib.hid ho3; clear hc3 ho3
    obtain ⟨r0, r1, r2⟩ := rem_bd (show 0 ≤ x * 65536 + y * 256 + z by omega) (show 0 < n by omega)
    have R0 := Lib.hid r0; have R1 := Lib.hid r1; have R2 := Lib.hid r2; clear r0 r1 r2
    go_wp2_with fail
    go_ret
    exact ⟨(x * 65536 + y * 256 + z) % n, rfl, R0.out, fun _ => R1.out, by have := R2.out; omega, HC3.out, (HO1.out.trans HO2.out).trans HO3.out⟩

/-- Of what lay in memory only block b may have been written; there may be new blocks. -/
structure Kept (b : Nat) (w w' : World) : Prop where
  os : w'.os = w.os
  tape : w'.tape = w.tape
  output : w'.output = w.output
  size : w.heap.size ≤ w'.heap.size
  block : ∀ k, k < w.heap.size → k ≠ b → w'.heap[k]? = w.heap[k]?
theorem Kept.refl (b : Nat) (w : World) : Kept b w w := ⟨rfl, rfl, rfl, Nat.le_refl _, fun _ _ _ => rfl⟩
theorem Kept.trans {b : Nat} {w1 w2 w3 : World} (h : Kept b w1 w2) (k : Kept b w2 w3) : Kept b w1 w3 :=
  ⟨k.os.trans h.os, k.tape.trans h.tape, k.output.trans h.output, Nat.le_trans h.size k.size, fun i hi hn => (k.block i (Nat.lt_of_lt_of_le hi h.size) hn).trans (h.block i hi hn)⟩
theorem Only.kept {b : Nat} {w w' : World} (h : Only b w w') : Kept b w w' := ⟨h.os, h.tape, h.output, by rw [h.size]; exact Nat.le_refl _, fun k _ hk => h.block k hk⟩
theorem Kept.alloc (b : Nat) (w : World) (o : Obj) : Kept b w (w.alloc o) := ⟨rfl, rfl, rfl, by simp, fun k hk _ => Below.heap_alloc _ _ _ hk⟩
theorem Kept.below {b : Nat} {w w' : World} (h : Kept b w w') (hb : b ≤ w.heap.size) : Below b w w' := ⟨h.os, h.tape, h.output, h.size, fun k hk => h.block k (by omega) (by omega)⟩
theorem Kept.of_below {b : Nat} {w w' : World} (h : Below w.heap.size w w') : Kept b w w' := ⟨h.os, h.tape, h.output, h.size, fun k hk _ => h.block k hk⟩
theorem lt_heap {w : World} {b : Nat} {o : Obj} (h : w.heap[b]? = some o) : b < w.heap.size := by
  rcases Nat.lt_or_ge b w.heap.size with h' | h'
  · exact h'
  · rw [Array.getElem?_eq_none h'] at h; cases h
theorem Cur.lt {b : Nat} {sv : Value} {len : Nat} {w : World} (h : Cur b sv len w) : b < w.heap.size := by
  obtain ⟨_, _, h1, _, _⟩ := h; exact lt_heap h1
/-- A reader stays one while no old block is written. -/
theorem Cur.below {b : Nat} {sv : Value} {len : Nat} {w w' : World} (h : Cur b sv len w) (k : Below w.heap.size w w') : Cur b sv len w' := by
  have hlt := h.lt
  obtain ⟨i, x, h1, h2, a, cap, e, h3, h4⟩ := h
  refine ⟨i, x, by rw [k.block b hlt]; exact h1, h2, a, cap, e, h3, ?_⟩
  rcases h4 with h4 | ⟨blk, off, e2, hb, hc⟩
  · exact Or.inl h4
  · refine Or.inr ⟨blk, off, e2, hb, fun j hj => ?_⟩
    obtain ⟨n, n0, n1, hn⟩ := hc j hj
    exact ⟨n, n0, n1, by rw [k.cell (by show blk < _; omega)]; exact hn⟩
theorem Cur.alloc {b : Nat} {sv : Value} {len : Nat} {w : World} (h : Cur b sv len w) (o : Obj) : Cur b sv len (w.alloc o) :=
  h.below ((Below.refl _ _).alloc (Nat.le_refl _) _)

def OnceOut (b : Nat) (sv : Value) (len : Nat) (w : World) (e : Ending) (w' : World) : Prop :=
  ∃ x : Bool, e = .returned (.bool x) ∧ Cur b sv len w' ∧ Kept b w w'
theorem once_any (b : Nat) (sv : Value) (len : Nat) (n : Int) (w : World) (hc : Cur b sv len w) :
    Calls Tryz.prog 61 #[.pointer (some ⟨b, 0, none⟩), .int .i64 n] w (OnceOut b sv len w) := by
  have HC := Lib.hid hc; clear hc
  go_enter Tryz.func61, Tryz.ntmps61
  go_wp2_with fail
  refine (below_any b sv len n _ HC.out).mono ?_
  rintro e w1 ⟨x, rfl, hx0, hx1, hx2, hc1, ho1⟩
  have HC1 := Lib.hid hc1; have HO1 := Lib.hid ho1; have HX1 := Lib.hid hx1; clear hc1 ho1 hx1
  go_wp2_with fail
  go_ret
  exact ⟨_, rfl, HC1.out, HO1.out.kept⟩

def NumOut (b : Nat) (sv : Value) (len : Nat) (w : World) (e : Ending) (w' : World) : Prop :=
  ∃ x : Int, e = .returned (.int .i64 x) ∧ -9223372036854775808 ≤ x ∧ x ≤ 9223372036854775807 ∧ Cur b sv len w' ∧ Kept b w w'
theorem int_any (b : Nat) (sv : Value) (len : Nat) (g m cap : Nat) (w : World) (hc : Cur b sv len w) (hgb : g ≠ b) (hm : 0 < m) (hm2 : m ≤ 1000)
    (hcells : ∀ j, j < m → ∃ v : Int, -9223372036854775808 ≤ v ∧ v ≤ 9223372036854775807 ∧ w.cell? ⟨g, j, none⟩ = some (.int .i64 v)) :
    Calls Tryz.prog 129 #[.pointer (some ⟨b, 0, none⟩), .slice (some ⟨g, 0, none⟩) m cap] w (NumOut b sv len w) := by
  have HC := Lib.hid hc; have HS := Lib.hid hcells; clear hc hcells
  go_enter Tryz.func129, Tryz.ntmps129
  go_wp2_with fail
  refine (below_any b sv len m _ HC.out).mono ?_
  rintro e w1 ⟨x, rfl, hx0, hx1, hx2, hc1, ho1⟩
  have hx3 := hx1 (by omega)
  obtain ⟨k, rfl⟩ := Int.eq_ofNat_of_zero_le hx0
  obtain ⟨v, v0, v1, hv⟩ := HS.out k (by omega)
  rw [← ho1.cell (show (⟨g, k, none⟩ : Addr).block ≠ b from hgb)] at hv
  have HC1 := Lib.hid hc1; have HO1 := Lib.hid ho1; clear hc1 ho1 hx1
  go_wp2_with fail
  go_ret
  exact ⟨v, rfl, v0, v1, HC1.out, HO1.out.kept⟩

def StrOut (b : Nat) (sv : Value) (len : Nat) (w : World) (e : Ending) (w' : World) : Prop :=
  ∃ s : ByteArray, e = .returned (.string s) ∧ s.size ≤ 100 ∧ Cur b sv len w' ∧ Kept b w w'
theorem str_any (b : Nat) (sv : Value) (len : Nat) (g m cap : Nat) (w : World) (hc : Cur b sv len w) (hgb : g ≠ b) (hm : 0 < m) (hm2 : m ≤ 1000)
    (hcells : ∀ j, j < m → ∃ s : ByteArray, s.size ≤ 100 ∧ w.cell? ⟨g, j, none⟩ = some (.string s)) :
    Calls Tryz.prog 63 #[.pointer (some ⟨b, 0, none⟩), .slice (some ⟨g, 0, none⟩) m cap] w (StrOut b sv len w) := by
  have HC := Lib.hid hc; have HS := Lib.hid hcells; clear hc hcells
  go_enter Tryz.func63, Tryz.ntmps63
  go_wp2_with fail
  refine (below_any b sv len m _ HC.out).mono ?_
  rintro e w1 ⟨x, rfl, hx0, hx1, hx2, hc1, ho1⟩
  have hx3 := hx1 (by omega)
  obtain ⟨k, rfl⟩ := Int.eq_ofNat_of_zero_le hx0
  obtain ⟨s, s1, hv⟩ := HS.out k (by omega)
  rw [← ho1.cell (show (⟨g, k, none⟩ : Addr).block ≠ b from hgb)] at hv
  have HC1 := Lib.hid hc1; have HO1 := Lib.hid ho1; clear hc1 ho1 hx1
  go_wp2_with fail
  go_ret
  exact ⟨s, rfl, s1, HC1.out, HO1.out.kept⟩

/- DrawInt -/
open Go.ChangeShapes Go.WideShapes Go.ChangeAt Go.RowKit

def intCell : Value → Bool
  | .int .i64 n => decide (-9223372036854775808 ≤ n) && decide (n ≤ 9223372036854775807)
  | _ => false
theorem cells_int (w : World) (C : Array Value) (T : TypeId) (m : Nat) (hm : C.size = m) (h : C.all intCell = true) : ∀ j, j < m → ∃ v : Int, -9223372036854775808 ≤ v ∧ v ≤ 9223372036854775807 ∧ (w.alloc (.cells C T)).cell? ⟨w.heap.size, j, none⟩ = some (.int .i64 v) := by
  subst hm
  intro j hj
  have h1 : intCell C[j] = true := by rw [Array.all_eq_true] at h; exact h j hj
  have h2 : (w.alloc (.cells C T)).cell? ⟨w.heap.size, j, none⟩ = some C[j] := by
    unfold World.cell?
    have h3 : (w.alloc (.cells C T)).heap[w.heap.size]? = some (.cells C T) := by
      show (w.heap.push _)[w.heap.size]? = _
      simp
    rw [h3]
    simp [hj]
  rw [h2]
  cases hc : C[j] with
  | int k n =>
    cases k
    all_goals first
      | (rw [hc] at h1; simp [intCell] at h1; done)
      | (rw [hc] at h1; simp only [intCell, Bool.and_eq_true, decide_eq_true_eq] at h1; exact ⟨n, h1.1, h1.2, rfl⟩)
  | _ => rw [hc] at h1; simp [intCell] at h1
theorem mul_bd {x y : Int} (x0 : 0 ≤ x) (x1 : x < 1000000) (y0 : 0 ≤ y) (y1 : y < 1000000) : 0 ≤ x * y ∧ x * y ≤ 1000000000000 := by
  have h1 := Int.mul_nonneg x0 y0
  have h2 := Int.mul_le_mul (show x ≤ 1000000 by omega) (show y ≤ 1000000 by omega) y0 (show (0 : Int) ≤ 1000000 by omega)
  omega
def strCell : Value → Bool
  | .string s => decide (s.size ≤ 100)
  | _ => false
theorem cells_str (w : World) (C : Array Value) (T : TypeId) (m : Nat) (hm : C.size = m) (h : C.all strCell = true) : ∀ j, j < m → ∃ s : ByteArray, s.size ≤ 100 ∧ (w.alloc (.cells C T)).cell? ⟨w.heap.size, j, none⟩ = some (.string s) := by
  subst hm
  intro j hj
  have h1 : strCell C[j] = true := by rw [Array.all_eq_true] at h; exact h j hj
  have h2 : (w.alloc (.cells C T)).cell? ⟨w.heap.size, j, none⟩ = some C[j] := by
    unfold World.cell?
    have h3 : (w.alloc (.cells C T)).heap[w.heap.size]? = some (.cells C T) := by
      show (w.heap.push _)[w.heap.size]? = _
      simp
    rw [h3]
    simp [hj]
  rw [h2]
  cases hc : C[j] with
  | string s => rw [hc] at h1; simp only [strCell, decide_eq_true_eq] at h1; exact ⟨s, h1, rfl⟩
  | _ => rw [hc] at h1; simp [strCell] at h1

/-- A new reader over the bytes. -/
def NewOut (sv : Value) (len : Nat) (w : World) (e : Ending) (w' : World) : Prop :=
  e = .returned (.pointer (some ⟨w.heap.size, 0, none⟩)) ∧ Cur w.heap.size sv len w' ∧ Below w.heap.size w w'
theorem new_cur {w : World} {sv : Value} {len : Nat} (h : CodeOk w.heap.size w sv len) (x : Int) : Cur w.heap.size sv len (w.alloc (.cells #[sv, .int .i64 0, .int .i64 x] 157)) := by
  obtain ⟨a, cap, e, h3, h4⟩ := h
  refine ⟨0, x, ?_, by omega, a, cap, e, h3, ?_⟩
  · show (w.heap.push _)[w.heap.size]? = _
    simp
  · rcases h4 with h4 | ⟨blk, off, e2, hb, hc⟩
    · exact Or.inl h4
    · refine Or.inr ⟨blk, off, e2, hb, fun j hj => ?_⟩
      obtain ⟨n, n0, n1, hn⟩ := hc j hj
      exact ⟨n, n0, n1, by rw [((Below.refl _ _).alloc (Nat.le_refl _) _ : Below w.heap.size w _).cell hb]; exact hn⟩

set_option maxHeartbeats 1000000 in
theorem new_any (sv : Value) (len : Nat) (w : World) (hc : CodeOk w.heap.size w sv len) :
    Calls Tryz.prog 60 #[sv] w (NewOut sv len w) := by
  have HN := Lib.hid (fun x => new_cur hc x)
  obtain ⟨a, cap, hsv, hlen, hcode⟩ := hc
  subst hsv
  have HC := Lib.hid hcode; clear hcode
  go_enter Tryz.func60, Tryz.ntmps60
  go_wp2
  go_loop [3, 4] (fun h i => ∃ (k : Nat) (x : Int), k ≤ len ∧ i = .int .i64 k ∧ h = .int .i64 x) (fun _ i => len - (intOf i).toNat)
  case atStart => exact ⟨0, _, Nat.zero_le _, rfl, rfl⟩
  case round =>
    obtain ⟨k, x, hk, rfl, rfl⟩ := hrel
    by_cases hlt : (k : Int) < (len : Int)
    · rcases HC.out with h0 | ⟨blk, off, rfl, hblk, hcells⟩
      · omega
      · obtain ⟨n, n0, n1, hn⟩ := hcells k (by omega)
        clear hcells
        by_cases h4 : (k : Int) < 4000
        · go_wp2
          go_round
          case rel => exact ⟨k + 1, _, by omega, by go_num, rfl⟩
          case measure => simp [intOf]; omega
        · go_wp2
          go_ret
          exact ⟨rfl, HN.out _, (Below.refl _ _).alloc (Nat.le_refl _) _⟩
    · have hltd : decide ((k : Int) < (len : Int)) = false := decide_eq_false hlt
      go_wp2
      go_ret
      exact ⟨rfl, HN.out _, (Below.refl _ _).alloc (Nat.le_refl _) _⟩

/- Big -/
open Go.ChangeShapes Go.WideShapes Go.ChangeAt Go.RowKit

theorem big_yes (a : Option Addr) (len cap : Nat) (w : World) (h : (1048576 : Int) < (len : Int)) :
    Calls Tryz.prog 8 #[.slice a len cap] w fun e w' => e = .returned (.bool true) ∧ w = w' := by
  go_enter Tryz.func8, Tryz.ntmps8
  go_wp2
  go_ret
  exact ⟨rfl, rfl⟩
theorem big_no (a : Option Addr) (len cap : Nat) (w : World) (h : ¬ (1048576 : Int) < (len : Int)) :
    Calls Tryz.prog 8 #[.slice a len cap] w fun e w' => e = .returned (.bool false) ∧ w = w' := by
  go_enter Tryz.func8, Tryz.ntmps8
  go_wp2
  go_ret
  exact ⟨rfl, rfl⟩
theorem codeOk_later {w w' : World} {sv : Value} {len : Nat} (h : CodeOk w.heap.size w sv len) (hb : Below w.heap.size w w') : CodeOk w'.heap.size w' sv len := by
  obtain ⟨a, cap, e, h1, h2⟩ := h
  refine ⟨a, cap, e, h1, ?_⟩
  rcases h2 with h2 | ⟨blk, off, e2, hlt, hc⟩
  · exact Or.inl h2
  · refine Or.inr ⟨blk, off, e2, Nat.lt_of_lt_of_le hlt hb.size, fun j hj => ?_⟩
    obtain ⟨n, n0, n1, hn⟩ := hc j hj
    exact ⟨n, n0, n1, by rw [hb.cell hlt]; exact hn⟩

/- DrawT -/
open Go.ChangeShapes Go.WideShapes Go.ChangeAt Go.RowKit

/-- A short string without ">". -/
def Gt (s : ByteArray) : Prop := s.size ≤ 100 ∧ ∀ b ∈ s.data.toList, b ≠ 62
def gtCell : Value → Bool
  | .string s => decide (s.size ≤ 100) && s.data.toList.all (fun b => !(b == 62))
  | _ => false
theorem gtCell_ok {s : ByteArray} (h : gtCell (.string s) = true) : Gt s := by
  simp only [gtCell, Bool.and_eq_true, decide_eq_true_eq] at h
  refine ⟨h.1, fun b hb e => ?_⟩
  have := List.all_eq_true.1 h.2 b hb
  subst e
  exact absurd this (by decide)
theorem cells_gt (w : World) (C : Array Value) (T : TypeId) (m : Nat) (hm : C.size = m) (h : C.all gtCell = true) : ∀ j, j < m → ∃ s : ByteArray, Gt s ∧ (w.alloc (.cells C T)).cell? ⟨w.heap.size, j, none⟩ = some (.string s) := by
  subst hm
  intro j hj
  have h1 : gtCell C[j] = true := by rw [Array.all_eq_true] at h; exact h j hj
  have h2 : (w.alloc (.cells C T)).cell? ⟨w.heap.size, j, none⟩ = some C[j] := by
    unfold World.cell?
    have h3 : (w.alloc (.cells C T)).heap[w.heap.size]? = some (.cells C T) := by
      show (w.heap.push _)[w.heap.size]? = _
      simp
    rw [h3]
    simp [hj]
  rw [h2]
  cases hc : C[j] with
  | string s => rw [hc] at h1; exact ⟨s, gtCell_ok h1, rfl⟩
  | _ => rw [hc] at h1; simp [gtCell] at h1
def StrP (Q : ByteArray → Prop) (b : Nat) (sv : Value) (len : Nat) (w : World) (e : Ending) (w' : World) : Prop :=
  ∃ s : ByteArray, e = .returned (.string s) ∧ Q s ∧ Cur b sv len w' ∧ Kept b w w'
theorem strP_any (Q : ByteArray → Prop) (b : Nat) (sv : Value) (len : Nat) (g m cap : Nat) (w : World) (hc : Cur b sv len w) (hgb : g ≠ b) (hm : 0 < m) (hm2 : m ≤ 1000)
    (hcells : ∀ j, j < m → ∃ s : ByteArray, Q s ∧ w.cell? ⟨g, j, none⟩ = some (.string s)) :
    Calls Tryz.prog 63 #[.pointer (some ⟨b, 0, none⟩), .slice (some ⟨g, 0, none⟩) m cap] w (StrP Q b sv len w) := by
  have HC := Lib.hid hc; have HS := Lib.hid hcells; clear hc hcells
  go_enter Tryz.func63, Tryz.ntmps63
  go_wp2_with fail
  refine (below_any b sv len m _ HC.out).mono ?_
  rintro e w1 ⟨x, rfl, hx0, hx1, hx2, hc1, ho1⟩
  have hx3 := hx1 (by omega)
  obtain ⟨k, rfl⟩ := Int.eq_ofNat_of_zero_le hx0
  obtain ⟨s, s1, hv⟩ := HS.out k (by omega)
  rw [← ho1.cell (show (⟨g, k, none⟩ : Addr).block ≠ b from hgb)] at hv
  have HC1 := Lib.hid hc1; have HO1 := Lib.hid ho1; clear hc1 ho1 hx1
  go_wp2_with fail
  go_ret
  exact ⟨s, rfl, s1, HC1.out, HO1.out.kept⟩

/-- A drawn tag: not long, without ">". -/
def Tg (s : ByteArray) : Prop := s.size ≤ 400 ∧ ∀ b ∈ s.data.toList, b ≠ 62
theorem Gt.tg {s : ByteArray} (h : Gt s) : Tg s := ⟨by have := h.1; omega, h.2⟩
theorem tg_append {a b : ByteArray} (h1 : ∀ x ∈ a.data.toList, x ≠ 62) (h2 : ∀ x ∈ b.data.toList, x ≠ 62) : ∀ x ∈ (a ++ b).data.toList, x ≠ 62 := by
  intro x hx
  rw [append_list] at hx
  rcases List.mem_append.1 hx with h | h
  · exact h1 x h
  · exact h2 x h
theorem size_alloc0 (w : World) (o : Obj) : (w.alloc o).heap.size = w.heap.size + 1 := by show (w.heap.push o).size = _; simp
theorem size_app (a b : ByteArray) : (a ++ b).size = a.size + b.size := ByteArray.size_append

set_option maxRecDepth 100000 in
set_option maxHeartbeats 4000000 in
theorem tag_any (b : Nat) (sv : Value) (len : Nat) (w : World) (hc : Cur b sv len w) :
    Calls Tryz.prog 139 #[.pointer (some ⟨b, 0, none⟩)] w (StrP Tg b sv len w) := by
  have HC := Lib.hid hc; clear hc
  go_enter Tryz.func139, Tryz.ntmps139
  go_wp2_with fail
  refine (below_any b sv len 8 _ HC.out).mono ?_
  rintro e w1 ⟨x, rfl, hx0, hx1, hx2, hc1, ho1⟩
  have HC1 := Lib.hid hc1; have HO1 := Lib.hid ho1.kept; clear hc1 ho1 hx1 hx2 hx0
  have HL1 := Lib.hid HC1.out.lt
  by_cases x0 : x = 0
  · subst x
    go_wp2_with fail
    refine (strP_any Gt b sv len _ 4 4 _ (HC1.out.alloc _) (by have := HL1.out; omega) (by omega) (by omega) ?_).mono ?_
    · exact cells_gt _ _ _ _ (by rfl) (by kernel_rfl)
    rintro e w2 ⟨s, rfl, hs, hc_w2, ho_w2⟩
    have HC_w2 := Lib.hid hc_w2; have HO_w2 := Lib.hid ho_w2; have HQ_s := Lib.hid hs
    have hz_s := hs.1
    clear hc_w2 ho_w2 hs
    go_wp2_with fail
    go_ret
    exact ⟨_, rfl, ⟨by rw [size_app]; show 1 + s.size ≤ 400; omega, tg_append (by decide) HQ_s.out.2⟩, HC_w2.out, HO1.out.trans ((Kept.alloc b w1 _).trans HO_w2.out)⟩
  have k0 : (x == 0) = false := beq_eq_false_iff_ne.2 x0
  clear x0
  by_cases x1 : x = 1
  · subst x
    go_wp2_with fail
    refine (strP_any Gt b sv len _ 4 4 _ (HC1.out.alloc _) (by have := HL1.out; omega) (by omega) (by omega) ?_).mono ?_
    · exact cells_gt _ _ _ _ (by rfl) (by kernel_rfl)
    rintro e w2 ⟨s, rfl, hs, hc_w2, ho_w2⟩
    have HC_w2 := Lib.hid hc_w2; have HO_w2 := Lib.hid ho_w2; have HQ_s := Lib.hid hs
    have hz_s := hs.1
    clear hc_w2 ho_w2 hs
    go_wp2_with fail
    go_ret
    exact ⟨_, rfl, ⟨by rw [size_app]; show 11 + s.size ≤ 400; omega, tg_append (by decide) HQ_s.out.2⟩, HC_w2.out, HO1.out.trans ((Kept.alloc b w1 _).trans HO_w2.out)⟩
  have k1 : (x == 1) = false := beq_eq_false_iff_ne.2 x1
  clear x1
  by_cases x2 : x = 2
  · subst x
    go_wp2_with fail
    refine (strP_any Gt b sv len _ 2 2 _ (HC1.out.alloc _) (by have := HL1.out; omega) (by omega) (by omega) ?_).mono ?_
    · exact cells_gt _ _ _ _ (by rfl) (by kernel_rfl)
    rintro e w2 ⟨s, rfl, hs, hc_w2, ho_w2⟩
    have HC_w2 := Lib.hid hc_w2; have HO_w2 := Lib.hid ho_w2; have HQ_s := Lib.hid hs
    have hz_s := hs.1
    clear hc_w2 ho_w2 hs
    have HL2 := Lib.hid HC_w2.out.lt
    go_wp2_with fail
    refine (strP_any Gt b sv len _ 2 2 _ (HC_w2.out.alloc _) (by have := HL2.out; omega) (by omega) (by omega) ?_).mono ?_
    · exact cells_gt _ _ _ _ (by rfl) (by kernel_rfl)
    rintro e w3 ⟨t, rfl, ht, hc_w3, ho_w3⟩
    have HC_w3 := Lib.hid hc_w3; have HO_w3 := Lib.hid ho_w3; have HQ_t := Lib.hid ht
    have hz_t := ht.1
    clear hc_w3 ho_w3 ht
    go_wp2_with fail
    go_ret
    exact ⟨_, rfl, ⟨by rw [size_app, size_app, size_app]; show 11 + s.size + 6 + t.size ≤ 400; omega, tg_append (tg_append (tg_append (by decide) HQ_s.out.2) (by decide)) HQ_t.out.2⟩, HC_w3.out, (HO1.out.trans ((Kept.alloc b w1 _).trans HO_w2.out)).trans ((Kept.alloc b w2 _).trans HO_w3.out)⟩
  have k2 : (x == 2) = false := beq_eq_false_iff_ne.2 x2
  clear x2
  by_cases x3 : x = 3
  · subst x
    go_wp2_with fail
    refine (strP_any Gt b sv len _ 2 2 _ (HC1.out.alloc _) (by have := HL1.out; omega) (by omega) (by omega) ?_).mono ?_
    · exact cells_gt _ _ _ _ (by rfl) (by kernel_rfl)
    rintro e w2 ⟨s, rfl, hs, hc_w2, ho_w2⟩
    have HC_w2 := Lib.hid hc_w2; have HO_w2 := Lib.hid ho_w2; have HQ_s := Lib.hid hs
    have hz_s := hs.1
    clear hc_w2 ho_w2 hs
    go_wp2_with fail
    go_ret
    exact ⟨_, rfl, ⟨by rw [size_app]; show 8 + s.size ≤ 400; omega, tg_append (by decide) HQ_s.out.2⟩, HC_w2.out, HO1.out.trans ((Kept.alloc b w1 _).trans HO_w2.out)⟩
  have k3 : (x == 3) = false := beq_eq_false_iff_ne.2 x3
  clear x3
  by_cases x4 : x = 4
  · subst x
    go_wp2_with fail
    refine (strP_any Gt b sv len _ 2 2 _ (HC1.out.alloc _) (by have := HL1.out; omega) (by omega) (by omega) ?_).mono ?_
    · exact cells_gt _ _ _ _ (by rfl) (by kernel_rfl)
    rintro e w2 ⟨s, rfl, hs, hc_w2, ho_w2⟩
    have HC_w2 := Lib.hid hc_w2; have HO_w2 := Lib.hid ho_w2; have HQ_s := Lib.hid hs
    have hz_s := hs.1
    clear hc_w2 ho_w2 hs
    go_wp2_with fail
    go_ret
    exact ⟨_, rfl, ⟨by rw [size_app]; show 10 + s.size ≤ 400; omega, tg_append (by decide) HQ_s.out.2⟩, HC_w2.out, HO1.out.trans ((Kept.alloc b w1 _).trans HO_w2.out)⟩
  have k4 : (x == 4) = false := beq_eq_false_iff_ne.2 x4
  clear x4
  by_cases x5 : x = 5
  · subst x
    go_wp2_with fail
    refine (strP_any Gt b sv len _ 10 10 _ (HC1.out.alloc _) (by have := HL1.out; omega) (by omega) (by omega) ?_).mono ?_
    · exact cells_gt _ _ _ _ (by rfl) (by kernel_rfl)
    rintro e w2 ⟨s, rfl, hs, hc_w2, ho_w2⟩
    have HC_w2 := Lib.hid hc_w2; have HO_w2 := Lib.hid ho_w2; have HQ_s := Lib.hid hs
    have hz_s := hs.1
    clear hc_w2 ho_w2 hs
    go_wp2_with fail
    go_ret
    exact ⟨_, rfl, HQ_s.out.tg, HC_w2.out, HO1.out.trans ((Kept.alloc b w1 _).trans HO_w2.out)⟩
  have k5 : (x == 5) = false := beq_eq_false_iff_ne.2 x5
  clear x5
  go_wp2_with fail
  refine (strP_any Gt b sv len _ 4 4 _ (HC1.out.alloc _) (by have := HL1.out; omega) (by omega) (by omega) ?_).mono ?_
  · exact cells_gt _ _ _ _ (by rfl) (by kernel_rfl)
  rintro e w2 ⟨s, rfl, hs, hc_w2, ho_w2⟩
  have HC_w2 := Lib.hid hc_w2; have HO_w2 := Lib.hid ho_w2; have HQ_s := Lib.hid hs
  have hz_s := hs.1
  clear hc_w2 ho_w2 hs
  go_wp2_with fail
  go_ret
  exact ⟨_, rfl, HQ_s.out.tg, HC_w2.out, HO1.out.trans ((Kept.alloc b w1 _).trans HO_w2.out)⟩

/-- A string, and a slice of numbers, that were drawn; nothing old is written. -/
def DrawnT (Q : ByteArray → Prop) (w : World) (en : Ending) (w' : World) : Prop := ∃ s : ByteArray, en = .returned (.string s) ∧ Q s ∧ Below w.heap.size w w'

/-- A drawn page. -/
def Pg (s : ByteArray) : Prop := s.size ≤ 6000
set_option maxRecDepth 100000 in
set_option maxHeartbeats 2000000 in
theorem page_any (b : Nat) (sv : Value) (len : Nat) (w : World) (hc : Cur b sv len w) :
    Calls Tryz.prog 90 #[.pointer (some ⟨b, 0, none⟩), .int .i64 8] w (StrP Pg b sv len w) := by
  have HC := Lib.hid hc; clear hc
  go_enter Tryz.func90, Tryz.ntmps90
  go_wp2_with fail
  refine (below_any b sv len 9 _ HC.out).mono ?_
  rintro e w1 ⟨x, rfl, hx0, hx1, hx2, hc1, ho1⟩
  have hx3 := hx1 (by omega)
  obtain ⟨m, rfl⟩ := Int.eq_ofNat_of_zero_le hx0
  have hm : m ≤ 8 := by omega
  have HC1 := Lib.hid hc1; have HO1 := Lib.hid ho1.kept; clear hc1 ho1 hx1 hx2 hx0 hx3
  go_wp2_with fail
  go_loopw [5, 6] (fun s i wr => ∃ (k : Nat) (S : ByteArray), k ≤ 8 ∧ i = .int .i64 k ∧ s = .string S ∧ S.size + 500 * k ≤ 4000 ∧ Cur b sv len wr ∧ Kept b w wr) (fun _ i _ => (intOf i).toNat)
  case atStart => exact ⟨m, ⟨#[]⟩, hm, rfl, rfl, by show 0 + 500 * m ≤ 4000; omega, HC1.out, HO1.out⟩
  case round =>
    obtain ⟨k, S, hk, rfl, rfl, hS, hcu, hke⟩ := hrel
    have HCU := Lib.hid hcu; have HK := Lib.hid hke
    clear hcu hke HC1 HO1
    by_cases hlt : (0 : Int) < (k : Int)
    · go_wp2_with fail
      refine (once_any b sv len 3 _ HCU.out).mono ?_
      rintro e w2 ⟨t, rfl, hc2, ho2⟩
      have HC2 := Lib.hid hc2; have HO2 := Lib.hid (HK.out.trans ho2); have HL2 := Lib.hid hc2.lt
      clear hc2 ho2
      cases t with
      | true =>
        go_wp2_with fail
        refine (str_any b sv len _ 5 5 _ (HC2.out.alloc _) (by have := HL2.out; omega) (by omega) (by omega) ?_).mono ?_
        · exact cells_str _ _ _ _ (by rfl) (by kernel_rfl)
        rintro e w3 ⟨s, rfl, hs, hc3, ho3⟩
        have HC3 := Lib.hid hc3; have HO3 := Lib.hid (HO2.out.trans ((Kept.alloc b w2 _).trans ho3))
        clear hc3 ho3
        go_wp2
        go_roundw
        case rel => exact ⟨k - 1, _, by omega, by go_num, rfl, by rw [size_app]; omega, HC3.out, HO3.out⟩
        case measure => simp [intOf] <;> omega
      | false =>
        go_wp2_with fail
        refine (tag_any b sv len _ HC2.out).mono ?_
        rintro e w3 ⟨s, rfl, hs, hc3, ho3⟩
        have hsz := hs.1
        have HC3 := Lib.hid hc3; have HO3 := Lib.hid (HO2.out.trans ho3)
        clear hc3 ho3 hs
        go_wp2
        go_roundw
        case rel => exact ⟨k - 1, _, by omega, by go_num, rfl, by rw [size_app, size_app, size_app]; show S.size + 1 + s.size + 1 + _ ≤ _; omega, HC3.out, HO3.out⟩
        case measure => simp [intOf] <;> omega
    · go_wp2_with fail
      refine (once_any b sv len 6 _ HCU.out).mono ?_
      rintro e w2 ⟨t, rfl, hc2, ho2⟩
      have HC2 := Lib.hid hc2; have HO2 := Lib.hid (HK.out.trans ho2); have HL2 := Lib.hid hc2.lt
      clear hc2 ho2
      cases t with
      | true =>
        go_wp2_with fail
        refine (str_any b sv len _ 3 3 _ (HC2.out.alloc _) (by have := HL2.out; omega) (by omega) (by omega) ?_).mono ?_
        · exact cells_str _ _ _ _ (by rfl) (by kernel_rfl)
        rintro e w3 ⟨s, rfl, hs, hc3, ho3⟩
        have HC3 := Lib.hid hc3; have HO3 := Lib.hid (HO2.out.trans ((Kept.alloc b w2 _).trans ho3))
        clear hc3 ho3
        go_wp2_with fail
        go_ret
        exact ⟨_, rfl, by show (S ++ s).size ≤ 6000; rw [size_app]; omega, HC3.out, HO3.out⟩
      | false =>
        go_wp2_with fail
        go_ret
        exact ⟨_, rfl, by show S.size ≤ 6000; omega, HC2.out, HO2.out⟩

/- Dr7 -/
open Go.ChangeShapes Go.WideShapes Go.ChangeAt Go.RowKit

def Tx7 (s : ByteArray) : Prop := s.size ≤ 1000

set_option maxRecDepth 100000 in
set_option maxHeartbeats 2000000 in
theorem text7_any (b : Nat) (sv : Value) (len : Nat) (w : World) (hc : Cur b sv len w) :
    Calls Tryz.prog 62 #[.pointer (some ⟨b, 0, none⟩)] w (StrP Tx7 b sv len w) := by
  have HC := Lib.hid hc; clear hc
  go_enter Tryz.func62, Tryz.ntmps62
  go_wp2_with fail
  refine (below_any b sv len 4 _ HC.out).mono ?_
  rintro e w1 ⟨x, rfl, hx0, hx1, hx2, hc1, ho1⟩
  have hx3 := hx1 (by omega)
  obtain ⟨m, rfl⟩ := Int.eq_ofNat_of_zero_le hx0
  have hm : m ≤ 3 := by omega
  have HC1 := Lib.hid hc1; have HO1 := Lib.hid ho1.kept; clear hc1 ho1 hx1 hx2 hx0 hx3
  go_wp2_with fail
  go_loopw [3, 4] (fun q i wr => ∃ (k : Nat) (S : ByteArray), k ≤ 3 ∧ i = .int .i64 k ∧ q = .string S ∧ S.size + 300 * k ≤ 900 ∧ Cur b sv len wr ∧ Kept b w wr) (fun _ i _ => (intOf i).toNat)
  case atStart => exact ⟨m, ⟨#[]⟩, hm, rfl, rfl, by show 0 + 300 * m ≤ 900; omega, HC1.out, HO1.out⟩
  case round =>
    obtain ⟨k, S, hk, rfl, rfl, hS, hcu, hke⟩ := hrel
    have HCU := Lib.hid hcu; have HK := Lib.hid hke; have HL := Lib.hid hcu.lt
    clear hcu hke HC1 HO1
    by_cases hlt : (0 : Int) < (k : Int)
    · go_wp2_with fail
      refine (strP_any Gt b sv len _ 5 5 _ (HCU.out.alloc _) (by have := HL.out; omega) (by omega) (by omega) ?_).mono ?_
      · exact cells_gt _ _ _ _ (by rfl) (by kernel_rfl)
      rintro e w2 ⟨s, rfl, hs, hc2, ho2⟩
      have hz_s := hs.1
      have HC2 := Lib.hid hc2; have HO2 := Lib.hid (HK.out.trans ((Kept.alloc b _ _).trans ho2)); have HL2 := Lib.hid hc2.lt
      clear hc2 ho2 hs
      go_wp2_with fail
      refine (strP_any Gt b sv len _ 6 6 _ (HC2.out.alloc _) (by have := HL2.out; omega) (by omega) (by omega) ?_).mono ?_
      · exact cells_gt _ _ _ _ (by rfl) (by kernel_rfl)
      rintro e w3 ⟨t, rfl, ht, hc3, ho3⟩
      have hz_t := ht.1
      have HC3 := Lib.hid hc3; have HO3 := Lib.hid (HO2.out.trans ((Kept.alloc b w2 _).trans ho3))
      clear hc3 ho3 ht
      go_wp2
      go_roundw
      case rel => exact ⟨k - 1, _, by omega, by go_num, rfl, by rw [size_app, size_app, size_app, size_app]; show S.size + s.size + 1 + t.size + 1 + _ ≤ _; omega, HC3.out, HO3.out⟩
      case measure => simp [intOf] <;> omega
    · go_wp2_with fail
      go_ret
      exact ⟨_, rfl, by show S.size ≤ 1000; omega, HCU.out, HK.out⟩

set_option maxRecDepth 100000 in
set_option maxHeartbeats 2000000 in
theorem drawParseSheet_any (sv : Value) (len : Nat) (w : World) (hc : CodeOk w.heap.size w sv len) :
    Calls Tryz.prog 9 #[sv] w (DrawnT (fun s => s.size ≤ 2000) w) := by
  have HCO := Lib.hid hc; clear hc
  go_enter Tryz.func9, Tryz.ntmps9
  go_wp2_with fail
  refine (new_any sv len _ HCO.out).mono ?_
  rintro e w1 ⟨rfl, hc1, hb1⟩
  have HC1 := Lib.hid hc1; have HB1 := Lib.hid hb1; have HS1 := Lib.hid hb1.size; clear hc1 hb1
  go_wp2_with fail
  refine (once_any _ sv len 8 _ HC1.out).mono ?_
  rintro e w2 ⟨q, rfl, hc2, ho2⟩
  have HC2 := Lib.hid hc2; have HB2 := Lib.hid (HB1.out.trans (ho2.below HS1.out)); have HS2 := Lib.hid ho2.size; have HL2 := Lib.hid hc2.lt
  clear hc2 ho2
  cases q with
  | true =>
    go_wp2_with fail
    go_ret
    exact ⟨_, rfl, by show (35 : Nat) ≤ 2000; omega, HB2.out⟩
  | false =>
    go_wp2_with fail
    refine (text7_any _ sv len _ HC2.out).mono ?_
    rintro e w3 ⟨s, rfl, hs, hc3, ho3⟩
    have hz_s : s.size ≤ 1000 := hs
    have HC3 := Lib.hid hc3; have HL3 := Lib.hid hc3.lt
    have HB3 := Lib.hid (HB2.out.trans (ho3.below (by have := HS1.out; have := HS2.out; omega)))
    have HS3 := Lib.hid ho3.size
    clear hc3 ho3 hs
    go_wp2_with fail
    refine (strP_any Gt _ sv len _ 5 5 _ (HC3.out.alloc _) (by have := HL3.out; omega) (by omega) (by omega) ?_).mono ?_
    · exact cells_gt _ _ _ _ (by rfl) (by kernel_rfl)
    rintro e w4 ⟨t, rfl, ht, hc4, ho4⟩
    have hz_t := ht.1
    have HB4 := Lib.hid (HB3.out.trans (((Kept.alloc _ w3 _).trans ho4).below (by have := HS1.out; have := HS2.out; have := HS3.out; omega)))
    clear hc4 ho4 ht
    go_wp2_with fail
    go_ret
    exact ⟨_, rfl, by show (s ++ t).size ≤ 2000; rw [size_app]; omega, HB4.out⟩
end Go.Proofs.YtgcdfkpidcdicaaGreatDoor
