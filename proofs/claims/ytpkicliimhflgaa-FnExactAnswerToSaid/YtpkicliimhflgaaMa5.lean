/- Helper contracts: CompareAddrs of the program and of the model answer alike, and what its order is. No conditions beyond the types. Helper contracts: strings.Cut at the separator "/": the first slash parts the string. Asked: the string is shorter than 2^62 bytes. Helper contracts: ParseAddr of the program and of the model answer alike. Asked: the strings are shorter than 2^62 bytes. Helper contracts over the functions with which the laws copy, measure and compare one address. No conditions beyond the types. What an address that came in is: two strings (out of RowA, to stand beside Es). Helper facts, no claim of its own. The walk of the law FnExactAnswerTo: it returns true, and writes nothing that was there. -/
import Derived.Test.YtpkicliimhflgaaMa4
import Derived.Test.YtpkicliimhflgaaMa1
import Derived.Lib.Bytealg
import Derived.Lib.Walk
import Derived.Laws.StructEq
import Derived.Sort.Grow
import Derived.Sort.Statements
import Derived.Test.YtpkicliimhflgaaMa3
import Derived.Below
import Derived.Lib.Slices
import Derived.Lib.SmallJoins
import Derived.Deep.Slices
import Derived.ShutString
import Derived.ChangeOld
import Derived.Carry
import Derived.Deep.RegionHeld3
import Derived.Deep.RegionWith
import Derived.Deep.CutRange
namespace Go.Proofs.Ytpkicliimhflgaa

open Go.ChangeShapes Go.WideShapes Go.ChangeAt Go.RowKit

abbrev cmpB (a b : List UInt8) : Int := Lib.compareBytes a b
theorem cmpB_self : ∀ l, cmpB l l = 0
  | [] => rfl
  | b :: l => by
    have h : ¬ b < b := UInt8.lt_irrefl b
    unfold cmpB Lib.compareBytes
    rw [if_neg h, if_neg h]
    exact cmpB_self l
theorem cmpB_eq : ∀ {a b}, cmpB a b = 0 → a = b
  | [], [], _ => rfl
  | [], _ :: _, h => by unfold cmpB Lib.compareBytes at h; cases h
  | _ :: _, [], h => by unfold cmpB Lib.compareBytes at h; cases h
  | x :: a, y :: b, h => by
    unfold cmpB Lib.compareBytes at h
    split at h
    · cases h
    · split at h
      · cases h
      · rename_i h1 h2
        have e : x = y := UInt8.le_antisymm (UInt8.not_lt.1 h2) (UInt8.not_lt.1 h1)
        rw [e, cmpB_eq h]
theorem cmpB_neg : ∀ a b, cmpB b a = - cmpB a b
  | [], [] => rfl
  | [], _ :: _ => rfl
  | _ :: _, [] => rfl
  | x :: a, y :: b => by
    have ih := cmpB_neg a b
    unfold cmpB Lib.compareBytes
    by_cases h1 : x < y
    · have h2 : ¬ y < x := UInt8.not_lt.2 (UInt8.le_of_lt h1)
      rw [if_pos h1, if_neg h2, if_pos h1]; rfl
    · by_cases h2 : y < x
      · rw [if_pos h2, if_neg h1, if_pos h2]
      · rw [if_neg h1, if_neg h2, if_neg h2, if_neg h1]; exact ih
theorem cmpB_vals : ∀ a b, cmpB a b = -1 ∨ cmpB a b = 0 ∨ cmpB a b = 1
  | [], [] => Or.inr (Or.inl rfl)
  | [], _ :: _ => Or.inl rfl
  | _ :: _, [] => Or.inr (Or.inr rfl)
  | x :: a, y :: b => by
    have ih := cmpB_vals a b
    unfold cmpB Lib.compareBytes
    split
    · exact Or.inl rfl
    · split
      · exact Or.inr (Or.inr rfl)
      · exact ih
theorem cmpB_less : ∀ a b, Op.bytesLess a b = decide (cmpB a b < 0)
  | [], [] => rfl
  | [], _ :: _ => rfl
  | _ :: _, [] => rfl
  | x :: a, y :: b => by
    have ih := cmpB_less a b
    unfold cmpB Lib.compareBytes Op.bytesLess
    by_cases h1 : x < y
    · rw [if_pos h1, decide_eq_true h1]; rfl
    · by_cases h2 : y < x
      · have h3 : (x == y) = false := beq_eq_false_iff_ne.2 fun e => by subst e; exact h1 h2
        rw [if_neg h1, if_pos h2, decide_eq_false h1, h3]; rfl
      · have e : x = y := UInt8.le_antisymm (UInt8.not_lt.1 h2) (UInt8.not_lt.1 h1)
        subst e
        rw [if_neg h1, decide_eq_false h1]
        simp [ih]
theorem cmpB_trans : ∀ {a b c}, cmpB a b < 0 → cmpB b c < 0 → cmpB a c < 0
  | [], [], _, h, _ => by unfold cmpB Lib.compareBytes at h; omega
  | [], _ :: _, [], _, h => by unfold cmpB Lib.compareBytes at h; omega
  | [], _ :: _, _ :: _, _, _ => by unfold cmpB Lib.compareBytes; omega
  | _ :: _, [], _, h, _ => by unfold cmpB Lib.compareBytes at h; omega
  | _ :: _, _ :: _, [], _, h => by unfold cmpB Lib.compareBytes at h; omega
  | x :: a, y :: b, z :: c, h1, h2 => by
    have ih := @cmpB_trans a b c
    unfold cmpB Lib.compareBytes at h1 h2 ⊢
    by_cases e1 : x < y
    · by_cases e2 : y < z
      · rw [if_pos (UInt8.lt_trans e1 e2)]; omega
      · by_cases e3 : z < y
        · rw [if_neg e2, if_pos e3] at h2; omega
        · have e : y = z := UInt8.le_antisymm (UInt8.not_lt.1 e3) (UInt8.not_lt.1 e2)
          subst e; rw [if_pos e1]; omega
    · by_cases e2 : y < x
      · rw [if_neg e1, if_pos e2] at h1; omega
      · have e : x = y := UInt8.le_antisymm (UInt8.not_lt.1 e2) (UInt8.not_lt.1 e1)
        subst e
        rw [if_neg e1, if_neg e1] at h1
        by_cases e3 : x < z
        · rw [if_pos e3]; omega
        · rw [if_neg e3] at h2 ⊢
          by_cases e4 : z < x
          · rw [if_pos e4] at h2; omega
          · rw [if_neg e4] at h2 ⊢
            exact ih h1 h2

def cmpA (a b : Ad) : Int := if a.1 = b.1 then cmpB a.2.data.toList b.2.data.toList else cmpB a.1.data.toList b.1.data.toList
theorem bytes_inj {a b : ByteArray} (h : a.data.toList = b.data.toList) : a = b := by
  cases a with | mk x => cases b with | mk y => rw [show x = y from Array.toList_inj.1 h]
theorem cmpA_self (a : Ad) : cmpA a a = 0 := by unfold cmpA; rw [if_pos rfl]; exact cmpB_self _
theorem cmpA_eq {a b : Ad} (h : cmpA a b = 0) : a = b := by
  unfold cmpA at h
  split at h
  · rename_i e
    exact Prod.ext e (bytes_inj (cmpB_eq h))
  · rename_i e
    exact absurd (bytes_inj (cmpB_eq h)) e
theorem cmpA_neg (a b : Ad) : cmpA b a = - cmpA a b := by
  unfold cmpA
  by_cases e : a.1 = b.1
  · rw [if_pos e, if_pos e.symm]; exact cmpB_neg _ _
  · rw [if_neg e, if_neg (Ne.symm e)]; exact cmpB_neg _ _
theorem cmpA_vals (a b : Ad) : cmpA a b = -1 ∨ cmpA a b = 0 ∨ cmpA a b = 1 := by
  unfold cmpA; split <;> exact cmpB_vals _ _
theorem cmpA_trans {a b c : Ad} (h1 : cmpA a b < 0) (h2 : cmpA b c < 0) : cmpA a c < 0 := by
  unfold cmpA at h1 h2 ⊢
  by_cases e1 : a.1 = b.1
  · rw [if_pos e1] at h1
    by_cases e2 : b.1 = c.1
    · rw [if_pos e2] at h2
      rw [if_pos (e1.trans e2)]; exact cmpB_trans h1 h2
    · rw [if_neg e2] at h2
      rw [if_neg (by rw [e1]; exact e2), e1]; exact h2
  · rw [if_neg e1] at h1
    by_cases e2 : b.1 = c.1
    · rw [if_neg (by rw [← e2]; exact e1), ← e2]; exact h1
    · rw [if_neg e2] at h2
      have h3 := cmpB_trans h1 h2
      by_cases e3 : a.1 = c.1
      · rw [e3, cmpB_self] at h3; omega
      · rw [if_neg e3]; exact h3

def encAd (a : Ad) : List Value := [.string a.1, .string a.2]
theorem cmpA_hosts {h p h' p' : ByteArray} (e : h ≠ h') : cmpA (h, p) (h', p') = cmpB h.data.toList h'.data.toList := by unfold cmpA; rw [if_neg e]
theorem cmpA_paths {h p p' : ByteArray} : cmpA (h, p) (h, p') = cmpB p.data.toList p'.data.toList := by unfold cmpA; rw [if_pos rfl]

theorem less_yes {a b : ByteArray} (h : Op.bytesLess a.toList b.toList = true) : cmpB a.data.toList b.data.toList = -1 := by
  rw [ByteArray.toList_eq, ByteArray.toList_eq, cmpB_less] at h
  have := of_decide_eq_true h
  have := cmpB_vals a.data.toList b.data.toList
  omega
theorem less_no {a b : ByteArray} (h : Op.bytesLess a.toList b.toList = false) (hne : a ≠ b) : cmpB a.data.toList b.data.toList = 1 := by
  rw [ByteArray.toList_eq, ByteArray.toList_eq, cmpB_less] at h
  have h1 := of_decide_eq_false h
  have h2 := cmpB_vals a.data.toList b.data.toList
  have h0 : cmpB a.data.toList b.data.toList ≠ 0 := fun h => hne (bytes_inj (cmpB_eq h))
  omega
theorem less_self (a : ByteArray) : Op.bytesLess a.toList a.toList = false := by rw [cmpB_less, cmpB_self]; rfl

end Go.Proofs.Ytpkicliimhflgaa
namespace Go.Proofs.Ytpkicliimhflgaa
open Go.ChangeShapes Go.WideShapes Go.ChangeAt Go.RowKit

/-- Where the first slash stands. -/
def slashAt : List UInt8 → Option Nat
  | [] => none
  | b :: l => if b = 47 then some 0 else (slashAt l).map (· + 1)
theorem index_slash_eq (l : List UInt8) : Lib.indexByte l 47 = match slashAt l with | none => -1 | some i => (i : Int) := by
  induction l with
  | nil => rfl
  | cons b l ih =>
    unfold Lib.indexByte slashAt
    by_cases h : b = 47
    · rw [if_pos (by simpa using h), if_pos h]; rfl
    · rw [if_neg (by simpa using h), if_neg h, ih]
      cases slashAt l with
      | none => rfl
      | some i =>
        simp only [Option.map_some]
        rw [if_neg (by simp)]
        rfl
theorem slashAt_some {l : List UInt8} {i : Nat} (h : slashAt l = some i) : i < l.length ∧ l[i]? = some 47 ∧ ∀ j, j < i → l[j]? ≠ some 47 := by
  induction l generalizing i with
  | nil => cases h
  | cons b l ih =>
    unfold slashAt at h
    by_cases e : b = 47
    · rw [if_pos e] at h; cases h
      exact ⟨by simp, by simp [e], fun j hj => absurd hj (Nat.not_lt_zero _)⟩
    · rw [if_neg e] at h
      cases hs : slashAt l with
      | none => rw [hs] at h; cases h
      | some k =>
        rw [hs] at h
        simp only [Option.map_some, Option.some.injEq] at h
        subst h
        obtain ⟨h1, h2, h3⟩ := ih hs
        refine ⟨by simp; omega, by simpa using h2, fun j hj => ?_⟩
        cases j with
        | zero => simp [e]
        | succ j => simpa using h3 j (by omega)
theorem slashAt_none {l : List UInt8} (h : slashAt l = none) : ∀ j : Nat, l[j]? ≠ some 47 := by
  induction l with
  | nil => simp
  | cons b l ih =>
    unfold slashAt at h
    by_cases e : b = 47
    · rw [if_pos e] at h; cases h
    · rw [if_neg e] at h
      intro j
      cases j with
      | zero => simp [e]
      | succ j => simpa using ih (by simpa using h) j
theorem slashAt_of_first {l : List UInt8} {i : Nat} (h1 : l[i]? = some 47) (h2 : ∀ j, j < i → l[j]? ≠ some 47) : slashAt l = some i := by
  cases h : slashAt l with
  | none => exact absurd h1 (slashAt_none h i)
  | some k =>
    obtain ⟨h3, h4, h5⟩ := slashAt_some h
    rcases Nat.lt_trichotomy i k with c | c | c
    · exact absurd h1 (h5 i c)
    · rw [c]
    · exact absurd h4 (h2 k c)
theorem slashAt_of_none {l : List UInt8} (h : ∀ j : Nat, l[j]? ≠ some 47) : slashAt l = none := by
  cases hs : slashAt l with
  | none => rfl
  | some k => exact absurd (slashAt_some hs).2.1 (h k)

/-- What Cut returns at "/". -/
def cutV (s : ByteArray) : Value := match slashAt s.data.toList with
  | none => .tuple #[.string s, .string ⟨#[]⟩, .bool false]
  | some i => .tuple #[.string (s.extract 0 i), .string (s.extract (i + 1) s.size), .bool true]

end Go.Proofs.Ytpkicliimhflgaa
namespace Go.Proofs.Ytpkicliimhflgaa
open Go.ChangeShapes Go.WideShapes Go.ChangeAt Go.RowKit

/-- The two parts of a text: by the first slash, or the base and the whole. -/
def parts (s base : ByteArray) : Ad := match slashAt s.data.toList with
  | none => (base, s)
  | some i => (s.extract 0 i, s.extract (i + 1) s.size)
def prsA (s base : ByteArray) : Ad × Bool := if isAd (parts s base) = true then (parts s base, true) else ((⟨#[]⟩, ⟨#[]⟩), false)
def prsV (r : Ad × Bool) : Value := .tuple #[.agg #[.string r.1.1, .string r.1.2], .bool r.2]
theorem prsA_yes {s base : ByteArray} {h p : ByteArray} (hp : parts s base = (h, p)) (h1 : isAd (h, p) = true) : prsV (prsA s base) = .tuple #[.agg #[.string h, .string p], .bool true] := by
  unfold prsA; rw [hp, if_pos h1]; rfl
theorem prsA_no {s base : ByteArray} {h p : ByteArray} (hp : parts s base = (h, p)) (h1 : isAd (h, p) = false) : prsV (prsA s base) = .tuple #[.agg #[.string ⟨#[]⟩, .string ⟨#[]⟩], .bool false] := by
  unfold prsA; rw [hp, if_neg (by rw [h1]; exact Bool.false_ne_true)]; rfl
theorem parts_none {s base : ByteArray} (h : slashAt s.data.toList = none) : parts s base = (base, s) := by unfold parts; rw [h]
theorem parts_some {s base : ByteArray} {i : Nat} (h : slashAt s.data.toList = some i) : parts s base = (s.extract 0 i, s.extract (i + 1) s.size) := by unfold parts; rw [h]
theorem extract_le (s : ByteArray) (a b : Nat) : (s.extract a b).size ≤ s.size := by
  rw [ByteArray.size_extract]; omega
theorem parts_size {s base h p : ByteArray} (hp : parts s base = (h, p)) (hs : s.size ≤ 4611686018427387904) (hb : base.size ≤ 4611686018427387904) : h.size ≤ 4611686018427387904 ∧ p.size ≤ 4611686018427387904 := by
  unfold parts at hp
  split at hp <;> cases hp
  · exact ⟨hb, hs⟩
  · have h1 := extract_le s 0 ‹_›
    have h2 := extract_le s (‹_› + 1) s.size
    omega
theorem cutV_none {s : ByteArray} (h : slashAt s.data.toList = none) : cutV s = .tuple #[.string s, .string ⟨#[]⟩, .bool false] := by unfold cutV; rw [h]
theorem cutV_some {s : ByteArray} {i : Nat} (h : slashAt s.data.toList = some i) : cutV s = .tuple #[.string (s.extract 0 i), .string (s.extract (i + 1) s.size), .bool true] := by unfold cutV; rw [h]

/-- Two cells of one block, both stored. -/
theorem heap_two {w : World} {b : Nat} {x y u v : Value} {T : TypeId} (h : w.heap[b]? = some (.cells #[x, y] T (0, 0))) : ((w.setCell ⟨b, 0, none⟩ u).setCell ⟨b, 1, none⟩ v).heap[b]? = some (.cells #[u, v] T (0, 0)) := by
  have h1 : (w.setCell ⟨b, 0, none⟩ u).heap[b]? = some (.cells #[u, y] T (0, 0)) := by rw [heap_setCell_same w b 0 _ T u h]; rfl
  rw [heap_setCell_same _ b 1 _ T v h1]; rfl
theorem cells_two {w : World} {b : Nat} {u v : Value} {T : TypeId} (h : w.heap[b]? = some (.cells #[u, v] T (0, 0))) : w.cell? ⟨b, 0, none⟩ = some u ∧ w.cell? ⟨b, 1, none⟩ = some v ∧ w.frozen? ⟨b, 0, none⟩ = false ∧ w.frozen? ⟨b, 1, none⟩ = false := by
  refine ⟨?_, ?_, ?_, ?_⟩
  · unfold World.cell?; rw [h]; rfl
  · unfold World.cell?; rw [h]; rfl
  · unfold World.frozen?; rw [h]; rfl
  · unfold World.frozen?; rw [h]; rfl

/-- Two new blocks, and draws between: what lies behind a call that writes nothing old. -/
theorem two_new (w : World) (o1 o2 : Obj) (n : Nat) {w2 : World} (hb : Below (((w.alloc o1).drewN n).alloc o2).heap.size (((w.alloc o1).drewN n).alloc o2) w2) :
    w2.heap[w.heap.size]? = some o1 ∧ w2.heap[w.heap.size + 1]? = some o2 ∧ Below w.heap.size w w2 ∧ w.heap.size + 2 ≤ w2.heap.size := by
  have s1 : (w.alloc o1).heap.size = w.heap.size + 1 := by show (w.heap.push _).size = _; simp
  have s2 : (((w.alloc o1).drewN n).alloc o2).heap.size = w.heap.size + 2 := by
    show (((w.alloc o1).heap.push o2)).size = _
    rw [Array.size_push, s1]
  have k0 : (((w.alloc o1).drewN n).alloc o2).heap[w.heap.size]? = some o1 := by
    rw [Below.heap_alloc ((w.alloc o1).drewN n) o2 w.heap.size (by show _ < (w.alloc o1).heap.size; omega)]
    exact heap_alloc_new w o1
  have k1 : (((w.alloc o1).drewN n).alloc o2).heap[w.heap.size + 1]? = some o2 := by
    have h := heap_alloc_new ((w.alloc o1).drewN n) o2
    rw [show ((w.alloc o1).drewN n).heap.size = w.heap.size + 1 from s1] at h
    exact h
  rw [s2] at hb
  refine ⟨by rw [hb.block _ (by omega)]; exact k0, by rw [hb.block _ (by omega)]; exact k1, ?_, by have := hb.size; omega⟩
  have h1 : Below w.heap.size w (((w.alloc o1).drewN n).alloc o2) :=
    (Below.trans ((Below.refl w.heap.size w).alloc (Nat.le_refl _) o1) (⟨rfl, rfl, rfl, Nat.le_refl _, fun _ _ => rfl⟩ : Below w.heap.size (w.alloc o1) ((w.alloc o1).drewN n))).alloc (by show _ ≤ (w.alloc o1).heap.size; omega) o2
  exact h1.trans (hb.mono (by omega))
/-- A block from B on is written. -/
theorem below_two {B : Nat} {w w2 : World} (h : Below B w w2) {b : Nat} (hb : B ≤ b) (u v : Value) : Below B w ((w2.setCell ⟨b, 0, none⟩ u).setCell ⟨b, 1, none⟩ v) :=
  (h.setCell hb _).setCell hb _

def noSl (s : ByteArray) (k : Nat) : Prop := ∀ j : Nat, j < k → s.data.toList[j]? ≠ some 47
theorem noSl.succ {s : ByteArray} {k : Nat} (h : noSl s k) (hk : k < s.size) (h1 : s[k] ≠ 47) : noSl s (k + 1) := by
  intro j hj
  by_cases e : j = k
  · subst e; rw [get_at hk]; simpa using h1
  · exact h j (by omega)
theorem noSl.none {s : ByteArray} {k : Nat} (h : noSl s k) (hk : k = s.size) : slashAt s.data.toList = .none := by
  refine slashAt_of_none fun j => ?_
  by_cases e : j < k
  · exact h j e
  · rw [List.getElem?_eq_none (by rw [Array.length_toList]; show s.size ≤ j; omega)]; simp
theorem noSl.some {s : ByteArray} {k : Nat} (h : noSl s k) (hk : k < s.size) (h1 : s[k] = 47) : slashAt s.data.toList = .some k :=
  slashAt_of_first (by rw [get_at hk, h1]) h
theorem byte47 {b : UInt8} : (b.toNat : Int) = 47 ↔ b = 47 := by
  constructor
  · intro h
    apply UInt8.toNat_inj.1
    have e : (47 : UInt8).toNat = 47 := rfl
    omega
  · intro h; subst h; rfl

theorem two_newD (w : World) (o1 o2 : Obj) (n : Nat) {w2 : World} (hb : Below (((w.alloc o1).alloc o2).drewN n).heap.size (((w.alloc o1).alloc o2).drewN n) w2) :
    w2.heap[w.heap.size]? = some o1 ∧ w2.heap[w.heap.size + 1]? = some o2 ∧ Below w.heap.size w w2 ∧ w.heap.size + 2 ≤ w2.heap.size := by
  have h0 : Below (((w.alloc o1).alloc o2).drewN n).heap.size (((w.alloc o1).drewN 0).alloc o2) (((w.alloc o1).alloc o2).drewN n) := ⟨rfl, rfl, rfl, Nat.le_refl _, fun _ _ => rfl⟩
  exact two_new w o1 o2 0 (h0.trans hb)

end Go.Proofs.Ytpkicliimhflgaa
namespace Go.Proofs.Ytpkicliimhflgaa
open Go.ChangeShapes Go.WideShapes Go.ChangeAt Go.RowKit

theorem dec_self {α : Type} [DecidableEq α] (a : α) : decide (a = a) = true := decide_eq_true rfl
abbrev aggA (a : Ad) : Value := .agg #[.string a.1, .string a.2]

set_option maxHeartbeats 1000000 in
theorem toA_any (h p : ByteArray) (w : World) :
    Calls Try.prog 9 #[.agg #[.string h, .string p]] w fun e w' => e = .returned (.agg #[.string h, .string p]) ∧ Grw w w' := by
  go_enter Try.func9, Try.ntmps9
  go_wp2_with fail
  refine bodyPost_ret (v := .agg #[.string h, .string p]) (by simp [results, Try.results9, go_sem]) rfl ⟨rfl, ?_⟩
  exact (((Grw.refl _).alloc _).alloc _).alloc _

def SzOut (h p : ByteArray) (left : Int) (w : World) (e : Ending) (w' : World) : Prop :=
  ∃ r : Int, e = .returned (.int .i64 r) ∧ -1 ≤ r ∧ (0 ≤ r → r + h.size + p.size = left) ∧ Below w.heap.size w w'
set_option maxHeartbeats 1000000 in
theorem szA_any (h p : ByteArray) (left : Int) (h1 : h.size ≤ 9223372036854775807) (h2 : p.size ≤ 9223372036854775807) (l1 : -1 ≤ left) (l2 : left ≤ 1099511627776) (w : World) :
    Calls Try.prog 6 #[.agg #[.string h, .string p], .int .i64 left] w (SzOut h p left w) := by
  have HB := Lib.hid ((Below.refl w.heap.size w).alloc (Nat.le_refl _) (.cells #[.string h, .string p] 24))
  by_cases c1 : left - h.size < 0
  · go_enter Try.func6, Try.ntmps6
    go_wp2_with fail
    go_ret
    exact ⟨-1, rfl, by omega, by omega, HB.out⟩
  · by_cases c2 : left - h.size - p.size < 0
    · go_enter Try.func6, Try.ntmps6
      go_wp2_with fail
      go_ret
      exact ⟨-1, rfl, by omega, by omega, HB.out⟩
    · go_enter Try.func6, Try.ntmps6
      go_wp2_with fail
      go_ret
      exact ⟨left - h.size - p.size, rfl, by omega, by omega, HB.out⟩

theorem eqA_pair {h p h' p' : ByteArray} : decide ((h, p) = (h', p')) = (decide (h = h') && decide (p = p')) := by
  rw [← Bool.decide_and]
  apply decide_eq_decide.2
  exact Prod.mk.injEq _ _ _ _ ▸ Iff.rfl

end Go.Proofs.Ytpkicliimhflgaa
namespace Go.Proofs.Ytpkicliimhflgaa
open Go.ChangeShapes Go.WideShapes Go.ChangeAt Go.RowKit Go.Joins Go.Deep

/-- The strings of an address are no longer than a string may be. -/
def AdOk (a : Ad) : Prop := a.1.size ≤ 9223372036854775807 ∧ a.2.size ≤ 9223372036854775807
theorem addr_of {H : Type} {enc : TypeId × Value → H} {W : World} {base : Nat} {v : Value} {d : DataW H} {p : List MemPlace} (hv : Value.okWide Try.prog W .any base 24 v) (h : DataW.Trod enc Try.prog W 0 (fun _ => true) true 24 v d p) :
    ∃ x y : ByteArray, v = .agg #[.string x, .string y] ∧ AdOk (x, y) := by
  obtain ⟨v0, v1, y0, y1, n, rfl, _, _, h0, h1⟩ := open_agg2 Try.underlying24 (by kernel_rfl) (by kernel_rfl) hv h
  obtain ⟨s, e0, _, w0⟩ := DataW.trod_string Try.underlying9 h0
  obtain ⟨t, e1, _, w1⟩ := DataW.trod_string Try.underlying9 h1
  cases e0
  cases e1
  exact ⟨s, t, rfl, w0, w1⟩

end Go.Proofs.Ytpkicliimhflgaa
namespace Go.Proofs.Ytpkicliimhflgaa
open Go.ChangeShapes Go.WideShapes Go.ChangeAt Go.RowKit

set_option maxRecDepth 100000 in
set_option maxHeartbeats 4000000 in
theorem walkAnswerTo (va_l : Option Addr) (vn_l vc_l : Nat) (sv_l : List Se) (x_a y_a : ByteArray) (w : World) (r_l : IsSvs w (.slice va_l vn_l vc_l) sv_l) (r_a : AdOk (x_a, y_a)) :
    Calls Try.prog 3 #[.slice va_l vn_l vc_l, .agg #[.string x_a, .string y_a]] w fun e w' => e = .returned (.bool true) ∧ Below w.heap.size w w' := by
  obtain ⟨hrh_l, hoh_l⟩ := r_l
  have HRH_l := Lib.hid hrh_l; have HOH_l := Lib.hid hoh_l; have HSM_l := Lib.hid (rwV_small (v := .slice va_l vn_l vc_l) hoh_l); clear hrh_l hoh_l
  obtain ⟨ra1, ra2⟩ := r_a
  go_enter Try.func3, Try.ntmps3
  go_wp2_with fail
  obtain ⟨w_0, hw_0⟩ : ∃ x, (w.alloc (.cells #[.string x_a, .string y_a] 24)) = x := ⟨_, rfl⟩
  rw [hw_0]
  have HB := Lib.hid (show Below w.heap.size w w_0 by rw [← hw_0]; exact ((Below.refl w.heap.size w).alloc (by first | (simp; done) | (simp; omega)) _))
  have q_a0 : w_0.cell? ⟨w.heap.size, 0, none⟩ = some (.string x_a) := by rw [← hw_0]; simp
  have q_a1 : w_0.cell? ⟨w.heap.size, 1, none⟩ = some (.string y_a) := by rw [← hw_0]; simp
  have b_a : w.heap.size < w_0.heap.size := World.block_lt_of_cell? _ _ q_a0
  have HS0 := Lib.hid (show w.heap.size + 1 ≤ w_0.heap.size by rw [← hw_0]; simp)
  clear hw_0
  go_wp2_with fail
  refine (sz_ServerS (rwV (.slice va_l vn_l vc_l) sv_l) (rwV_is _ _) 1048576 (by omega) (by omega) _ (rwV_reads ((HRH_l.out.below HB.out (Nat.le_refl _)).mono HB.out.size)) HSM_l.out).mono ?_
  rintro e w_1 ⟨r, rfl, lo_r, hi_r, hg⟩
  have hB := hg.below
  replace q_a0 := (hB.cell (show (⟨w.heap.size, 0, none⟩ : Addr).block < _ from World.block_lt_of_cell? _ _ q_a0)).trans q_a0
  replace q_a1 := (hB.cell (show (⟨w.heap.size, 1, none⟩ : Addr).block < _ from World.block_lt_of_cell? _ _ q_a1)).trans q_a1
  replace b_a : w.heap.size < w_1.heap.size := World.block_lt_of_cell? _ _ q_a0
  have HS1 := Lib.hid hB.size
  replace HB := Lib.hid (HB.out.trans (hB.mono HB.out.size))
  clear hB hg
  by_cases neg_r : r < 0
  · go_wp2_with fail
    go_ret
    exact ⟨rfl, HB.out⟩
  replace hi_r := hi_r (by omega)
  have hu_r : r ≤ 1048576 := by omega
  have HWH_l := Lib.hid (show (rwV (.slice va_l vn_l vc_l) sv_l).weight ≤ 1048576 by omega); clear hi_r
  have HSO_l := Lib.hid (ssOk_of HWH_l.out)
  go_wp2_with fail
  refine (szA_any x_a y_a r ra1 ra2 (by omega) (by omega) _).mono ?_
  rintro e w_2 ⟨r2, rfl, lo_r2, hi_r2, hb⟩
  have hB := hb
  replace q_a0 := (hB.cell (show (⟨w.heap.size, 0, none⟩ : Addr).block < _ from World.block_lt_of_cell? _ _ q_a0)).trans q_a0
  replace q_a1 := (hB.cell (show (⟨w.heap.size, 1, none⟩ : Addr).block < _ from World.block_lt_of_cell? _ _ q_a1)).trans q_a1
  replace b_a : w.heap.size < w_2.heap.size := World.block_lt_of_cell? _ _ q_a0
  have HS2 := Lib.hid hB.size
  replace HB := Lib.hid (HB.out.trans (hB.mono HB.out.size))
  clear hB hb
  by_cases neg_r2 : r2 < 0
  · go_wp2_with fail
    go_ret
    exact ⟨rfl, HB.out⟩
  clear hi_r2
  obtain ⟨R, hR⟩ : ∃ R, ansV (sv_l.map Prod.fst) x_a y_a = R := ⟨_, rfl⟩
  have HR := Lib.hid hR; clear hR
  have HCspec := Lib.hid (fun (a : Option Addr) (n c : Nat) (y : Rw) (e : y.cell = .slice a n c) (h : y.data = (rwV (.slice va_l vn_l vc_l) sv_l).data) (X : World) (hr : y.ReadR X.heap.size X) => show Calls Try.prog 7 #[.slice a n c, .agg #[.string x_a, .string y_a]] X fun e w' => e = .returned (.agg #[.int .i64 R.st, .int .i64 R.kd, .string R.bo, .int .i64 R.ag, .bool R.sh, .string R.po]) ∧ Grw X w' from by have hh := ansS_data h hr HSO_l.out x_a y_a; rw [e, HR.out] at hh; exact hh)
  have HCimpl := Lib.hid (fun (a : Option Addr) (n c : Nat) (y : Rw) (e : y.cell = .slice a n c) (h : y.data = (rwV (.slice va_l vn_l vc_l) sv_l).data) (X : World) (hr : y.ReadR X.heap.size X) => show Calls Try.prog 10 #[.slice a n c, .agg #[.string x_a, .string y_a]] X fun e w' => e = .returned (.agg #[.int .i64 R.st, .int .i64 R.kd, .string R.bo, .int .i64 R.ag, .bool R.sh, .string R.po]) ∧ Grw X w' from by have hh := ansI_data h hr HSO_l.out x_a y_a; rw [e, HR.out] at hh; exact hh)
  go_upto_region 8 with (fail)
  go_cut [6] from 19 to 23 (fun c wx => ∃ g : Nat, c = .pointer (some ⟨g, 0, none⟩) ∧ w_2.heap.size ≤ g ∧ wx.heap[g]? = some (.cells #[.int .i64 R.st, .int .i64 R.kd, .string R.bo, .int .i64 R.ag, .bool R.sh, .string R.po] 28 (0, 0)) ∧ Below w_2.heap.size w_2 wx)
  case first =>
    have KEEP := Lib.hid (fun (w' : World) (h : Below w_2.heap.size w_2 w') => show Below w_2.heap.size w_2 w' ∧ w'.cell? ⟨w.heap.size, 0, none⟩ = some (.string x_a) ∧ w'.cell? ⟨w.heap.size, 1, none⟩ = some (.string y_a) from ⟨h, (h.cell (show (⟨w.heap.size, 0, none⟩ : Addr).block < _ from World.block_lt_of_cell? _ _ q_a0)).trans q_a0, (h.cell (show (⟨w.heap.size, 1, none⟩ : Addr).block < _ from World.block_lt_of_cell? _ _ q_a1)).trans q_a1⟩)
    go_region_held3 (fun w' => Below w_2.heap.size w_2 w' ∧ w'.cell? ⟨w.heap.size, 0, none⟩ = some (.string x_a) ∧ w'.cell? ⟨w.heap.size, 1, none⟩ = some (.string y_a)) (exact KEEP.out _ (by repeat' (first | (with_reducible exact Below.refl _ _) | (with_reducible exact hPE) | (with_reducible exact hPQ) | (with_reducible exact hPB) | (with_reducible refine bl_dw ?_) | (with_reducible refine bl_aw ?_ _) | (with_reducible refine bl_sV ?_ (by first | exact Nat.le_refl _ | exact hPE.size | exact hPQ.size | exact hPB.size) _)))) (first | (go_at_call 8; with_reducible refine (toV_sl _ sv_l _ (rwV_reads ((HRH_l.out.below (bl_via HB.out HB.out.size (by repeat' (first | (with_reducible exact Below.refl _ _) | (with_reducible exact hPE) | (with_reducible exact hPQ) | (with_reducible exact hPB) | (with_reducible refine bl_dw ?_) | (with_reducible refine bl_aw ?_ _)))) (Nat.le_refl _)).mono (bl_via HB.out HB.out.size (by repeat' (first | (with_reducible exact Below.refl _ _) | (with_reducible exact hPE) | (with_reducible exact hPQ) | (with_reducible exact hPB) | (with_reducible refine bl_dw ?_) | (with_reducible refine bl_aw ?_ _)))).size)) HWH_l.out).mono ?_; rintro e wB ⟨aB, nB, cB, yB, rfl, kB, dB, hrB, hbB⟩; have hPB := bl_tr (show Below w_2.heap.size w_2 _ from (by repeat' (first | (with_reducible exact Below.refl _ _) | (with_reducible exact hPE) | (with_reducible exact hPQ) | (with_reducible exact hPB) | (with_reducible refine bl_dw ?_) | (with_reducible refine bl_aw ?_ _)))) hbB; (first | (refine lay6 (w := wB) (c := w_2.heap.size) ?_ ?_; (focus (repeat' (first | (with_reducible refine hq_dr ?_) | ((with_reducible refine hq_nw ?_); (first | (with_reducible rfl) | (simp only [size_alloc]; done))) | (with_reducible refine heap_blV hbE ?_) | (with_reducible refine heap_blV hbQ ?_) | (with_reducible refine heap_blV hbB ?_)))); intro x0 y0 x1 y1 x2 y2 x3 y3 x4 y4 x5 y5) | skip)) | (go_at_call 9; with_reducible refine (toA_any x_a y_a _).mono ?_; rintro e wQ ⟨rfl, hgQ⟩; have hbQ := hgQ.below; have hPQ := bl_tr (show Below w_2.heap.size w_2 _ from (by repeat' (first | (with_reducible exact Below.refl _ _) | (with_reducible exact hPE) | (with_reducible exact hPQ) | (with_reducible exact hPB) | (with_reducible refine bl_dw ?_) | (with_reducible refine bl_aw ?_ _)))) hbQ; have hBQ := bl_tr (show Below wB.heap.size wB _ from (by repeat' (first | (with_reducible exact Below.refl _ _) | (with_reducible exact hBE) | (with_reducible exact hBQ) | (with_reducible refine bl_dw ?_) | (with_reducible refine bl_aw ?_ _)))) hbQ; (first | (refine lay6 (w := wQ) (c := w_2.heap.size) ?_ ?_; (focus (repeat' (first | (with_reducible refine hq_dr ?_) | ((with_reducible refine hq_nw ?_); (first | (with_reducible rfl) | (simp only [size_alloc]; done))) | (with_reducible refine heap_blV hbE ?_) | (with_reducible refine heap_blV hbQ ?_) | (with_reducible refine heap_blV hbB ?_)))); intro x0 y0 x1 y1 x2 y2 x3 y3 x4 y4 x5 y5) | (refine lay6 (w := wQ) (c := wB.heap.size) ?_ ?_; (focus (repeat' (first | (with_reducible refine hq_dr ?_) | ((with_reducible refine hq_nw ?_); (first | (with_reducible rfl) | (simp only [size_alloc]; done))) | (with_reducible refine heap_blV hbE ?_) | (with_reducible refine heap_blV hbQ ?_) | (with_reducible refine heap_blV hbB ?_)))); intro x0 y0 x1 y1 x2 y2 x3 y3 x4 y4 x5 y5) | skip)) | (go_at_call 7; refine (HCspec.out _ _ _ _ kB dB _ (rd_up hrB (by repeat' (first | (with_reducible exact Below.refl _ _) | (with_reducible exact hBE) | (with_reducible exact hBQ) | (with_reducible refine bl_dw ?_) | (with_reducible refine bl_aw ?_ _))))).mono ?_; rintro e wE ⟨rfl, hgE⟩; have hbE := hgE.below; have hPE := bl_tr (show Below w_2.heap.size w_2 _ from (by repeat' (first | (with_reducible exact Below.refl _ _) | (with_reducible exact hPE) | (with_reducible exact hPQ) | (with_reducible exact hPB) | (with_reducible refine bl_dw ?_) | (with_reducible refine bl_aw ?_ _)))) hbE; (first | (refine lay6 (w := wE) (c := w_2.heap.size) ?_ ?_; (focus (repeat' (first | (with_reducible refine hq_dr ?_) | ((with_reducible refine hq_nw ?_); (first | (with_reducible rfl) | (simp only [size_alloc]; done))) | (with_reducible refine heap_blV hbE ?_) | (with_reducible refine heap_blV hbQ ?_) | (with_reducible refine heap_blV hbB ?_)))); intro x0 y0 x1 y1 x2 y2 x3 y3 x4 y4 x5 y5) | (refine lay6 (w := wE) (c := wB.heap.size) ?_ ?_; (focus (repeat' (first | (with_reducible refine hq_dr ?_) | ((with_reducible refine hq_nw ?_); (first | (with_reducible rfl) | (simp only [size_alloc]; done))) | (with_reducible refine heap_blV hbE ?_) | (with_reducible refine heap_blV hbQ ?_) | (with_reducible refine heap_blV hbB ?_)))); intro x0 y0 x1 y1 x2 y2 x3 y3 x4 y4 x5 y5) | (refine lay6 (w := wE) (c := wQ.heap.size) ?_ ?_; (focus (repeat' (first | (with_reducible refine hq_dr ?_) | ((with_reducible refine hq_nw ?_); (first | (with_reducible rfl) | (simp only [size_alloc]; done))) | (with_reducible refine heap_blV hbE ?_) | (with_reducible refine heap_blV hbQ ?_) | (with_reducible refine heap_blV hbB ?_)))); intro x0 y0 x1 y1 x2 y2 x3 y3 x4 y4 x5 y5) | skip)))
    all_goals
      go_wp2_with fail
      go_meet
    all_goals (refine ⟨_, rfl, ?_⟩)
    all_goals (first | (exact ⟨hPE.size, hq_nw rfl, bl_aw hPE _⟩) | (exact ⟨(by first | exact Nat.le_refl _ | exact hPE.size | exact hPQ.size | exact hPB.size), set6_box (by repeat' (first | (with_reducible refine hq_dr ?_) | ((with_reducible refine hq_nw ?_); (first | (with_reducible rfl) | (simp only [size_alloc]; done))) | (with_reducible refine heap_blV hbE ?_) | (with_reducible refine heap_blV hbQ ?_) | (with_reducible refine heap_blV hbB ?_))) _ _ _ _ _ _, set6_bl (by repeat' (first | (with_reducible exact Below.refl _ _) | (with_reducible exact hPE) | (with_reducible exact hPQ) | (with_reducible exact hPB) | (with_reducible refine bl_dw ?_) | (with_reducible refine bl_aw ?_ _))) (by first | exact Nat.le_refl _ | exact hPE.size | exact hPQ.size | exact hPB.size) _ _ _ _ _ _⟩))
  obtain ⟨g_w3, rfl, hge, hbx, hB⟩ := hcut
  rename World => w_3
  have HBX := Lib.hid hbx; have HGE := Lib.hid hge; clear hbx hge
  replace q_a0 := (hB.cell (show (⟨w.heap.size, 0, none⟩ : Addr).block < _ from World.block_lt_of_cell? _ _ q_a0)).trans q_a0
  replace q_a1 := (hB.cell (show (⟨w.heap.size, 1, none⟩ : Addr).block < _ from World.block_lt_of_cell? _ _ q_a1)).trans q_a1
  replace b_a : w.heap.size < w_3.heap.size := World.block_lt_of_cell? _ _ q_a0
  have HS3 := Lib.hid hB.size
  replace HB := Lib.hid (HB.out.trans (hB.mono HB.out.size))
  have q_w30 := box_cell HBX.out (j := 0) rfl
  have q_w31 := box_cell HBX.out (j := 1) rfl
  have q_w32 := box_cell HBX.out (j := 2) rfl
  have q_w33 := box_cell HBX.out (j := 3) rfl
  have q_w34 := box_cell HBX.out (j := 4) rfl
  have q_w35 := box_cell HBX.out (j := 5) rfl
  have b_w3 := heap_lt HBX.out
  have HSb_w3 := Lib.hid b_w3; have HSc_w3 := Lib.hid HGE.out; clear HBX HGE
  clear hB
  go_wp2_with fail
  refine (toV_one _ sv_l _ (rwV_reads ((HRH_l.out.below HB.out (Nat.le_refl _)).mono HB.out.size)) HWH_l.out).mono ?_
  rintro e w_4 ⟨y_x, rfl, i_x, d_x, ho, hn, hb⟩
  have hB := hb
  replace q_a0 := (hB.cell (show (⟨w.heap.size, 0, none⟩ : Addr).block < _ from World.block_lt_of_cell? _ _ q_a0)).trans q_a0
  replace q_a1 := (hB.cell (show (⟨w.heap.size, 1, none⟩ : Addr).block < _ from World.block_lt_of_cell? _ _ q_a1)).trans q_a1
  replace b_a : w.heap.size < w_4.heap.size := World.block_lt_of_cell? _ _ q_a0
  replace q_w30 := (hB.cell (show (⟨g_w3, 0, none⟩ : Addr).block < _ from World.block_lt_of_cell? _ _ q_w30)).trans q_w30
  replace q_w31 := (hB.cell (show (⟨g_w3, 1, none⟩ : Addr).block < _ from World.block_lt_of_cell? _ _ q_w31)).trans q_w31
  replace q_w32 := (hB.cell (show (⟨g_w3, 2, none⟩ : Addr).block < _ from World.block_lt_of_cell? _ _ q_w32)).trans q_w32
  replace q_w33 := (hB.cell (show (⟨g_w3, 3, none⟩ : Addr).block < _ from World.block_lt_of_cell? _ _ q_w33)).trans q_w33
  replace q_w34 := (hB.cell (show (⟨g_w3, 4, none⟩ : Addr).block < _ from World.block_lt_of_cell? _ _ q_w34)).trans q_w34
  replace q_w35 := (hB.cell (show (⟨g_w3, 5, none⟩ : Addr).block < _ from World.block_lt_of_cell? _ _ q_w35)).trans q_w35
  replace b_w3 : g_w3 < w_4.heap.size := World.block_lt_of_cell? _ _ q_w30
  have Hx := Lib.hid (ho)
  have HS4 := Lib.hid hB.size
  replace HB := Lib.hid (HB.out.trans (hB.mono HB.out.size))
  have HI_x := Lib.hid i_x; have HD_x := Lib.hid d_x; have HN_x := Lib.hid hn
  obtain ⟨c_x, hc_x⟩ : ∃ c, y_x.cell = c := ⟨_, rfl⟩
  rw [hc_x]
  have HC_x := Lib.hid hc_x
  clear hB ho hn hb i_x d_x hc_x
  obtain ⟨sxa, sxn, sxc, hsx⟩ := sl_form (is_sl_ServerS HI_x.out) (rd_of (ownL_one.1 Hx.out))
  have hcs := HC_x.out; rw [hsx] at hcs; rw [← hcs]; have HCS := Lib.hid hsx; clear hsx hcs
  go_wp2_with fail
  refine (toA_any x_a y_a _).mono ?_
  rintro e w_5 ⟨rfl, hg⟩
  have hB := hg.below
  replace q_a0 := (hB.cell (show (⟨w.heap.size, 0, none⟩ : Addr).block < _ from World.block_lt_of_cell? _ _ q_a0)).trans q_a0
  replace q_a1 := (hB.cell (show (⟨w.heap.size, 1, none⟩ : Addr).block < _ from World.block_lt_of_cell? _ _ q_a1)).trans q_a1
  replace b_a : w.heap.size < w_5.heap.size := World.block_lt_of_cell? _ _ q_a0
  replace q_w30 := (hB.cell (show (⟨g_w3, 0, none⟩ : Addr).block < _ from World.block_lt_of_cell? _ _ q_w30)).trans q_w30
  replace q_w31 := (hB.cell (show (⟨g_w3, 1, none⟩ : Addr).block < _ from World.block_lt_of_cell? _ _ q_w31)).trans q_w31
  replace q_w32 := (hB.cell (show (⟨g_w3, 2, none⟩ : Addr).block < _ from World.block_lt_of_cell? _ _ q_w32)).trans q_w32
  replace q_w33 := (hB.cell (show (⟨g_w3, 3, none⟩ : Addr).block < _ from World.block_lt_of_cell? _ _ q_w33)).trans q_w33
  replace q_w34 := (hB.cell (show (⟨g_w3, 4, none⟩ : Addr).block < _ from World.block_lt_of_cell? _ _ q_w34)).trans q_w34
  replace q_w35 := (hB.cell (show (⟨g_w3, 5, none⟩ : Addr).block < _ from World.block_lt_of_cell? _ _ q_w35)).trans q_w35
  replace b_w3 : g_w3 < w_5.heap.size := World.block_lt_of_cell? _ _ q_w30
  replace Hx := Lib.hid (ownL_later Hx.out hB)
  have HS5 := Lib.hid hB.size
  replace HB := Lib.hid (HB.out.trans (hB.mono HB.out.size))
  clear hB hg
  go_wp2_with fail
  refine (HCimpl.out _ _ _ _ HCS.out HD_x.out _ (rd_of (ownL_one.1 Hx.out))).mono ?_
  rintro e w_6 ⟨rfl, hg⟩
  have hB := hg.below
  replace q_a0 := (hB.cell (show (⟨w.heap.size, 0, none⟩ : Addr).block < _ from World.block_lt_of_cell? _ _ q_a0)).trans q_a0
  replace q_a1 := (hB.cell (show (⟨w.heap.size, 1, none⟩ : Addr).block < _ from World.block_lt_of_cell? _ _ q_a1)).trans q_a1
  replace b_a : w.heap.size < w_6.heap.size := World.block_lt_of_cell? _ _ q_a0
  replace q_w30 := (hB.cell (show (⟨g_w3, 0, none⟩ : Addr).block < _ from World.block_lt_of_cell? _ _ q_w30)).trans q_w30
  replace q_w31 := (hB.cell (show (⟨g_w3, 1, none⟩ : Addr).block < _ from World.block_lt_of_cell? _ _ q_w31)).trans q_w31
  replace q_w32 := (hB.cell (show (⟨g_w3, 2, none⟩ : Addr).block < _ from World.block_lt_of_cell? _ _ q_w32)).trans q_w32
  replace q_w33 := (hB.cell (show (⟨g_w3, 3, none⟩ : Addr).block < _ from World.block_lt_of_cell? _ _ q_w33)).trans q_w33
  replace q_w34 := (hB.cell (show (⟨g_w3, 4, none⟩ : Addr).block < _ from World.block_lt_of_cell? _ _ q_w34)).trans q_w34
  replace q_w35 := (hB.cell (show (⟨g_w3, 5, none⟩ : Addr).block < _ from World.block_lt_of_cell? _ _ q_w35)).trans q_w35
  replace b_w3 : g_w3 < w_6.heap.size := World.block_lt_of_cell? _ _ q_w30
  replace Hx := Lib.hid (ownL_later Hx.out hB)
  have HS6 := Lib.hid hB.size
  replace HB := Lib.hid (HB.out.trans (hB.mono HB.out.size))
  clear hB hg
  go_wp2_with fail
  obtain ⟨w_7, hw⟩ : ∃ x, w_6.alloc (.cells #[.int .i64 R.st, .int .i64 R.kd, .string R.bo, .int .i64 R.ag, .bool R.sh, .string R.po] 28) = x := ⟨_, rfl⟩
  rw [hw]
  have hB : Below w_6.heap.size w_6 w_7 := by rw [← hw]; exact (Below.refl _ _).alloc (Nat.le_refl _) _
  have q_g0 : w_7.cell? ⟨w_6.heap.size, 0, none⟩ = some (.int .i64 R.st) := by rw [← hw]; simp
  have q_g1 : w_7.cell? ⟨w_6.heap.size, 1, none⟩ = some (.int .i64 R.kd) := by rw [← hw]; simp
  have q_g2 : w_7.cell? ⟨w_6.heap.size, 2, none⟩ = some (.string R.bo) := by rw [← hw]; simp
  have q_g3 : w_7.cell? ⟨w_6.heap.size, 3, none⟩ = some (.int .i64 R.ag) := by rw [← hw]; simp
  have q_g4 : w_7.cell? ⟨w_6.heap.size, 4, none⟩ = some (.bool R.sh) := by rw [← hw]; simp
  have q_g5 : w_7.cell? ⟨w_6.heap.size, 5, none⟩ = some (.string R.po) := by rw [← hw]; simp
  have b_g : w_6.heap.size < w_7.heap.size := World.block_lt_of_cell? _ _ q_g0
  replace q_a0 := (hB.cell (show (⟨w.heap.size, 0, none⟩ : Addr).block < _ from World.block_lt_of_cell? _ _ q_a0)).trans q_a0
  replace q_a1 := (hB.cell (show (⟨w.heap.size, 1, none⟩ : Addr).block < _ from World.block_lt_of_cell? _ _ q_a1)).trans q_a1
  replace b_a : w.heap.size < w_7.heap.size := World.block_lt_of_cell? _ _ q_a0
  replace q_w30 := (hB.cell (show (⟨g_w3, 0, none⟩ : Addr).block < _ from World.block_lt_of_cell? _ _ q_w30)).trans q_w30
  replace q_w31 := (hB.cell (show (⟨g_w3, 1, none⟩ : Addr).block < _ from World.block_lt_of_cell? _ _ q_w31)).trans q_w31
  replace q_w32 := (hB.cell (show (⟨g_w3, 2, none⟩ : Addr).block < _ from World.block_lt_of_cell? _ _ q_w32)).trans q_w32
  replace q_w33 := (hB.cell (show (⟨g_w3, 3, none⟩ : Addr).block < _ from World.block_lt_of_cell? _ _ q_w33)).trans q_w33
  replace q_w34 := (hB.cell (show (⟨g_w3, 4, none⟩ : Addr).block < _ from World.block_lt_of_cell? _ _ q_w34)).trans q_w34
  replace q_w35 := (hB.cell (show (⟨g_w3, 5, none⟩ : Addr).block < _ from World.block_lt_of_cell? _ _ q_w35)).trans q_w35
  replace b_w3 : g_w3 < w_7.heap.size := World.block_lt_of_cell? _ _ q_w30
  replace Hx := Lib.hid (ownL_later Hx.out hB)
  have HS7 := Lib.hid hB.size
  replace HB := Lib.hid (HB.out.trans (hB.mono HB.out.size))
  clear hB hw
  have HSb_g := Lib.hid b_g
  go_wp2_with fail
  refine (eqR_self _ _ _ _ _ _ _).mono ?_
  rintro e w_8 ⟨rfl, hg⟩
  have hB := hg.below
  replace q_a0 := (hB.cell (show (⟨w.heap.size, 0, none⟩ : Addr).block < _ from World.block_lt_of_cell? _ _ q_a0)).trans q_a0
  replace q_a1 := (hB.cell (show (⟨w.heap.size, 1, none⟩ : Addr).block < _ from World.block_lt_of_cell? _ _ q_a1)).trans q_a1
  replace b_a : w.heap.size < w_8.heap.size := World.block_lt_of_cell? _ _ q_a0
  replace q_w30 := (hB.cell (show (⟨g_w3, 0, none⟩ : Addr).block < _ from World.block_lt_of_cell? _ _ q_w30)).trans q_w30
  replace q_w31 := (hB.cell (show (⟨g_w3, 1, none⟩ : Addr).block < _ from World.block_lt_of_cell? _ _ q_w31)).trans q_w31
  replace q_w32 := (hB.cell (show (⟨g_w3, 2, none⟩ : Addr).block < _ from World.block_lt_of_cell? _ _ q_w32)).trans q_w32
  replace q_w33 := (hB.cell (show (⟨g_w3, 3, none⟩ : Addr).block < _ from World.block_lt_of_cell? _ _ q_w33)).trans q_w33
  replace q_w34 := (hB.cell (show (⟨g_w3, 4, none⟩ : Addr).block < _ from World.block_lt_of_cell? _ _ q_w34)).trans q_w34
  replace q_w35 := (hB.cell (show (⟨g_w3, 5, none⟩ : Addr).block < _ from World.block_lt_of_cell? _ _ q_w35)).trans q_w35
  replace b_w3 : g_w3 < w_8.heap.size := World.block_lt_of_cell? _ _ q_w30
  replace q_g0 := (hB.cell (show (⟨w_6.heap.size, 0, none⟩ : Addr).block < _ from World.block_lt_of_cell? _ _ q_g0)).trans q_g0
  replace q_g1 := (hB.cell (show (⟨w_6.heap.size, 1, none⟩ : Addr).block < _ from World.block_lt_of_cell? _ _ q_g1)).trans q_g1
  replace q_g2 := (hB.cell (show (⟨w_6.heap.size, 2, none⟩ : Addr).block < _ from World.block_lt_of_cell? _ _ q_g2)).trans q_g2
  replace q_g3 := (hB.cell (show (⟨w_6.heap.size, 3, none⟩ : Addr).block < _ from World.block_lt_of_cell? _ _ q_g3)).trans q_g3
  replace q_g4 := (hB.cell (show (⟨w_6.heap.size, 4, none⟩ : Addr).block < _ from World.block_lt_of_cell? _ _ q_g4)).trans q_g4
  replace q_g5 := (hB.cell (show (⟨w_6.heap.size, 5, none⟩ : Addr).block < _ from World.block_lt_of_cell? _ _ q_g5)).trans q_g5
  replace b_g : w_6.heap.size < w_8.heap.size := World.block_lt_of_cell? _ _ q_g0
  replace Hx := Lib.hid (ownL_later Hx.out hB)
  have HS8 := Lib.hid hB.size
  replace HB := Lib.hid (HB.out.trans (hB.mono HB.out.size))
  clear hB hg
  go_wp2_with fail
  refine (toV_one _ sv_l _ (rwV_reads ((HRH_l.out.below HB.out (Nat.le_refl _)).mono HB.out.size)) HWH_l.out).mono ?_
  rintro e w_9 ⟨y_z, rfl, i_z, d_z, ho, hn, hb⟩
  have hB := hb
  replace q_a0 := (hB.cell (show (⟨w.heap.size, 0, none⟩ : Addr).block < _ from World.block_lt_of_cell? _ _ q_a0)).trans q_a0
  replace q_a1 := (hB.cell (show (⟨w.heap.size, 1, none⟩ : Addr).block < _ from World.block_lt_of_cell? _ _ q_a1)).trans q_a1
  replace b_a : w.heap.size < w_9.heap.size := World.block_lt_of_cell? _ _ q_a0
  replace q_w30 := (hB.cell (show (⟨g_w3, 0, none⟩ : Addr).block < _ from World.block_lt_of_cell? _ _ q_w30)).trans q_w30
  replace q_w31 := (hB.cell (show (⟨g_w3, 1, none⟩ : Addr).block < _ from World.block_lt_of_cell? _ _ q_w31)).trans q_w31
  replace q_w32 := (hB.cell (show (⟨g_w3, 2, none⟩ : Addr).block < _ from World.block_lt_of_cell? _ _ q_w32)).trans q_w32
  replace q_w33 := (hB.cell (show (⟨g_w3, 3, none⟩ : Addr).block < _ from World.block_lt_of_cell? _ _ q_w33)).trans q_w33
  replace q_w34 := (hB.cell (show (⟨g_w3, 4, none⟩ : Addr).block < _ from World.block_lt_of_cell? _ _ q_w34)).trans q_w34
  replace q_w35 := (hB.cell (show (⟨g_w3, 5, none⟩ : Addr).block < _ from World.block_lt_of_cell? _ _ q_w35)).trans q_w35
  replace b_w3 : g_w3 < w_9.heap.size := World.block_lt_of_cell? _ _ q_w30
  replace q_g0 := (hB.cell (show (⟨w_6.heap.size, 0, none⟩ : Addr).block < _ from World.block_lt_of_cell? _ _ q_g0)).trans q_g0
  replace q_g1 := (hB.cell (show (⟨w_6.heap.size, 1, none⟩ : Addr).block < _ from World.block_lt_of_cell? _ _ q_g1)).trans q_g1
  replace q_g2 := (hB.cell (show (⟨w_6.heap.size, 2, none⟩ : Addr).block < _ from World.block_lt_of_cell? _ _ q_g2)).trans q_g2
  replace q_g3 := (hB.cell (show (⟨w_6.heap.size, 3, none⟩ : Addr).block < _ from World.block_lt_of_cell? _ _ q_g3)).trans q_g3
  replace q_g4 := (hB.cell (show (⟨w_6.heap.size, 4, none⟩ : Addr).block < _ from World.block_lt_of_cell? _ _ q_g4)).trans q_g4
  replace q_g5 := (hB.cell (show (⟨w_6.heap.size, 5, none⟩ : Addr).block < _ from World.block_lt_of_cell? _ _ q_g5)).trans q_g5
  replace b_g : w_6.heap.size < w_9.heap.size := World.block_lt_of_cell? _ _ q_g0
  replace Hx := Lib.hid (ownL_later Hx.out hB)
  have Hz := Lib.hid (ho)
  have HS9 := Lib.hid hB.size
  replace HB := Lib.hid (HB.out.trans (hB.mono HB.out.size))
  have HI_z := Lib.hid i_z; have HD_z := Lib.hid d_z; have HN_z := Lib.hid hn
  obtain ⟨c_z, hc_z⟩ : ∃ c, y_z.cell = c := ⟨_, rfl⟩
  rw [hc_z]
  have HC_z := Lib.hid hc_z
  clear hB ho hn hb i_z d_z hc_z
  go_wp2_with fail
  refine ((HCS.out ▸ HC_z.out ▸ eq_ServerS y_x y_z HI_x.out HI_z.out (HD_x.out.trans HD_z.out.symm) _ (rd_of (ownL_one.1 Hx.out)) (rd_of (ownL_one.1 Hz.out)))).mono ?_
  rintro e w_10 ⟨rfl, hg⟩
  have hB := hg.below
  replace q_a0 := (hB.cell (show (⟨w.heap.size, 0, none⟩ : Addr).block < _ from World.block_lt_of_cell? _ _ q_a0)).trans q_a0
  replace q_a1 := (hB.cell (show (⟨w.heap.size, 1, none⟩ : Addr).block < _ from World.block_lt_of_cell? _ _ q_a1)).trans q_a1
  replace b_a : w.heap.size < w_10.heap.size := World.block_lt_of_cell? _ _ q_a0
  replace q_w30 := (hB.cell (show (⟨g_w3, 0, none⟩ : Addr).block < _ from World.block_lt_of_cell? _ _ q_w30)).trans q_w30
  replace q_w31 := (hB.cell (show (⟨g_w3, 1, none⟩ : Addr).block < _ from World.block_lt_of_cell? _ _ q_w31)).trans q_w31
  replace q_w32 := (hB.cell (show (⟨g_w3, 2, none⟩ : Addr).block < _ from World.block_lt_of_cell? _ _ q_w32)).trans q_w32
  replace q_w33 := (hB.cell (show (⟨g_w3, 3, none⟩ : Addr).block < _ from World.block_lt_of_cell? _ _ q_w33)).trans q_w33
  replace q_w34 := (hB.cell (show (⟨g_w3, 4, none⟩ : Addr).block < _ from World.block_lt_of_cell? _ _ q_w34)).trans q_w34
  replace q_w35 := (hB.cell (show (⟨g_w3, 5, none⟩ : Addr).block < _ from World.block_lt_of_cell? _ _ q_w35)).trans q_w35
  replace b_w3 : g_w3 < w_10.heap.size := World.block_lt_of_cell? _ _ q_w30
  replace q_g0 := (hB.cell (show (⟨w_6.heap.size, 0, none⟩ : Addr).block < _ from World.block_lt_of_cell? _ _ q_g0)).trans q_g0
  replace q_g1 := (hB.cell (show (⟨w_6.heap.size, 1, none⟩ : Addr).block < _ from World.block_lt_of_cell? _ _ q_g1)).trans q_g1
  replace q_g2 := (hB.cell (show (⟨w_6.heap.size, 2, none⟩ : Addr).block < _ from World.block_lt_of_cell? _ _ q_g2)).trans q_g2
  replace q_g3 := (hB.cell (show (⟨w_6.heap.size, 3, none⟩ : Addr).block < _ from World.block_lt_of_cell? _ _ q_g3)).trans q_g3
  replace q_g4 := (hB.cell (show (⟨w_6.heap.size, 4, none⟩ : Addr).block < _ from World.block_lt_of_cell? _ _ q_g4)).trans q_g4
  replace q_g5 := (hB.cell (show (⟨w_6.heap.size, 5, none⟩ : Addr).block < _ from World.block_lt_of_cell? _ _ q_g5)).trans q_g5
  replace b_g : w_6.heap.size < w_10.heap.size := World.block_lt_of_cell? _ _ q_g0
  replace Hx := Lib.hid (ownL_later Hx.out hB)
  replace Hz := Lib.hid (ownL_later Hz.out hB)
  have HS10 := Lib.hid hB.size
  replace HB := Lib.hid (HB.out.trans (hB.mono HB.out.size))
  clear hB hg
  go_wp2_with fail
  go_ret
  exact ⟨rfl, HB.out⟩

end Go.Proofs.Ytpkicliimhflgaa
