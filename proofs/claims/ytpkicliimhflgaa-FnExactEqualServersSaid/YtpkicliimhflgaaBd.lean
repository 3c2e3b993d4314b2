/- Trees under construction as plain values: what a token adds, what is closed, the text of children, the count of a name, what a valid one is. No program. -/
import Derived.Test.YtpkicliimhflgaaTok
namespace Go.Proofs.Ytpkicliimhflgaa

/-- A node: name, text, the number of its parent, attributes. -/
structure Nd where
  name : ByteArray
  text : ByteArray
  parent : Int
  attrs : List (ByteArray × ByteArray)
deriving DecidableEq
structure Bd where
  nodes : List Nd
  opn : List Int
deriving DecidableEq
def sPage : ByteArray := ⟨#[112, 97, 103, 101]⟩
def isVoid (s : ByteArray) : Bool := (s.toList == [105, 109, 103]) || (s.toList == [108, 105, 110, 107])
def bdNew : Bd := ⟨[⟨sPage, ⟨#[]⟩, -1, []⟩], [0]⟩
/-- The node of this number has this name. -/
def hasName (ns : List Nd) (z : Int) (s : ByteArray) : Bool := decide (0 ≤ z) && match ns[z.toNat]? with
  | some x => x.name.toList == s.toList
  | none => false
/-- How many elements stay open: all, or those ahead of the last one of this name (the first one always stays). -/
def closeN (b : Bd) (s : ByteArray) : Nat → Nat
  | 0 => b.opn.length
  | k + 1 => if hasName b.nodes (b.opn.getD (k + 1) 0) s then k + 1 else closeN b s k
def closeB (b : Bd) (s : ByteArray) : Bd := ⟨b.nodes, b.opn.take (closeN b s (b.opn.length - 1))⟩
def lastOpen (b : Bd) : Int := b.opn.getD (b.opn.length - 1) 0
def pushN (b : Bd) (x : Nd) : Bd := ⟨b.nodes ++ [x], b.opn⟩
/-- A node is appended below the last open one, where there is room. -/
def roomB (b : Bd) : Bool := decide (b.nodes.length < 40) && decide (0 < b.opn.length)
def openB (b : Bd) (n : ByteArray) (ats : List (ByteArray × ByteArray)) : Bd × Int :=
  if isVoid n = false ∧ 8 ≤ b.opn.length then (b, -1)
  else if roomB b = false then (b, -1)
  else (⟨b.nodes ++ [⟨n, ⟨#[]⟩, lastOpen b, ats⟩], if isVoid n = false then b.opn ++ [(b.nodes.length : Int)] else b.opn⟩, (b.nodes.length : Int))
def textB (b : Bd) (t : ByteArray) : Bd × Int :=
  if t.size = 0 ∨ roomB b = false then (b, -1)
  else (⟨b.nodes ++ [⟨⟨#[]⟩, t, lastOpen b, []⟩], b.opn⟩, (b.nodes.length : Int))
def addTok (b : Bd) (t : Tok) : Bd × Int :=
  if t.kind = 1 then openB b t.name t.attrs
  else if t.kind = 2 then (closeB b t.name, -1)
  else if t.kind = 3 then textB b t.text
  else (b, -1)
def addToks (b : Bd) : List Tok → Bd
  | [] => b
  | t :: ts => addToks (addTok b t).1 ts
theorem addToks_append (b : Bd) : ∀ (ts : List Tok) (t : Tok), addToks b (ts ++ [t]) = (addTok (addToks b ts) t).1
  | [], t => rfl
  | u :: ts, t => by
    rw [List.cons_append, addToks, addToks]
    exact addToks_append _ ts t
def textsOf (ns : List Nd) (k : Int) : List ByteArray := match ns with
  | [] => []
  | x :: ns => if x.parent = k ∧ x.name.size = 0 then x.text :: textsOf ns k else textsOf ns k
def joinE : List ByteArray → ByteArray
  | [] => ⟨#[]⟩
  | x :: xs => x ++ joinE xs
def textOf (b : Bd) (k : Int) : ByteArray := joinE (textsOf b.nodes k)
def countName (ns : List Nd) (s : ByteArray) : Nat := match ns with
  | [] => 0
  | x :: ns => (if (x.name.toList == s.toList) = true then 1 else 0) + countName ns s
/-- A node that can have children. -/
def canOpen (ns : List Nd) (z : Int) : Bool := decide (0 ≤ z) && match ns[z.toNat]? with
  | some x => decide (x.name.size ≠ 0) && !isVoid x.name
  | none => false
def okNode (ns : List Nd) (i : Nat) : Bool := match ns[i]? with
  | some x => decide (x.parent < (i : Int)) && canOpen ns x.parent && (if x.name.size = 0 then decide (x.text.size ≠ 0) && decide (x.attrs = []) else isNm x.name && decide (x.text.size = 0))
  | none => false
def okRoot (ns : List Nd) : Bool := match ns[0]? with
  | some x => (x.name.toList == [112, 97, 103, 101]) && decide (x.text.size = 0) && decide (x.parent = -1) && decide (x.attrs = [])
  | none => false
def parentOf (ns : List Nd) (z : Int) : Int := (ns[z.toNat]?.map Nd.parent).getD 0
def okOpen (b : Bd) (i : Nat) : Bool := canOpen b.nodes (b.opn.getD i 0) && decide (1 ≤ b.opn.getD i 0) && decide (parentOf b.nodes (b.opn.getD i 0) = b.opn.getD (i - 1) 0)
/-- The numbers from 1 to below n all satisfy it. -/
def allFrom (f : Nat → Bool) : Nat → Bool
  | 0 => true
  | 1 => true
  | n + 2 => allFrom f (n + 1) && f (n + 1)
theorem allFrom_iff (f : Nat → Bool) : ∀ n, allFrom f n = true ↔ ∀ i, 1 ≤ i → i < n → f i = true
  | 0 => by simp [allFrom]
  | 1 => by
    simp [allFrom]; intro i h1 h2; omega
  | n + 2 => by
    rw [allFrom, Bool.and_eq_true, allFrom_iff f (n + 1)]
    constructor
    · rintro ⟨h1, h2⟩ i hi1 hi2
      by_cases e : i = n + 1
      · rw [e]; exact h2
      · exact h1 i hi1 (by omega)
    · intro h
      exact ⟨fun i h1 h2 => h i h1 (by omega), h (n + 1) (by omega) (by omega)⟩
def isBd (b : Bd) : Bool :=
  decide (1 ≤ b.nodes.length ∧ b.nodes.length ≤ 40) && okRoot b.nodes && allFrom (okNode b.nodes) b.nodes.length && decide (1 ≤ b.opn.length ∧ b.opn.length ≤ 8) && decide (b.opn.getD 0 0 = 0) && allFrom (okOpen b) b.opn.length
end Go.Proofs.Ytpkicliimhflgaa
