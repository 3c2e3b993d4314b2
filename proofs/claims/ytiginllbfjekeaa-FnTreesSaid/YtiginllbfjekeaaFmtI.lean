/- Helper contracts: FormatToken of the program. Asked: the attributes read as the list named, and the token's strings are shorter than 2^30 bytes together. -/
import Derived.Test.YtiginllbfjekeaaFmtT
import Derived.Test.YtiginllbfjekeaaSpl
namespace Go.Proofs.Ytiginllbfjekeaa
open Go.ChangeShapes Go.WideShapes Go.ChangeAt Go.RowKit

theorem as_o_o (v : Value) (w : World) : (Instr.typeAssert (.iface 94 v) 59 94 true).run Try.prog w = .ok (.tuple #[v, .bool true]) w := by kernel_rfl
theorem as_c_o (v : Value) (w : World) : (Instr.typeAssert (.iface 97 v) 59 94 true).run Try.prog w = .ok (.tuple #[.agg #[.string ⟨#[]⟩, .slice none 0 0], .bool false]) w := by kernel_rfl
theorem as_c_c (v : Value) (w : World) : (Instr.typeAssert (.iface 97 v) 59 97 true).run Try.prog w = .ok (.tuple #[v, .bool true]) w := by kernel_rfl
theorem as_p_o (v : Value) (w : World) : (Instr.typeAssert (.iface 100 v) 59 94 true).run Try.prog w = .ok (.tuple #[.agg #[.string ⟨#[]⟩, .slice none 0 0], .bool false]) w := by kernel_rfl
theorem as_p_c (v : Value) (w : World) : (Instr.typeAssert (.iface 100 v) 59 97 true).run Try.prog w = .ok (.tuple #[.agg #[.string ⟨#[]⟩], .bool false]) w := by kernel_rfl
theorem as_p_p (v : Value) (w : World) : (Instr.typeAssert (.iface 100 v) 59 100 true).run Try.prog w = .ok (.tuple #[v, .bool true]) w := by kernel_rfl
theorem as_n_o (w : World) : (Instr.typeAssert .nilIface 59 94 true).run Try.prog w = .ok (.tuple #[.agg #[.string ⟨#[]⟩, .slice none 0 0], .bool false]) w := by kernel_rfl
theorem as_n_c (w : World) : (Instr.typeAssert .nilIface 59 97 true).run Try.prog w = .ok (.tuple #[.agg #[.string ⟨#[]⟩], .bool false]) w := by kernel_rfl
theorem as_n_p (w : World) : (Instr.typeAssert .nilIface 59 100 true).run Try.prog w = .ok (.tuple #[.agg #[.string ⟨#[]⟩], .bool false]) w := by kernel_rfl

/-- What markupOf answers. -/
def mkOf (k : Int) (n : ByteArray) (a : Option Addr) (len cap : Nat) (t : ByteArray) : Value :=
  if k = 1 then .iface 94 (.agg #[.string n, .slice a len cap]) else if k = 2 then .iface 97 (.agg #[.string n]) else if k = 3 then .iface 100 (.agg #[.string t]) else .nilIface
set_option maxRecDepth 100000 in
set_option maxHeartbeats 1000000 in
theorem mkOf_any (k : Int) (n : ByteArray) (a : Option Addr) (len cap : Nat) (t : ByteArray) (w : World) :
    Calls Try.prog 28 #[.agg #[.int .i64 k, .string n, .slice a len cap, .string t]] w fun e w' => e = .returned (mkOf k n a len cap t) ∧ Grw w w' := by
  have HG := Lib.hid ((Grw.refl w).alloc (.cells #[.int .i64 k, .string n, .slice a len cap, .string t] 30))
  by_cases h1 : k = 1
  · subst h1
    go_enter Try.func28, Try.ntmps28
    go_wp2
    go_ret
    exact ⟨rfl, HG.out⟩
  · have k1 : (k == 1) = false := beq_eq_false_iff_ne.2 h1
    by_cases h2 : k = 2
    · subst h2
      go_enter Try.func28, Try.ntmps28
      go_wp2
      go_ret
      exact ⟨rfl, HG.out⟩
    · have k2 : (k == 2) = false := beq_eq_false_iff_ne.2 h2
      by_cases h3 : k = 3
      · subst h3
        go_enter Try.func28, Try.ntmps28
        go_wp2
        go_ret
        exact ⟨rfl, HG.out⟩
      · have k3 : (k == 3) = false := beq_eq_false_iff_ne.2 h3
        have HE := Lib.hid (show mkOf k n a len cap t = .nilIface by unfold mkOf; rw [if_neg h1, if_neg h2, if_neg h3])
        clear h1 h2 h3
        go_enter Try.func28, Try.ntmps28
        go_wp2
        go_ret
        exact ⟨by rw [HE.out]; rfl, HG.out⟩

/-- The words of a tag. -/
def attrW (a : At) : ByteArray := a.1 ++ ⟨#[61]⟩ ++ a.2
theorem join_words (n : ByteArray) (xs : List At) : Lib.join ((n :: xs.map attrW).map (·.data.toList)) [32] = n.data.toList ++ fmtAs xs := by
  rw [List.map_cons, Lib.join_cons]
  congr 1
  unfold Lib.joinTail
  induction xs with
  | nil => rfl
  | cons a xs ih =>
    rw [List.map_cons, List.map_cons, List.map_cons, List.flatten_cons, ih]
    show _ = 32 :: _ ++ _ ++ fmtAs xs
    rw [attrW, append_list, append_list]
    simp
theorem words_more {n : ByteArray} {xs : List At} {j : Nat} {a : At} (h : xs[j]? = some a) : n :: ((xs.map attrW).take j ++ [a.1 ++ ⟨#[61]⟩ ++ a.2]) = n :: (xs.map attrW).take (j + 1) := by
  rw [List.take_add_one, List.getElem?_map, h]; rfl
theorem fmt_joined (n : ByteArray) (xs : List At) (t : ByteArray) : (⟨#[60]⟩ : ByteArray) ++ ⟨(n.data.toList ++ fmtAs xs).toArray⟩ ++ ⟨#[62]⟩ = ofL (fmtT ⟨1, n, xs, t⟩) := bytesEq (by
  rw [append_list, append_list, ofL_list]
  simp [fmtT])
end Go.Proofs.Ytiginllbfjekeaa
