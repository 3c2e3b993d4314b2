/- Helper contracts: the model's own division of a text, and its search for a byte. Asked: the string is shorter than 2^40 bytes. -/
import Derived.Test.YtkjjiinccljhjaaDoorEs
import Derived.Test.YtkjjiinccljhjaaDoorStr
import Derived.Test.YtkjjiinccljhjaaDoorName
namespace Go.Proofs.YtkjjiinccljhjaaDoor
open Go.ChangeShapes Go.WideShapes Go.ChangeAt Go.RowKit

theorem byte_eq {s : ByteArray} {k : Nat} (hk : k < s.size) {c : UInt8} (h : s[k] = c) : s.data.toList[k]? = some c := by rw [get_at hk, h]
theorem byte_ne {s : ByteArray} {k : Nat} {c : UInt8} (h : ∀ hk : k < s.size, s[k] ≠ c) : s.data.toList[k]? ≠ some c := by
  intro e
  have hk : k < s.size := by have := (List.getElem?_eq_some_iff.1 e).1; rwa [size_list] at this
  rw [get_at hk] at e
  exact h hk (Option.some.inj e)
theorem u8_beq (b c : UInt8) : ((b.toNat : Int) == (c.toNat : Int)) = decide (b = c) := by
  by_cases h : b = c
  · subst h; simp
  · rw [decide_eq_false h]
    refine beq_eq_false_iff_ne.2 fun e => h (UInt8.toNat_inj.1 (by omega))

/-- No byte c from a on and below k. -/
def noB (c : UInt8) (s : ByteArray) (a k : Nat) : Prop := ∀ j, a ≤ j → j < k → s.data.toList[j]? ≠ some c
theorem noB.succ {c : UInt8} {s : ByteArray} {a k : Nat} (h : noB c s a k) (hk : s.data.toList[k]? ≠ some c) : noB c s a (k + 1) := by
  intro j h1 h2
  by_cases e : j = k
  · subst e; exact hk
  · exact h j h1 (by omega)
theorem noB.self (c : UInt8) (s : ByteArray) (a : Nat) : noB c s a a := fun _ h1 h2 => absurd h1 (by omega)

/-- The pieces as strings. -/
def splS (c : UInt8) (l : List UInt8) : List ByteArray := (splitB c l).map ofL
theorem splS_len (c : UInt8) (l : List UInt8) : (splS c l).length ≤ l.length + 1 := by unfold splS; rw [List.length_map]; exact splitB_length c l
theorem splS_round {c : UInt8} {s : ByteArray} {a i : Nat} (hai : a ≤ i) (hi : s.data.toList[i]? = some c) (hf : noB c s a i) :
    splS c (s.data.toList.drop a) = s.extract a i :: splS c (s.data.toList.drop (i + 1)) := by
  unfold splS
  rw [split_round hai hi hf, List.map_cons, extract_eq]
theorem splS_last {c : UInt8} {s : ByteArray} {a i : Nat} (hi : i = s.size) (hf : noB c s a i) :
    splS c (s.data.toList.drop a) = [s.extract a i] := by
  subst hi
  unfold splS
  rw [split_last fun j hj he => hf j hj (by have := (List.getElem?_eq_some_iff.1 he).1; rwa [size_list] at this) he, List.map_cons, List.map_nil, extract_suf]
theorem readsS_one (w : World) (s : ByteArray) : ReadsK encS 1 (w.heap.size + 1) (w.alloc (.cells #[.string s] 9)) (.slice (some ⟨w.heap.size, 0, none⟩) 1 1) [s] := by
  refine ⟨_, 1, rfl, by simp, by omega, (fun h => by cases h), Or.inr ⟨_, 0, rfl, by omega, fun j y hy i hi' => ?_⟩⟩
  have hj : j = 0 := by have := (List.getElem?_eq_some_iff.1 hy).1; simp at this; omega
  subst hj
  simp only [List.getElem?_cons_zero, Option.some.injEq] at hy
  subst hy
  obtain rfl : i = 0 := by omega
  simp [encS]
/-- append of strings to a slice of the call's own. -/
theorem wpList_appS {w : World} {ops : Array Oper} {rest : List Oper} {o : Oper} {a : Act} {Q : Exit → Act → World → Prop} (hgd : o.guard = none) (s x : Operand)
    (ho : o.op = .call { callee := .builtin .append, args := #[s, x], argTypes := #[24, 24] })
    (B : Nat) (w0 : World) (v : Value) (xs : List ByteArray) (hs : a.eval s = v) (hM : MineK encS 1 9 B w0 w v xs) (vx : Value) (top : Nat) (ys : List ByteArray) (hx : a.eval x = vx) (hr : ReadsK encS 1 top w vx ys)
    (hlen : xs.length + ys.length ≤ 137438953472)
    (h : ∀ v' w', MineK encS 1 9 B w0 w' v' (xs ++ ys) → wpList Tryd.prog ops Q rest (a.put o.dst v') w') : wpList Tryd.prog ops Q (o :: rest) a w := by
  obtain ⟨i, hi, hz, hsize, hby⟩ := info_parts infoStr
  exact wpList_appK hgd s x _ ho encS_len encS_one (by decide) _ i _ 16 Tryd.underlying24 hi hz hsize hby (by rfl) B w0 v xs hs hM vx top ys hx hr (by omega) hlen fun v' w' hM' _ => h v' w' hM'

set_option maxRecDepth 100000 in
set_option maxHeartbeats 2000000 in
theorem spl_spec (s : ByteArray) (c : UInt8) (hs : s.size ≤ 1099511627) (w : World) :
    Calls Tryd.prog 30 #[.string s, .int .u8 (c.toNat : Int)] w (NewK encS 1 9 (splS c s.data.toList) w) := by
  go_enter Tryd.func30, Tryd.ntmps30
  go_wp2
  go_loopw [5, 6, 7] (fun o f i wr => ∃ (a k : Nat) (done : List ByteArray), a ≤ k ∧ k ≤ s.size + 1 ∧ f = .int .i64 a ∧ i = .int .i64 k ∧ MineK encS 1 9 w.heap.size w wr o done ∧ done.length ≤ k ∧ noB c s a k ∧ (k ≤ s.size → splS c s.data.toList = done ++ splS c (s.data.toList.drop a)) ∧ (k = s.size + 1 → splS c s.data.toList = done))
    (fun _ _ i _ => s.size + 1 - (intOf i).toNat)
  case atStart => exact ⟨0, 0, [], Nat.le_refl _, Nat.zero_le _, rfl, rfl, MineK.empty _ _ _ _ _ _ (Below.refl _ _) (Nat.le_refl _), Nat.le_refl _, noB.self _ _ _, (fun _ => by rw [List.drop_zero, List.nil_append]), (fun h => by omega)⟩
  case round =>
    obtain ⟨a, k, done, hak, hk, rfl, rfl, hM, hdl, hno, hsp, hfin⟩ := hrel
    have HM := Lib.hid hM; have HNO := Lib.hid hno; have HSP := Lib.hid hsp; have HFIN := Lib.hid hfin
    clear hM hno hsp hfin
    by_cases hle : k ≤ s.size
    · have hle2 : decide ((k : Int) ≤ (s.size : Int)) = true := decide_eq_true (by omega)
      have c1 : (a : Int) ≤ (k : Int) := by omega
      have c2 : (k : Int) ≤ (s.size : Int) := by omega
      by_cases hend : k = s.size
      · subst hend
        have HR := Lib.hid (splS_last rfl HNO.out)
        go_wp2_with (at_builtin; refine wpList_appS rfl _ _ rfl w.heap.size w _ done rfl (HM.out.alloc _) _ _ [s.extract a s.size] rfl (readsS_one wr _) ?c3 ?_)
        case c3 => simp; omega
        intro v' w' hM'
        have HM2 := Lib.hid hM'; clear hM'
        go_wp2
        go_roundw
        case rel =>
          refine ⟨s.size + 1, s.size + 1, done ++ [s.extract a s.size], Nat.le_refl _, by omega, by go_num, by go_num, HM2.out, by simp; omega, noB.self _ _ _, (fun h => by omega), fun _ => ?_⟩
          rw [HSP.out hle, HR.out]
        case measure => simp [intOf] <;> omega
      · have hq : ((k : Int) == (s.size : Int)) = false := beq_eq_false_iff_ne.2 (by omega)
        have hlt : k < s.size := by omega
        have hb8 : (s[k].toNat : Int) < 256 := by have := UInt8.toNat_lt s[k]; omega
        by_cases he : s[k] = c
        · have hbq : ((s[k].toNat : Int) == (c.toNat : Int)) = true := by rw [u8_beq, decide_eq_true he]
          have HR := Lib.hid (splS_round hak (byte_eq hlt he) HNO.out)
          clear he
          go_wp2_with (at_builtin; refine wpList_appS rfl _ _ rfl w.heap.size w _ done rfl (HM.out.alloc _) _ _ [s.extract a k] rfl (readsS_one wr _) ?c3 ?_)
          case c3 => simp; omega
          intro v' w' hM'
          have HM2 := Lib.hid hM'; clear hM'
          go_wp2
          go_roundw
          case rel =>
            refine ⟨k + 1, k + 1, done ++ [s.extract a k], Nat.le_refl _, by omega, by go_num, by go_num, HM2.out, by simp; omega, noB.self _ _ _, (fun h => ?_), fun h => by omega⟩
            rw [HSP.out hle, HR.out, List.append_assoc]; rfl
          case measure => simp [intOf] <;> omega
        · have hbq : ((s[k].toNat : Int) == (c.toNat : Int)) = false := by rw [u8_beq, decide_eq_false he]
          have HS := Lib.hid (HNO.out.succ (byte_ne fun _ => he))
          clear he
          go_wp2
          go_roundw
          case rel => exact ⟨a, k + 1, done, by omega, by omega, rfl, by go_num, HM.out, by omega, HS.out, (fun h => HSP.out hle), fun h => by omega⟩
          case measure => simp [intOf] <;> omega
    · have hle2 : decide ((k : Int) ≤ (s.size : Int)) = false := decide_eq_false (by omega)
      have HF := Lib.hid (HFIN.out (by omega))
      go_wp2
      go_ret
      exact ⟨_, rfl, by rw [HF.out]; exact HM.out.own, HM.out.below⟩
end Go.Proofs.YtkjjiinccljhjaaDoor
