/- Helper contract: ColorOf of the model: the color of the last rule for the name. Asked: the sheets lie in memory as named. -/
import Derived.Test.YtmlmiclgledcpaaSh
import Derived.Test.YtmlmiclgledcpaaStr
namespace Go.Proofs.Ytmlmiclgledcpaa
open Go.ChangeShapes Go.WideShapes Go.ChangeAt Go.RowKit

/-- The rules at the places before k of sheet i, and all of the sheets before it. -/
def preR (ss : List Shv) (i : Nat) (rs : List Ru) (k : Nat) : List Ru := flatR (ss.take i) ++ rs.take k
theorem preR_zero (ss : List Shv) (i : Nat) (rs : List Ru) : preR ss i rs 0 = flatR (ss.take i) := by simp [preR]
theorem preR_full {ss : List Shv} {i k : Nat} {p : Shv} (h : ss[i]? = some p) (hk : k = p.1.length) : preR ss i p.1 k = flatR (ss.take (i + 1)) := by
  rw [flatR_take h, preR, hk, List.take_length]
theorem preR_snoc {ss : List Shv} {i k : Nat} {rs : List Ru} {r : Ru} (h : rs[k]? = some r) : preR ss i rs (k + 1) = preR ss i rs k ++ [r] := by
  rw [preR, preR, take_snoc h, List.append_assoc]

set_option maxRecDepth 100000 in
set_option maxHeartbeats 4000000 in
theorem colorOf_spec (v : Value) (ss : List Shv) (nm : ByteArray) (w : World) (h : ReadH w.heap.size w v ss) (hn : ss.length ≤ 1099511627776) (hr : ∀ p ∈ ss, p.1.length ≤ 1099511627776) :
    Calls Try.prog 28 #[v, .string nm] w fun e w' => e = .returned (.int .i64 (colOf (flatR ss) nm)) ∧ w = w' := by
  obtain ⟨a, cap, rfl, hc1, hc2⟩ := h.form
  obtain ⟨n, hnn⟩ : ∃ n, ss.length = n := ⟨_, rfl⟩
  rw [hnn] at h hc1 hn ⊢
  obtain ⟨C, hC⟩ : ∃ C, colOf (flatR ss) nm = C := ⟨_, rfl⟩
  rw [hC]
  have H := Lib.hid h; have HN := Lib.hid hnn; have HR := Lib.hid hr; have HC := Lib.hid hC
  clear h hnn hr hC
  go_enter Try.func28, Try.ntmps28
  go_wp2
  go_loopw [5] (fun i wr => ∃ (j : Nat), j ≤ n ∧ i = .int .i64 ((j : Int) - 1) ∧ colOf (flatR (ss.take j)) nm = C ∧ w = wr)
    (fun i _ => ((intOf i) + 1).toNat)
  case atStart => exact ⟨n, Nat.le_refl _, by go_num, by rw [flatR_full HN.out.symm]; exact HC.out, rfl⟩
  case round =>
    obtain ⟨j, hj, rfl, hcj, rfl⟩ := hrel
    have HCJ := Lib.hid hcj; clear hcj
    by_cases hlt : (0 : Int) ≤ (j : Int) - 1
    · obtain ⟨i, rfl⟩ : ∃ i, j = i + 1 := ⟨j - 1, by omega⟩
      have e1 : (((i + 1 : Nat) : Int) - 1) = (i : Int) := by omega
      rw [e1]
      have hi : i < n := by omega
      obtain ⟨p, hp⟩ := sh_at (ss := ss) (j := i) (by rw [HN.out]; omega)
      obtain ⟨g, off, rfl, hg, c0⟩ := H.out.at hp
      have hin := H.out.sheet hp
      have hpl := HR.out p (List.mem_of_getElem? hp)
      obtain ⟨rs, ⟨sa, sn, sc⟩⟩ := p
      replace c0 : w.cell? ⟨g, off + i, none⟩ = some (.slice sa sn sc) := c0
      replace hin : ReadsK encU 2 w.heap.size w (.slice sa sn sc) rs := hin
      replace hpl : rs.length ≤ 1099511627776 := hpl
      obtain ⟨_, _, e, hd1, hd2, _⟩ := id hin
      injection e with e2 e3 e4; subst e2; subst e4
      obtain ⟨m, hm⟩ : ∃ m, rs.length = m := ⟨_, rfl⟩
      rw [hm] at hpl hd1 e3
      subst e3
      have HIN := Lib.hid hin; have HM := Lib.hid hm; have HP := Lib.hid hp
      replace HCJ := Lib.hid (show colOf (preR ss i rs sn) nm = C by rw [preR_full hp hm.symm]; exact HCJ.out)
      clear hin hm hp hlt e1
      go_wp2
      go_loopw [6] (fun q wr => ∃ (k : Nat), k ≤ sn ∧ q = .int .i64 ((k : Int) - 1) ∧ colOf (preR ss i rs k) nm = C ∧ w = wr)
        (fun q _ => ((intOf q) + 1).toNat)
      case atStart => exact ⟨sn, Nat.le_refl _, by go_num, HCJ.out, rfl⟩
      case round =>
        obtain ⟨k', hk, rfl, hck, rfl⟩ := hrel
        have HCK := Lib.hid hck; clear hck
        by_cases hlt : (0 : Int) ≤ (k' : Int) - 1
        · obtain ⟨k, rfl⟩ : ∃ k, k' = k + 1 := ⟨k' - 1, by omega⟩
          have e1 : (((k + 1 : Nat) : Int) - 1) = (k : Int) := by omega
          rw [e1]
          have hk2 : k < sn := by omega
          obtain ⟨x, y, hx⟩ := ru_at (xs := rs) (j := k) (by rw [HM.out]; omega)
          obtain ⟨g', off', rfl, hg', d0, d1⟩ := HIN.out.rule hx
          replace d0 : w.cell? ⟨g', off' + k * 2, none⟩ = some (.string x) := d0
          replace d1 : w.cell? ⟨g', off' + k * 2 + 1, none⟩ = some (.int .i64 y) := d1
          have HX := Lib.hid (show (if x = nm then y else colOf (preR ss i rs k) nm) = C by have := HCK.out; rw [preR_snoc hx, colOf_snoc] at this; exact this)
          clear hx hlt e1
          by_cases e : x = nm
          · have e2 : (x.toList == nm.toList) = true := beqL_yes e
            have HY := Lib.hid (show y = C by have := HX.out; rwa [if_pos e] at this)
            clear e
            go_wp2
            go_ret
            exact ⟨by rw [HY.out]; rfl, rfl⟩
          · have e2 : (x.toList == nm.toList) = false := beqL_no e
            have HY := Lib.hid (show colOf (preR ss i rs k) nm = C by have := HX.out; rwa [if_neg e] at this)
            clear e
            go_wp2
            go_roundw
            case rel => exact ⟨k, by omega, by go_num, HY.out, by first | trivial | rfl⟩
            case measure => simp [intOf]
        · have hk0 : k' = 0 := by omega
          subst hk0
          have HY := Lib.hid (show colOf (flatR (ss.take i)) nm = C by have := HCK.out; rwa [preR_zero] at this)
          go_wp2
          go_roundw
          case rel => exact ⟨i, by omega, by go_num, HY.out, by first | trivial | rfl⟩
          case measure => simp [intOf]
    · have hj0 : j = 0 := by omega
      subst hj0
      have HY := Lib.hid (show (0 : Int) = C by have := HCJ.out; simpa [flatR, colOf] using this)
      go_wp2
      go_ret
      exact ⟨by rw [HY.out]; rfl, rfl⟩
end Go.Proofs.Ytmlmiclgledcpaa
