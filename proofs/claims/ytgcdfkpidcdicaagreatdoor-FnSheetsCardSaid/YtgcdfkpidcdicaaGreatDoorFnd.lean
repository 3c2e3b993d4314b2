/- Helper contracts: FindAttr of the program and of the model answer alike. Asked: the slice reads as the list named. -/
import Derived.Test.YtgcdfkpidcdicaaGreatDoorTk
namespace Go.Proofs.YtgcdfkpidcdicaaGreatDoor
open Go.ChangeShapes Go.WideShapes Go.ChangeAt Go.RowKit

def findV (ats : List At) (n : ByteArray) : Value := match findA ats n with
  | none => .tuple #[.string ⟨#[]⟩, .bool false]
  | some v => .tuple #[.string v, .bool true]
theorem findV_none {ats : List At} {n : ByteArray} (h : findA ats n = none) : findV ats n = .tuple #[.string ⟨#[]⟩, .bool false] := by unfold findV; rw [h]
theorem findV_some {ats : List At} {n v : ByteArray} (h : findA ats n = some v) : findV ats n = .tuple #[.string v, .bool true] := by unfold findV; rw [h]
/-- The first k attributes have other names. -/
def fndTo (ats : List At) (n : ByteArray) (k : Nat) : Prop := findA ats n = findA (ats.drop k) n
theorem fndTo.zero (ats : List At) (n : ByteArray) : fndTo ats n 0 := by unfold fndTo; rw [List.drop_zero]
theorem drop_at {ats : List At} {k : Nat} {a : At} (h : ats[k]? = some a) : ats.drop k = a :: ats.drop (k + 1) := by
  have hk := (List.getElem?_eq_some_iff.1 h).1
  rw [List.drop_eq_getElem_cons hk, show ats[k] = a from Option.some.inj ((List.getElem?_eq_getElem hk).symm.trans h)]
theorem fndTo.hit {ats : List At} {n : ByteArray} {k : Nat} {a : At} (h : fndTo ats n k) (ha : ats[k]? = some a) (e : a.1 = n) : findV ats n = .tuple #[.string a.2, .bool true] := by
  unfold fndTo at h
  rw [drop_at ha, findA, if_pos e] at h
  exact findV_some h
theorem fndTo.succ {ats : List At} {n : ByteArray} {k : Nat} {a : At} (h : fndTo ats n k) (ha : ats[k]? = some a) (e : a.1 ≠ n) : fndTo ats n (k + 1) := by
  unfold fndTo at h ⊢
  rw [drop_at ha, findA, if_neg e] at h
  exact h
theorem fndTo.miss {ats : List At} {n : ByteArray} {k : Nat} (h : fndTo ats n k) (hk : ats.length ≤ k) : findV ats n = .tuple #[.string ⟨#[]⟩, .bool false] := by
  unfold fndTo at h
  rw [List.drop_of_length_le hk, findA] at h
  exact findV_none h

set_option maxHeartbeats 2000000 in
theorem find_spec (v : Value) (hi : Nat) (xs : List At) (name : ByteArray) (w : World) (hr : ReadsK encA 2 hi w v xs) (hh : hi ≤ w.heap.size) :
    Calls Tryz.prog 259 #[v, .string name] w fun e w' => e = .returned (findV xs name) ∧ Grw w w' := by
  obtain ⟨a, cap, rfl, hc1, hc2, _, hcells⟩ := hr
  have HC := Lib.hid hcells; clear hcells
  obtain ⟨n, hn⟩ : ∃ n, xs.length = n := ⟨_, rfl⟩
  rw [hn] at hc1 HC ⊢
  have HN := Lib.hid hn; clear hn
  go_enter Tryz.func259, Tryz.ntmps259
  go_wp2
  go_loopw [6] (fun i wr => ∃ (k : Nat), k ≤ n ∧ i = .int .i64 k ∧ fndTo xs name k ∧ Grw w wr)
    (fun i _ => n - (intOf i).toNat)
  case atStart => exact ⟨0, Nat.zero_le _, rfl, fndTo.zero _ _, Grw.refl _⟩
  case round =>
    obtain ⟨k, hk, rfl, hnot, hg⟩ := hrel
    have HNI := Lib.hid hnot; have HG := Lib.hid hg
    clear hnot hg
    by_cases hlt : (k : Int) < (n : Int)
    · rcases HC.out with h0 | ⟨g, off, rfl, hg, hcells⟩
      · omega
      · obtain ⟨x, y, hx⟩ := at_at (xs := xs) (j := k) (by have := HN.out; omega)
        have c0 : wr.cell? ⟨g, off + k * 2, none⟩ = some (.string x) := by rw [HG.out.below.cell (show g < _ by omega)]; exact hcells k _ hx 0 (by omega)
        have c1 : wr.cell? ⟨g, off + k * 2 + 1, none⟩ = some (.string y) := by rw [HG.out.below.cell (show g < _ by omega)]; exact hcells k _ hx 1 (by omega)
        have HX := Lib.hid hx
        clear hcells hx
        by_cases e1 : x = name
        · have e3 : (x.toList == name.toList) = true := beqL_yes e1
          have HR := Lib.hid (HNI.out.hit HX.out e1)
          clear e1
          go_wp2
          go_ret2
          exact ⟨by rw [HR.out]; rfl, HG.out⟩
        · have e3 : (x.toList == name.toList) = false := beqL_no e1
          have HR := Lib.hid (HNI.out.succ HX.out e1)
          clear e1
          go_wp2
          go_roundw
          case rel => exact ⟨k + 1, by omega, by go_num, HR.out, HG.out⟩
          case measure => simp [intOf]; omega
    · have hkn : decide ((k : Int) < (n : Int)) = false := decide_eq_false hlt
      have HR := Lib.hid (HNI.out.miss (show xs.length ≤ k by have := HN.out; omega))
      go_wp2
      go_ret2
      exact ⟨by rw [HR.out]; rfl, HG.out⟩
end Go.Proofs.YtgcdfkpidcdicaaGreatDoor
