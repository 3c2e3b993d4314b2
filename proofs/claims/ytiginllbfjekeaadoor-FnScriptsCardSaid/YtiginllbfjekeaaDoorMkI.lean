/- MarkupOf of the model and of the program: square brackets become angle brackets. Asked: the string is no longer than 2^30 bytes; for the program: the library's MaxLen holds a number. -/
import Derived.Test.YtiginllbfjekeaaDoorMkS
import Derived.Test.YtiginllbfjekeaaDoorStrLib
import Derived.Test.YtiginllbfjekeaaDoorShelf
import Derived.Lib.Replace
namespace Go.Proofs.YtiginllbfjekeaaDoor
open Go.ChangeShapes Go.WideShapes Go.ChangeAt Go.RowKit

def subB (a b c : UInt8) : UInt8 := if c = a then b else c
theorem replaceK_one (a b : UInt8) (l : List UInt8) : Lib.replaceK [a] [b] (Lib.count l [a]) l = l.map (subB a b) := by
  generalize hn : l.length = n
  induction n using Nat.strongRecOn generalizing l with
  | _ n ih =>
    by_cases h : idxB a l < l.length
    · have hix : Lib.index l [a] = ((idxB a l : Nat) : Int) := by rw [index_idx, if_pos h]
      rw [Lib.count_hit (by simp) hix, Nat.add_comm, Lib.replaceK_hit _ _ _ _ _ hix]
      rw [show ([a] : List UInt8).length = 1 from rfl, ih (l.drop (idxB a l + 1)).length (by rw [List.length_drop]; omega) _ rfl]
      conv => rhs; rw [← List.take_append_drop (idxB a l) l, List.drop_eq_getElem_cons h]
      have hat : l[idxB a l] = a := by have := idxB_at h; rw [List.getElem?_eq_getElem h] at this; exact Option.some.inj this
      rw [List.map_append, List.map_cons, hat, show subB a b a = b by unfold subB; rw [if_pos rfl], List.append_assoc]
      congr 1
      conv => lhs; rw [← List.map_id (l.take (idxB a l))]
      refine List.map_congr_left fun c hc => ?_
      obtain ⟨j, hj⟩ := List.mem_iff_getElem?.1 hc
      have hjl : j < idxB a l := by have := (List.getElem?_eq_some_iff.1 hj).1; rw [List.length_take] at this; omega
      rw [List.getElem?_take, if_pos hjl] at hj
      have : c ≠ a := fun e => idxB_before hjl (by rw [hj, e])
      unfold subB; rw [if_neg this]; rfl
    · have hix : Lib.index l [a] = -1 := by rw [index_idx, if_neg h]
      rw [Lib.count_miss hix, Lib.replaceK]
      conv => lhs; rw [← List.map_id l]
      refine List.map_congr_left fun c hc => ?_
      obtain ⟨j, hj⟩ := List.mem_iff_getElem?.1 hc
      have hjl := (List.getElem?_eq_some_iff.1 hj).1
      have : c ≠ a := fun e => idxB_before (c := a) (l := l) (j := j) (by omega) (by rw [hj, e])
      unfold subB; rw [if_neg this]; rfl
theorem replaceAll_one {a b : UInt8} (h : a ≠ b) (l : List UInt8) : Lib.replaceAll l [a] [b] = l.map (subB a b) := by
  unfold Lib.replaceAll Lib.replace Lib.replaceNum
  rw [if_neg (by simpa using h), if_pos (Or.inl (by decide)), replaceK_one]
theorem sub_two (c : UInt8) : subB 93 62 (subB 91 60 c) = mkC c := by
  by_cases h1 : c = 91
  · subst h1; rfl
  by_cases h2 : c = 93
  · subst h2; rfl
  rw [mkC_no h1 h2]
  unfold subB; rw [if_neg h1, if_neg h2]
def subS (a b : UInt8) (s : ByteArray) : ByteArray := ofL (s.data.toList.map (subB a b))
theorem subS_two (s : ByteArray) : subS 93 62 (subS 91 60 s) = mkU s := by
  refine bytesEq ?_
  show ((s.data.toList.map (subB 91 60)).map (subB 93 62)) = s.data.toList.map mkC
  rw [List.map_map]
  exact List.map_congr_left fun c _ => sub_two c
theorem subS_size (a b : UInt8) (s : ByteArray) : (subS a b s).size = s.size := by
  have h : (subS a b s).size = (s.data.toList.map (subB a b)).length := ofL_size _
  rw [h, List.length_map, size_list]

theorem count_le1 (c : UInt8) (l : List UInt8) : Lib.count l [c] ≤ l.length := by
  generalize hn : l.length = n
  induction n using Nat.strongRecOn generalizing l with
  | _ n ih =>
    by_cases h : idxB c l < l.length
    · have hix : Lib.index l [c] = ((idxB c l : Nat) : Int) := by rw [index_idx, if_pos h]
      rw [Lib.count_hit (by simp) hix, show ([c] : List UInt8).length = 1 from rfl]
      have := ih (l.drop (idxB c l + 1)).length (by rw [List.length_drop]; omega) _ rfl
      rw [List.length_drop] at this
      omega
    · have hix : Lib.index l [c] = -1 := by rw [index_idx, if_neg h]
      rw [Lib.count_miss hix]; exact Nat.zero_le _
/-- The library's MaxLen holds a number. -/
def Max0 (w : World) : Prop := ∃ m, w.cell? ⟨0, 0, none⟩ = some (.int .i64 m)
theorem Max0.on {w w' : World} (h : Max0 w) (hb : Below w.heap.size w w') : Max0 w' := by
  obtain ⟨m, hm⟩ := h
  exact ⟨m, (hb.cell (World.block_lt_of_cell? _ _ hm)).trans hm⟩
theorem max0_of {w : World} (h : w.ShapedOpen Tryd.prog) : Max0 w := Tryd.laysM155.s1_3 w h
theorem rep_any {a b : UInt8} (hab : a ≠ b) (s : ByteArray) (hs : s.size ≤ 1073741824) (w : World) (hm : Max0 w) :
    Calls Tryd.prog 37 #[.string s, .string ⟨#[a]⟩, .string ⟨#[b]⟩] w fun e w' => e = .returned (.string (subS a b s)) ∧ Below w.heap.size w w' := by
  obtain ⟨m, hm⟩ := hm
  refine (Tryd.strings_ReplaceAll s ⟨#[a]⟩ ⟨#[b]⟩ m w (by omega) hm (Nat.le_refl 1) ?_).mono ?_
  · have h1 : Lib.countB s ⟨#[a]⟩ ≤ s.size := by
      have : Lib.countB s ⟨#[a]⟩ = Lib.count s.data.toList [a] := rfl
      rw [this, ← size_list]; exact count_le1 a _
    have h2 : (⟨#[b]⟩ : ByteArray).size = 1 := rfl
    rw [h2]; omega
  · rintro e w' ⟨rfl, hb⟩
    refine ⟨?_, hb⟩
    rw [show (⟨#[a]⟩ : ByteArray).data.toList = [a] from rfl, show (⟨#[b]⟩ : ByteArray).data.toList = [b] from rfl, replaceAll_one hab]
    rfl

theorem markup_impl (s : ByteArray) (hs : s.size ≤ 1073741824) (w : World) (hm : Max0 w) :
    Calls Tryd.prog 17 #[.string s] w fun e w' => e = .returned (.string (mkU s)) ∧ Below w.heap.size w w' := by
  have HM := Lib.hid hm; clear hm
  have HT := Lib.hid (subS_two s)
  go_enter Tryd.func17, Tryd.ntmps17
  go_wp2_with fail
  refine (rep_any (a := 91) (b := 60) (by decide) s hs _ HM.out).mono ?_
  rintro e w1 ⟨rfl, hb1⟩
  have HM1 := Lib.hid (HM.out.on hb1); have HB1 := Lib.hid hb1; clear hb1
  go_wp2_with fail
  refine (rep_any (a := 93) (b := 62) (by decide) _ (by rw [subS_size]; exact hs) _ HM1.out).mono ?_
  rintro e w2 ⟨rfl, hb2⟩
  have HB2 := Lib.hid (HB1.out.trans (hb2.mono HB1.out.size)); clear hb2
  rw [HT.out]
  go_wp2
  go_ret
  exact ⟨rfl, HB2.out⟩

set_option maxRecDepth 100000 in
set_option maxHeartbeats 2000000 in
theorem markup_spec (s : ByteArray) (hs : s.size ≤ 1073741824) (w : World) :
    Calls Tryd.prog 23 #[.string s] w fun e w' => e = .returned (.string (mkU s)) ∧ Below w.heap.size w w' := by
  have hcv := run_bytes_of_string (P := Tryd.prog) w 9 22 5 s Tryd.underlying9 Tryd.underlying22 Tryd.underlying5
  have hc1 : s.size ≤ grownCap w s.size 0 5 := grownCap_ge _ _ _ _
  have hc2 : grownCap w s.size 0 5 ≤ maxLen := grownCap_le_maxLen _ _ _ _ (by unfold maxLen; omega)
  unfold maxLen at hc2
  obtain ⟨c, hc⟩ : ∃ c, grownCap w s.size 0 5 = c := ⟨_, rfl⟩
  rw [hc] at hcv hc1 hc2
  have HML := Lib.hid (mkL_start s w c)
  obtain ⟨w1, hw1⟩ : ∃ w1, w.drew.alloc (.cells (bytesRow s c) 5 ((bytesRow s c).size, (bytesRow s c).size + 1)) = w1 := ⟨_, rfl⟩
  rw [hw1] at hcv HML
  obtain ⟨n, hn⟩ : ∃ n, s.size = n := ⟨_, rfl⟩
  have HN := Lib.hid hn
  rw [hn] at hs hc1 hcv
  have HF := Lib.hid (mAt_full (s := s) (k := n) hn.symm)
  clear hc hw1 hn
  go_enter Tryd.func23, Tryd.ntmps23
  go_wp2
  go_loopw [4] (fun i wr => ∃ (k : Nat), k ≤ n ∧ i = .int .i64 k ∧ MkL s w.heap.size k w wr)
    (fun i _ => n - (intOf i).toNat)
  case atStart => exact ⟨0, Nat.zero_le _, rfl, HML.out⟩
  case round =>
    obtain ⟨k, hk, rfl, hm⟩ := hrel
    have HM := Lib.hid hm; clear hm HML
    by_cases hlt : (k : Int) < (n : Int)
    · have hks : k < s.size := by rw [HN.out]; omega
      have d0 := HM.out.c k hks
      have f0 := HM.out.f k hks
      rw [mAt_old] at d0
      obtain ⟨b, hb⟩ : ∃ b, s.data.toList.getD k 0 = b := ⟨_, rfl⟩
      have hb8 : (b.toNat : Int) < 256 := by have := b.toNat_lt; omega
      rw [hb] at d0
      have HB := Lib.hid hb; clear hb
      by_cases h1 : b = 91
      · have HP := Lib.hid (HM.out.put (n := 60) hks (by rw [HB.out, h1]; rfl))
        subst h1
        go_wp2
        go_roundw
        case rel => exact ⟨k + 1, by omega, by go_num, HP.out⟩
        case measure => simp [intOf] <;> omega
      by_cases h2 : b = 93
      · have HP := Lib.hid (HM.out.put (n := 62) hks (by rw [HB.out, h2]; rfl))
        subst h2
        go_wp2
        go_roundw
        case rel => exact ⟨k + 1, by omega, by go_num, HP.out⟩
        case measure => simp [intOf] <;> omega
      have HP := Lib.hid (HM.out.skip (by rw [HB.out]; exact mkC_no h1 h2))
      have q1 : ((b.toNat : Int) == 91) = false := beq_eq_false_iff_ne.2 fun e => h1 (UInt8.toNat_inj.1 (show b.toNat = 91 by omega))
      have q2 : ((b.toNat : Int) == 93) = false := beq_eq_false_iff_ne.2 fun e => h2 (UInt8.toNat_inj.1 (show b.toNat = 93 by omega))
      clear h1 h2
      go_wp2
      go_roundw
      case rel => exact ⟨k + 1, by omega, by go_num, HP.out⟩
      case measure => simp [intOf] <;> omega
    · have hkn : k = n := by omega
      subst hkn
      have hcc := run_convert_bytes_arg (P := Tryd.prog) wr 22 5 Tryd.underlying22 Tryd.underlying5 w.heap.size 0 k c ((List.range k).map fun j => ((mAt s k j).toNat : Int)) (by simp) (fun i hi => by
        rw [Nat.zero_add, HM.out.c i (by rw [HN.out]; exact hi)]
        simp [hi]) 9 Tryd.underlying9
      rw [HF.out] at hcc
      go_wp2
      go_ret
      exact ⟨rfl, HM.out.bl⟩
end Go.Proofs.YtiginllbfjekeaaDoor
