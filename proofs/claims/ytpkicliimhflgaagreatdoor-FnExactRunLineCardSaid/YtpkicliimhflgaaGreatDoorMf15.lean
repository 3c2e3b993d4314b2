/- MarkupOf of the model: a string's square brackets become angle brackets. Asked: the string is no longer than 2^40 bytes. A bound on lengths out of the world's own shape: the library's MaxLen holds a number. Helper facts, no claim of their own. MarkupOf of the model and of the program: square brackets become angle brackets. Asked: the string is no longer than 2^30 bytes; for the program: the library's MaxLen holds a number. Helper contract over the model's FormatInt: for every int it returns the decimal numeral; it only makes new blocks of memory. The program's FormatInt returns the decimal numeral of every int, and so the law FnExactFormatInt returns true; asked: the library's table of powers of ten lies in memory as its initialiser lays it. A drawn region whose callees make memory and write nothing old, as one walk. Helper facts, no claim of its own. Helper contracts: what each line of a script does in the program: write, say, count, look, add; runLine. Asked: the text is no longer than 2^20; the builder and the sheets read as named; the library's MaxLen and table of powers of ten hold what their initialisers lay. -/
import Derived.Test.YtpkicliimhflgaaGreatDoorMf2
import Derived.Test.YtpkicliimhflgaaGreatDoorMf1
import Derived.Laws.IdiomStrings
import Derived.Laws.BytesArg
import Derived.Test.YtpkicliimhflgaaGreatDoorMf10
import Derived.Test.YtpkicliimhflgaaGreatDoorShelf
import Derived.Lib.Replace
import Derived.Test.YtpkicliimhflgaaGreatDoorRows
import Derived.WalkKit
import Derived.ProofKit
import Derived.OpenShut
import Derived.LoopTactic
import Derived.Lib.Hide
import Derived.Lib.ItoaNum
import Derived.Below
import Derived.Lib.AppendIntMem
import Derived.BigQuiet
import Derived.Deep.QuietTactic
import Derived.Test.YtpkicliimhflgaaGreatDoorMf9
import Derived.Test.YtpkicliimhflgaaGreatDoorMf13
import Derived.Test.YtpkicliimhflgaaGreatDoorMf14
import Derived.Test.YtpkicliimhflgaaGreatDoorMf11
import Derived.Lib.ItoaLen
import Derived.Laws.EntriesVeiled
namespace Go.Proofs.YtpkicliimhflgaaGreatDoor

open Go.ChangeShapes Go.WideShapes Go.ChangeAt Go.RowKit

def mkC (c : UInt8) : UInt8 := if c = 91 then 60 else if c = 93 then 62 else c
def mkU (s : ByteArray) : ByteArray := ofL (s.data.toList.map mkC)
theorem mkC_91 : mkC 91 = 60 := rfl
theorem mkC_93 : mkC 93 = 62 := rfl
theorem mkC_no {c : UInt8} (h1 : c ≠ 91) (h2 : c ≠ 93) : mkC c = c := by unfold mkC; rw [if_neg h1, if_neg h2]
theorem mkC_two (c : UInt8) : mkC (mkC c) = mkC c := by
  by_cases h1 : c = 91
  · subst h1; rfl
  by_cases h2 : c = 93
  · subst h2; rfl
  rw [mkC_no h1 h2, mkC_no h1 h2]
theorem mkU_size (s : ByteArray) : (mkU s).size = s.size := by
  have h : (mkU s).size = (s.data.toList.map mkC).length := ofL_size _
  rw [h, List.length_map, size_list]
theorem mkU_list (s : ByteArray) : (mkU s).data.toList = s.data.toList.map mkC := ofL_list _
theorem mkU_two (s : ByteArray) : mkU (mkU s) = mkU s := by
  refine bytesEq ?_
  rw [mkU_list, mkU_list, List.map_map]
  exact List.map_congr_left fun c _ => mkC_two c
/-- The byte at j, when k bytes have been looked at. -/
def mAt (s : ByteArray) (k j : Nat) : UInt8 := if j < k then mkC (s.data.toList.getD j 0) else s.data.toList.getD j 0
theorem mAt_else {s : ByteArray} {k j : Nat} (h : j ≠ k) : mAt s (k + 1) j = mAt s k j := by
  unfold mAt
  by_cases h1 : j < k
  · rw [if_pos h1, if_pos (by omega)]
  · rw [if_neg h1, if_neg (by omega)]
theorem mAt_new (s : ByteArray) (k : Nat) : mAt s (k + 1) k = mkC (s.data.toList.getD k 0) := by unfold mAt; rw [if_pos (by omega)]
theorem mAt_old (s : ByteArray) (k : Nat) : mAt s k k = s.data.toList.getD k 0 := by unfold mAt; rw [if_neg (by omega)]
theorem mAt_full {s : ByteArray} {k : Nat} (h : k = s.size) : strOfNums ((List.range k).map fun j => ((mAt s k j).toNat : Int)) = mkU s := by
  subst h
  refine bytesEq ?_
  rw [strOfNums_data, mkU_list, List.map_map]
  apply List.ext_getElem?
  intro i
  rw [List.getElem?_map, List.getElem?_map]
  by_cases hi : i < s.size
  · have h1 : s.data.toList[i]? = some (s.data.toList.getD i 0) := by
      rw [List.getD_eq_getElem?_getD, List.getElem?_eq_getElem (by rw [size_list]; exact hi)]; rfl
    rw [h1, List.getElem?_range hi]
    simp [hi, mAt]
  · have h1 : s.data.toList[i]? = none := List.getElem?_eq_none (by rw [size_list]; omega)
    rw [h1]
    simp [hi]
/-- What stands in the model's loop. -/
structure MkL (s : ByteArray) (b k : Nat) (w wr : World) : Prop where
  c : ∀ j, j < s.size → wr.cell? ⟨b, j, none⟩ = some (.int .u8 ((mAt s k j).toNat : Int))
  f : ∀ j, j < s.size → wr.frozen? ⟨b, j, none⟩ = false
  l : w.heap.size ≤ b
  bl : Below w.heap.size w wr
theorem addr_ne {b j k : Nat} (h : j ≠ k) : (⟨b, k, none⟩ : Addr) ≠ ⟨b, j, none⟩ := fun e => by injection e with _ e2 _; exact h e2.symm
theorem MkL.put {s : ByteArray} {b k : Nat} {w wr : World} {n : Int} (h : MkL s b k w wr) (hk : k < s.size) (hn : n = ((mkC (s.data.toList.getD k 0)).toNat : Int)) : MkL s b (k + 1) w (wr.setCell ⟨b, k, none⟩ (.int .u8 n)) := by
  subst hn
  refine ⟨fun j hj => ?_, fun j hj => ?_, h.l, h.bl.setCell h.l _⟩
  · by_cases e : j = k
    · subst e
      rw [World.cell?_setCell_same _ _ _ (h.c j hj), mAt_new]
    · rw [World.cell?_setCell_other _ _ _ _ (addr_ne e), mAt_else e]; exact h.c j hj
  · exact (World.frozen?_setCell _ _ _ _).trans (h.f j hj)
theorem MkL.skip {s : ByteArray} {b k : Nat} {w wr : World} (h : MkL s b k w wr) (hn : mkC (s.data.toList.getD k 0) = s.data.toList.getD k 0) : MkL s b (k + 1) w wr := by
  refine ⟨fun j hj => ?_, h.f, h.l, h.bl⟩
  by_cases e : j = k
  · subst e
    rw [mAt_new, hn, ← mAt_old]; exact h.c j hj
  · rw [mAt_else e]; exact h.c j hj
theorem mkL_start (s : ByteArray) (w : World) (c : Nat) :
    MkL s w.heap.size 0 w (w.drew.alloc (.cells (bytesRow s c) 5 ((bytesRow s c).size, (bytesRow s c).size + 1))) := by
  obtain ⟨w1, hw1⟩ : ∃ x, w.drew.alloc (.cells (bytesRow s c) 5 ((bytesRow s c).size, (bytesRow s c).size + 1)) = x := ⟨_, rfl⟩
  have h3 : w1.heap[w.heap.size]? = some (.cells (bytesRow s c) 5 ((bytesRow s c).size, (bytesRow s c).size + 1)) := by
    rw [← hw1]
    show (w.heap.push _)[w.heap.size]? = _
    simp
  have hb : Below w.heap.size w w1 := by rw [← hw1]; exact (Below.refl _ _).drew.alloc (Nat.le_refl _) _
  have hz : s.size ≤ (bytesRow s c).size := by unfold bytesRow; rw [Array.size_append, Array.size_map]; exact Nat.le_add_right _ _
  rw [hw1]
  refine ⟨fun j hj => ?_, fun j hj => ?_, Nat.le_refl _, hb⟩
  · have hj2 : j < s.data.size := hj
    have h4 : (bytesRow s c)[j]? = some (.int .u8 (s.data[j].toNat : Int)) := by
      unfold bytesRow
      rw [Array.getElem?_append_left (by simpa using hj2), Array.getElem?_map, Array.getElem?_eq_getElem hj2]
      rfl
    have h5 : mAt s 0 j = s.data[j] := by
      unfold mAt
      rw [if_neg (by omega), List.getD_eq_getElem?_getD, Array.getElem?_toList, Array.getElem?_eq_getElem hj2]; rfl
    rw [h5]
    unfold World.cell?
    rw [h3]
    simpa using h4
  · unfold World.frozen?
    rw [h3]
    simp
    omega
theorem byte_int {s : ByteArray} {k : Nat} : (0 : Int) ≤ ((s.data.toList.getD k 0).toNat : Int) ∧ ((s.data.toList.getD k 0).toNat : Int) < 256 := by
  have := (s.data.toList.getD k 0).toNat_lt
  omega
theorem u8_int {c d : UInt8} (h : (c.toNat : Int) = (d.toNat : Int)) : c = d := UInt8.toNat_inj.1 (by omega)

end Go.Proofs.YtpkicliimhflgaaGreatDoor
namespace Go.Proofs.YtpkicliimhflgaaGreatDoor
open Go.ChangeShapes Go.WideShapes Go.ChangeAt Go.RowKit

/-- The library's MaxLen holds a number. -/
def Max0 (w : World) : Prop := ∃ m, w.cell? ⟨0, 0, none⟩ = some (.int .i64 m)
theorem Max0.on {w w' : World} (h : Max0 w) (hb : Below w.heap.size w w') : Max0 w' := by
  obtain ⟨m, hm⟩ := h
  exact ⟨m, (hb.cell (World.block_lt_of_cell? _ _ hm)).trans hm⟩

end Go.Proofs.YtpkicliimhflgaaGreatDoor
namespace Go.Proofs.YtpkicliimhflgaaGreatDoor
open Go.ChangeShapes Go.WideShapes Go.ChangeAt Go.RowKit

def subB (a b c : UInt8) : UInt8 := if c = a then b else c
theorem replaceK_one (a b : UInt8) (l : List UInt8) : Lib.replaceK [a] [b] (Lib.count l [a]) l = l.map (subB a b) := by
  generalize hn : l.length = n
  induction n using Nat.strongRecOn generalizing l with
  | _ n ih =>
    by_cases h : idxB a l < l.length
    · have hix : Lib.index l [a] = ((idxB a l : Nat) : Int) := by rw [index_idx, if_pos h]
      rw [Lib.count_hit (by simp) hix, Nat.add_comm, Lib.replaceK_hit _ _ _ _ _ hix]
      rw [show ([a] : List UInt8).length = 1 from rfl, ih (l.drop (idxB a l + 1)).length (by rw [List.length_drop]; omega) _ rfl]
      conv => rhs; rw [← List.take_append_drop (idxB a l) l, List.drop_eq_getElem_cons h]
      have hat : l[idxB a l] = a := by have := idxB_at h; rw [List.getElem?_eq_getElem h] at this; exact Option.some.inj this
      rw [List.map_append, List.map_cons, hat, show subB a b a = b by unfold subB; rw [if_pos rfl], List.append_assoc]
      congr 1
      conv => lhs; rw [← List.map_id (l.take (idxB a l))]
      refine List.map_congr_left fun c hc => ?_
      obtain ⟨j, hj⟩ := List.mem_iff_getElem?.1 hc
      have hjl : j < idxB a l := by have := (List.getElem?_eq_some_iff.1 hj).1; rw [List.length_take] at this; omega
      rw [List.getElem?_take, if_pos hjl] at hj
      have : c ≠ a := fun e => idxB_before hjl (by rw [hj, e])
      unfold subB; rw [if_neg this]; rfl
    · have hix : Lib.index l [a] = -1 := by rw [index_idx, if_neg h]
      rw [Lib.count_miss hix, Lib.replaceK]
      conv => lhs; rw [← List.map_id l]
      refine List.map_congr_left fun c hc => ?_
      obtain ⟨j, hj⟩ := List.mem_iff_getElem?.1 hc
      have hjl := (List.getElem?_eq_some_iff.1 hj).1
      have : c ≠ a := fun e => idxB_before (c := a) (l := l) (j := j) (by omega) (by rw [hj, e])
      unfold subB; rw [if_neg this]; rfl
theorem replaceAll_one {a b : UInt8} (h : a ≠ b) (l : List UInt8) : Lib.replaceAll l [a] [b] = l.map (subB a b) := by
  unfold Lib.replaceAll Lib.replace Lib.replaceNum
  rw [if_neg (by simpa using h), if_pos (Or.inl (by decide)), replaceK_one]
theorem sub_two (c : UInt8) : subB 93 62 (subB 91 60 c) = mkC c := by
  by_cases h1 : c = 91
  · subst h1; rfl
  by_cases h2 : c = 93
  · subst h2; rfl
  rw [mkC_no h1 h2]
  unfold subB; rw [if_neg h1, if_neg h2]
def subS (a b : UInt8) (s : ByteArray) : ByteArray := ofL (s.data.toList.map (subB a b))
theorem subS_two (s : ByteArray) : subS 93 62 (subS 91 60 s) = mkU s := by
  refine bytesEq ?_
  show ((s.data.toList.map (subB 91 60)).map (subB 93 62)) = s.data.toList.map mkC
  rw [List.map_map]
  exact List.map_congr_left fun c _ => sub_two c
theorem subS_size (a b : UInt8) (s : ByteArray) : (subS a b s).size = s.size := by
  have h : (subS a b s).size = (s.data.toList.map (subB a b)).length := ofL_size _
  rw [h, List.length_map, size_list]

theorem count_le1 (c : UInt8) (l : List UInt8) : Lib.count l [c] ≤ l.length := by
  generalize hn : l.length = n
  induction n using Nat.strongRecOn generalizing l with
  | _ n ih =>
    by_cases h : idxB c l < l.length
    · have hix : Lib.index l [c] = ((idxB c l : Nat) : Int) := by rw [index_idx, if_pos h]
      rw [Lib.count_hit (by simp) hix, show ([c] : List UInt8).length = 1 from rfl]
      have := ih (l.drop (idxB c l + 1)).length (by rw [List.length_drop]; omega) _ rfl
      rw [List.length_drop] at this
      omega
    · have hix : Lib.index l [c] = -1 := by rw [index_idx, if_neg h]
      rw [Lib.count_miss hix]; exact Nat.zero_le _
theorem max0_of {w : World} (h : w.ShapedOpen Tryz.prog) : Max0 w := Tryz.laysM155.s1_3 w h
theorem rep_any {a b : UInt8} (hab : a ≠ b) (s : ByteArray) (hs : s.size ≤ 1073741824) (w : World) (hm : Max0 w) :
    Calls Tryz.prog 199 #[.string s, .string ⟨#[a]⟩, .string ⟨#[b]⟩] w fun e w' => e = .returned (.string (subS a b s)) ∧ Below w.heap.size w w' := by
  obtain ⟨m, hm⟩ := hm
  refine (Tryz.strings_ReplaceAll s ⟨#[a]⟩ ⟨#[b]⟩ m w (by omega) hm (Nat.le_refl 1) ?_).mono ?_
  · have h1 : Lib.countB s ⟨#[a]⟩ ≤ s.size := by
      have : Lib.countB s ⟨#[a]⟩ = Lib.count s.data.toList [a] := rfl
      rw [this, ← size_list]; exact count_le1 a _
    have h2 : (⟨#[b]⟩ : ByteArray).size = 1 := rfl
    rw [h2]; omega
  · rintro e w' ⟨rfl, hb⟩
    refine ⟨?_, hb⟩
    rw [show (⟨#[a]⟩ : ByteArray).data.toList = [a] from rfl, show (⟨#[b]⟩ : ByteArray).data.toList = [b] from rfl, replaceAll_one hab]
    rfl

theorem markup_impl (s : ByteArray) (hs : s.size ≤ 1073741824) (w : World) (hm : Max0 w) :
    Calls Tryz.prog 189 #[.string s] w fun e w' => e = .returned (.string (mkU s)) ∧ Below w.heap.size w w' := by
  have HM := Lib.hid hm; clear hm
  have HT := Lib.hid (subS_two s)
  go_enter Tryz.func189, Tryz.ntmps189
  go_wp2_with fail
  refine (rep_any (a := 91) (b := 60) (by decide) s hs _ HM.out).mono ?_
  rintro e w1 ⟨rfl, hb1⟩
  have HM1 := Lib.hid (HM.out.on hb1); have HB1 := Lib.hid hb1; clear hb1
  go_wp2_with fail
  refine (rep_any (a := 93) (b := 62) (by decide) _ (by rw [subS_size]; exact hs) _ HM1.out).mono ?_
  rintro e w2 ⟨rfl, hb2⟩
  have HB2 := Lib.hid (HB1.out.trans (hb2.mono HB1.out.size)); clear hb2
  rw [HT.out]
  go_wp2
  go_ret
  exact ⟨rfl, HB2.out⟩

set_option maxRecDepth 100000 in
set_option maxHeartbeats 2000000 in
theorem markup_spec (s : ByteArray) (hs : s.size ≤ 1073741824) (w : World) :
    Calls Tryz.prog 69 #[.string s] w fun e w' => e = .returned (.string (mkU s)) ∧ Below w.heap.size w w' := by
  have hcv := run_bytes_of_string (P := Tryz.prog) w 9 22 5 s Tryz.underlying9 Tryz.underlying22 Tryz.underlying5
  have hc1 : s.size ≤ grownCap w s.size 0 5 := grownCap_ge _ _ _ _
  have hc2 : grownCap w s.size 0 5 ≤ maxLen := grownCap_le_maxLen _ _ _ _ (by unfold maxLen; omega)
  unfold maxLen at hc2
  obtain ⟨c, hc⟩ : ∃ c, grownCap w s.size 0 5 = c := ⟨_, rfl⟩
  rw [hc] at hcv hc1 hc2
  have HML := Lib.hid (mkL_start s w c)
  obtain ⟨w1, hw1⟩ : ∃ w1, w.drew.alloc (.cells (bytesRow s c) 5 ((bytesRow s c).size, (bytesRow s c).size + 1)) = w1 := ⟨_, rfl⟩
  rw [hw1] at hcv HML
  obtain ⟨n, hn⟩ : ∃ n, s.size = n := ⟨_, rfl⟩
  have HN := Lib.hid hn
  rw [hn] at hs hc1 hcv
  have HF := Lib.hid (mAt_full (s := s) (k := n) hn.symm)
  clear hc hw1 hn
  go_enter Tryz.func69, Tryz.ntmps69
  go_wp2
  go_loopw [4] (fun i wr => ∃ (k : Nat), k ≤ n ∧ i = .int .i64 k ∧ MkL s w.heap.size k w wr)
    (fun i _ => n - (intOf i).toNat)
  case atStart => exact ⟨0, Nat.zero_le _, rfl, HML.out⟩
  case round =>
    obtain ⟨k, hk, rfl, hm⟩ := hrel
    have HM := Lib.hid hm; clear hm HML
    by_cases hlt : (k : Int) < (n : Int)
    · have hks : k < s.size := by rw [HN.out]; omega
      have d0 := HM.out.c k hks
      have f0 := HM.out.f k hks
      rw [mAt_old] at d0
      obtain ⟨b, hb⟩ : ∃ b, s.data.toList.getD k 0 = b := ⟨_, rfl⟩
      have hb8 : (b.toNat : Int) < 256 := by have := b.toNat_lt; omega
      rw [hb] at d0
      have HB := Lib.hid hb; clear hb
      by_cases h1 : b = 91
      · have HP := Lib.hid (HM.out.put (n := 60) hks (by rw [HB.out, h1]; rfl))
        subst h1
        go_wp2
        go_roundw
        case rel => exact ⟨k + 1, by omega, by go_num, HP.out⟩
        case measure => simp [intOf] <;> omega
      by_cases h2 : b = 93
      · have HP := Lib.hid (HM.out.put (n := 62) hks (by rw [HB.out, h2]; rfl))
        subst h2
        go_wp2
        go_roundw
        case rel => exact ⟨k + 1, by omega, by go_num, HP.out⟩
        case measure => simp [intOf] <;> omega
      have HP := Lib.hid (HM.out.skip (by rw [HB.out]; exact mkC_no h1 h2))
      have q1 : ((b.toNat : Int) == 91) = false := beq_eq_false_iff_ne.2 fun e => h1 (UInt8.toNat_inj.1 (show b.toNat = 91 by omega))
      have q2 : ((b.toNat : Int) == 93) = false := beq_eq_false_iff_ne.2 fun e => h2 (UInt8.toNat_inj.1 (show b.toNat = 93 by omega))
      clear h1 h2
      go_wp2
      go_roundw
      case rel => exact ⟨k + 1, by omega, by go_num, HP.out⟩
      case measure => simp [intOf] <;> omega
    · have hkn : k = n := by omega
      subst hkn
      have hcc := run_convert_bytes_arg (P := Tryz.prog) wr 22 5 Tryz.underlying22 Tryz.underlying5 w.heap.size 0 k c ((List.range k).map fun j => ((mAt s k j).toNat : Int)) (by simp) (fun i hi => by
        rw [Nat.zero_add, HM.out.c i (by rw [HN.out]; exact hi)]
        simp [hi]) 9 Tryz.underlying9
      rw [HF.out] at hcc
      go_wp2
      go_ret
      exact ⟨rfl, HM.out.bl⟩

end Go.Proofs.YtpkicliimhflgaaGreatDoor
namespace Go.Proofs.YtpkicliimhflgaaGreatDoor
open Go.ChangeShapes Go.WideShapes Go.ChangeAt Go.RowKit

def digF (u : Nat) : UInt8 := UInt8.ofNat (48 + u % 10)
def ddF (u : Nat) : List UInt8 := if u = 0 then [] else Lib.decDigits u
theorem dd_zeroF : ddF 0 = [] := rfl
theorem dd_posF {u : Nat} (h : u ≠ 0) : ddF u = Lib.decDigits u := by unfold ddF; rw [if_neg h]
theorem dd_stepF {u : Nat} (h : u ≠ 0) : ddF u = ddF (u / 10) ++ [digF u] := by
  rw [dd_posF h, Lib.decDigits]
  by_cases h1 : u < 10
  · rw [dif_pos h1, show u / 10 = 0 by omega, dd_zeroF]; unfold digF; rw [show u % 10 = u by omega]; rfl
  · rw [dif_neg h1, dd_posF (by omega)]; rfl
theorem dec_lenF (u : Nat) (h : u < 18446744073709551616) : (Lib.decDigits u).length ≤ 20 := by
  rw [Lib.decDigits_length]
  by_cases h0 : u = 0
  · subst h0; rw [Lib.nDigits_small (by decide)]; decide
  · have h1 := Lib.nDigits_unique
    have h2 : Lib.nDigits u ≤ 20 := by
      have hp := Lib.nDigits_pos u
      by_cases h3 : Lib.nDigits u ≤ 20
      · exact h3
      · exfalso
        have := (Lib.numDigits_eq u (by omega) h)
        obtain ⟨e, l⟩ := this
        split at e <;> omega
    exact h2
theorem conv1F (W : World) (c : Int) (h0 : 0 ≤ c) (h1 : c < 256) :
    (convert 22 9 (.slice (some ⟨W.heap.size, 0, none⟩) 1 1)).run Tryz.prog (W.alloc (.cells #[.int .u8 c] 5)) = .ok (.string ⟨#[UInt8.ofNat c.toNat]⟩) (W.alloc (.cells #[.int .u8 c] 5)) := by
  have := run_convert_bytes_back (P := Tryz.prog) (W.alloc (.cells #[.int .u8 c] 5)) 22 9 5 ⟨W.heap.size, 0, none⟩ 1 [UInt8.ofNat c.toNat] Tryz.underlying22 Tryz.underlying5 Tryz.underlying9 (by
    intro j hj
    simp at hj
    subst hj
    have h2 : ((UInt8.ofNat c.toNat).toNat : Int) = c := by
      simp; omega
    simp only [Addr.add, List.getElem_cons_zero, h2]
    simp [go_sem])
  simpa using this

theorem digit_eqF (u : Nat) : UInt8.ofNat (48 + (u : Int) % 10).toNat = digF u := by
  rw [show (48 + (u : Int) % 10).toNat = 48 + u % 10 from by omega]; rfl
theorem digit_eq' (u : Nat) (h : u % 10 = 0) : UInt8.ofNat (48 + -((u : Int) % 10)).toNat = digF u := by
  rw [show (48 + -((u : Int) % 10)).toNat = 48 + u % 10 from by omega]; rfl
theorem cat1F (c : UInt8) (t : List UInt8) : (ByteArray.mk #[c] ++ ByteArray.mk t.toArray) = ByteArray.mk (c :: t).toArray := by
  apply ByteArray.ext; simp [ByteArray.data_append]
theorem len_tF {m u : Nat} {t : List UInt8} (h : ddF u ++ t = Lib.decDigits m) (hm : m < 18446744073709551616) : t.length ≤ 20 := by
  have h1 := dec_lenF m hm
  rw [← h, List.length_append] at h1
  omega

set_option maxRecDepth 100000 in
set_option maxHeartbeats 2000000 in
theorem fmt_pos (m : Nat) (hm : m ≠ 0) (hb : m ≤ 9223372036854775807) (w : World) :
    Calls Tryz.prog 72 #[.int .i64 m] w fun e w' => e = .returned (.string ⟨(Lib.decDigits m).toArray⟩) ∧ Below w.heap.size w w' := by
  have h0 : ((m : Int) == 0) = false := by simp; omega
  go_enter Tryz.func72, Tryz.ntmps72
  go_wp2
  go_loopw [3, 4] (fun s x wr => ∃ (u : Nat) (t : List UInt8), x = .int .i64 u ∧ s = .string ⟨t.toArray⟩ ∧ ddF u ++ t = Lib.decDigits m ∧ u ≤ m ∧ Below w.heap.size w wr) (fun _ x _ => (intOf x).toNat)
  case atStart => exact ⟨m, [], rfl, rfl, by rw [dd_posF hm]; simp, Nat.le_refl _, Below.refl _ _⟩
  case round =>
    obtain ⟨u, t, rfl, rfl, ht, hu, hbl⟩ := hrel
    have htl := len_tF ht (by omega)
    by_cases hz : u = 0
    · subst hz
      rw [dd_zeroF, List.nil_append] at ht
      have HT := Lib.hid ht; clear ht
      go_wp2
      go_ret
      exact ⟨by rw [HT.out]; rfl, hbl⟩
    · rw [dd_stepF hz, List.append_assoc] at ht
      have HT := Lib.hid ht; clear ht
      have hnz : ((u : Int) != 0) = true := by simp; omega
      have hcv := conv1F wr (48 + (u : Int) % 10) (by omega) (by omega)
      rw [digit_eqF] at hcv
      have hsz := hbl.size
      go_wp2
      go_roundw
      case rel => exact ⟨u / 10, digF u :: t, by go_num, by rw [cat1F], by rw [← HT.out]; simp, by omega, hbl.alloc hsz _⟩
      case measure => simp [intOf]; omega

set_option maxRecDepth 100000 in
set_option maxHeartbeats 2000000 in
theorem fmt_neg (m : Nat) (hm : m ≠ 0) (hb : m ≤ 9223372036854775808) (w : World) :
    Calls Tryz.prog 72 #[.int .i64 (-(m : Int))] w fun e w' => e = .returned (.string ⟨(45 :: Lib.decDigits m).toArray⟩) ∧ Below w.heap.size w w' := by
  have h0 : ((-(m : Int)) == 0) = false := by simp; omega
  go_enter Tryz.func72, Tryz.ntmps72
  go_wp2
  go_loopw [3, 4] (fun s x wr => ∃ (u : Nat) (t : List UInt8), x = .int .i64 (-(u : Int)) ∧ s = .string ⟨t.toArray⟩ ∧ ddF u ++ t = Lib.decDigits m ∧ u ≤ m ∧ Below w.heap.size w wr) (fun _ x _ => (-(intOf x)).toNat)
  case atStart => exact ⟨m, [], rfl, rfl, by rw [dd_posF hm]; simp, Nat.le_refl _, Below.refl _ _⟩
  case round =>
    obtain ⟨u, t, rfl, rfl, ht, hu, hbl⟩ := hrel
    have htl := len_tF ht (by omega)
    by_cases hz : u = 0
    · subst hz
      rw [dd_zeroF, List.nil_append] at ht
      have HT := Lib.hid ht; clear ht
      go_wp2
      go_ret
      exact ⟨by rw [HT.out]; rfl, hbl⟩
    · rw [dd_stepF hz, List.append_assoc] at ht
      have HT := Lib.hid ht; clear ht
      have hnz : ((-(u : Int)) != 0) = true := by simp; omega
      have hsz := hbl.size
      by_cases hd : 0 < (u : Int) % 10
      · have hcv := conv1F wr (48 + (u : Int) % 10) (by omega) (by omega)
        rw [digit_eqF] at hcv
        go_wp2
        go_roundw
        case rel => exact ⟨u / 10, digF u :: t, by go_num, by rw [cat1F], by rw [← HT.out]; simp, by omega, hbl.alloc hsz _⟩
        case measure => simp [intOf]; omega
      · have hcv := conv1F wr (48 + -((u : Int) % 10)) (by omega) (by omega)
        rw [digit_eq' u (by omega)] at hcv
        go_wp2
        go_roundw
        case rel => exact ⟨u / 10, digF u :: t, by go_num, by rw [cat1F], by rw [← HT.out]; simp, by omega, hbl.alloc hsz _⟩
        case measure => simp [intOf]; omega

theorem fmt_zero (w : World) :
    Calls Tryz.prog 72 #[.int .i64 0] w fun e w' => e = .returned (.string ⟨#[48]⟩) ∧ Below w.heap.size w w' := by
  go_enter Tryz.func72, Tryz.ntmps72
  go_wp2
  go_ret
  exact ⟨rfl, Below.refl _ _⟩

def fmtS (n : Int) : ByteArray := ⟨(Lib.itoa n).toArray⟩
theorem fmt_spec (n : Int) (h1 : -9223372036854775808 ≤ n) (h2 : n ≤ 9223372036854775807) (w : World) :
    Calls Tryz.prog 72 #[.int .i64 n] w fun e w' => e = .returned (.string (fmtS n)) ∧ Below w.heap.size w w' := by
  unfold fmtS Lib.itoa
  by_cases h : n < 0
  · obtain ⟨m, rfl⟩ : ∃ m : Nat, n = -(m : Int) := ⟨n.natAbs, by omega⟩
    rw [if_pos h, show (-(m : Int)).natAbs = m by omega]
    exact fmt_neg m (by omega) (by omega) w
  · obtain ⟨m, rfl⟩ : ∃ m : Nat, n = (m : Int) := ⟨n.natAbs, by omega⟩
    rw [if_neg h, Int.toNat_natCast]
    by_cases h0 : m = 0
    · subst h0
      refine (fmt_zero w).mono fun e w' ⟨he, hb⟩ => ⟨?_, hb⟩
      rw [he, Lib.decDigits_one (by decide)]
      rfl
    · exact fmt_pos m h0 (by omega) w

end Go.Proofs.YtpkicliimhflgaaGreatDoor
namespace Go.Proofs.YtpkicliimhflgaaGreatDoor
open Go.ChangeShapes Go.WideShapes Go.ChangeAt Go.RowKit

theorem fmt_impl (n : Int) (h0 : -9223372036854775808 ≤ n) (h1 : n ≤ 9223372036854775807) (w : World) (htab : Lib.TabIs Tryz.prog w "internal/strconv.uint64pow10" .u64 Lib.pow10Tab) :
    Calls Tryz.prog 191 #[.int .i64 n] w fun e w' => e = .returned (.string (fmtS n)) ∧ Below w.heap.size w w' := by
  go_enter Tryz.func191, Tryz.ntmps191
  go_wp2_with (go_at_call 200; refine (Tryz.strconv_Itoa n h0 h1 _ htab).mono ?_; rintro e w' ⟨rfl, k, os, rfl⟩)
  go_ret
  exact ⟨rfl, Lib.below_grow _ _ (Nat.le_refl _) k os⟩

end Go.Proofs.YtpkicliimhflgaaGreatDoor
namespace Go.Proofs.YtpkicliimhflgaaGreatDoor
open Go.ChangeShapes Go.WideShapes Go.ChangeAt Go.RowKit

/-- A world behind w in which of what lay in w nothing is written. -/
structure BelowBy (w : World) where
  at' : World
  hb : Below w.heap.size w at'
theorem wp_region_quiet_below {P : Program} {id : Nat} {Q : Exit → Act → World → Prop} {a : Act} {w : World} {l : List Oper} (hm : P.follows .mixedOrders = true) (hB : Region.lexB .any l.toArray = true)
    (h : wpQuiet P l.toArray (fun w' => ∃ p : BelowBy w, w' = p.at') (fun a' => ∀ w', (∃ p : BelowBy w, w' = p.at') → Q .normal a' w') l a) : (Code.region id l.toArray true).wp P Q a w :=
  wp_region_quiet (C := fun w' => ∃ p : BelowBy w, w' = p.at') hm hB ⟨⟨w.drew, (Below.refl _ w).drew⟩, rfl⟩ (by simpa using h)
theorem Calls.below_of {P : Program} {f : FuncId} {args : Array Value} {w : World} (p : BelowBy w) {v : Value} (h : Calls P f args p.at' fun e w' => e = .returned v ∧ Below p.at'.heap.size p.at' w') :
    Calls P f args p.at' fun e w'' => e = .returned v ∧ ∃ q : BelowBy w, w'' = q.at' :=
  h.mono fun _ w' ⟨he, hb⟩ => ⟨he, ⟨w', p.hb.trans (hb.mono p.hb.size)⟩, rfl⟩
theorem cell_below {w : World} {a : Addr} {v : Value} (hb : a.block < w.heap.size) (h : w.cell? a = some v) (p : BelowBy w) : p.at'.cell? a = some v := (p.hb.cell hb).trans h

end Go.Proofs.YtpkicliimhflgaaGreatDoor
namespace Go.Proofs.YtpkicliimhflgaaGreatDoor
open Go.ChangeShapes Go.WideShapes Go.ChangeAt Go.RowKit

theorem mixedR : Tryz.prog.follows .mixedOrders = true := by kernel_rfl
theorem fmtSR {n : Int} (h0 : -9223372036854775808 ≤ n) (h1 : n ≤ 9223372036854775807) : (fmtS n).size ≤ 100 := by
  have e : (fmtS n).size = (Lib.itoa n).length := by unfold fmtS; rw [ByteArray.size]; simp
  have := Lib.itoa_length_le n h0 h1
  omega
theorem flat_ok {ss : List Shv} (h : ∀ p ∈ ss, ∀ r ∈ p.1, RuOk r) : ∀ r ∈ flatR ss, RuOk r := fun r hr => by
  obtain ⟨p, hp, hpr⟩ := List.mem_flatMap.1 hr
  exact h p hp r hpr
/-- What a line logs: its form and, for count and look, a number. -/
def lgN (op : Int) (tx : ByteArray) (n : Int) : ByteArray := frmS (op, tx) ++ ⟨#[32]⟩ ++ fmtS n

set_option maxRecDepth 100000 in
set_option maxHeartbeats 4000000 in
theorem lwrite_any (op : Int) (tx : ByteArray) (c : Value) (v : Value) (hx : tx.size ≤ 1048576) (w : World) (hm : Max0 w) :
    Calls Tryz.prog 178 #[.agg #[.int .i64 op, .string tx], c, v] w fun e w' => e = .returned (.tuple #[.string (mkU tx), .string ⟨#[]⟩]) ∧ Below w.heap.size w w' := by
  have HM := Lib.hid hm; clear hm
  obtain ⟨W0, hW0⟩ : ∃ W, w.alloc (.cells #[.int .i64 op, .string tx] 51) = W := ⟨_, rfl⟩
  have HB := Lib.hid (show Below w.heap.size w W0 by rw [← hW0]; exact bl_aw (Below.refl _ _) _)
  have XL := Lib.hid (show W0.heap[w.heap.size]? = some (.cells #[.int .i64 op, .string tx] 51 (0, 0)) by rw [← hW0]; exact heap_alloc_new w _)
  have HW0 := Lib.hid hW0; clear hW0
  have y0 := box_cell XL.out (j := 0) rfl; have y1 := box_cell XL.out (j := 1) rfl
  go_enter Tryz.func178, Tryz.ntmps178
  go_wp2_with fail
  rw [HW0.out]
  refine (markup_impl tx (by omega) _ (HM.out.on HB.out)).mono ?_
  rintro e w1 ⟨rfl, hb⟩
  have HB1 := Lib.hid (HB.out.trans (hb.mono HB.out.size)); clear hb
  go_wp2_with fail
  go_ret2
  exact ⟨rfl, HB1.out⟩

set_option maxRecDepth 100000 in
set_option maxHeartbeats 4000000 in
theorem lsay_any (op : Int) (tx : ByteArray) (c : Value) (v : Value) (hx : tx.size ≤ 1048576) (w : World) :
    Calls Tryz.prog 182 #[.agg #[.int .i64 op, .string tx], c, v] w fun e w' => e = .returned (.tuple #[.string ⟨#[]⟩, .string (frmS (op, tx))]) ∧ Below w.heap.size w w' := by
  obtain ⟨W0, hW0⟩ : ∃ W, w.alloc (.cells #[.int .i64 op, .string tx] 51) = W := ⟨_, rfl⟩
  have HB := Lib.hid (show Below w.heap.size w W0 by rw [← hW0]; exact bl_aw (Below.refl _ _) _)
  have XL := Lib.hid (show W0.heap[w.heap.size]? = some (.cells #[.int .i64 op, .string tx] 51 (0, 0)) by rw [← hW0]; exact heap_alloc_new w _)
  have HW0 := Lib.hid hW0; clear hW0
  have y0 := box_cell XL.out (j := 0) rfl; have y1 := box_cell XL.out (j := 1) rfl
  go_enter Tryz.func182, Tryz.ntmps182
  go_wp2_with fail
  rw [HW0.out]
  refine (form_any op tx (by omega) _).mono ?_
  rintro e w1 ⟨rfl, hb⟩
  have HB1 := Lib.hid (HB.out.trans (hb.mono HB.out.size)); clear hb
  go_wp2_with fail
  go_ret2
  exact ⟨rfl, HB1.out⟩

set_option maxRecDepth 100000 in
set_option maxHeartbeats 4000000 in
theorem lcount_any (op : Int) (tx : ByteArray) (c : Nat) (nv ov : Value) (b : Bd) (v : Value) (hx : tx.size ≤ 1048576) (w : World) (hq : Box2 w c nv ov) (hb : BdIn w.heap.size w nv ov b) (hn : b.nodes.length ≤ 1099511627776) (htab : Lib.TabIs Tryz.prog w "internal/strconv.uint64pow10" .u64 Lib.pow10Tab) :
    Calls Tryz.prog 180 #[.agg #[.int .i64 op, .string tx], .pointer (some ⟨c, 0, none⟩), v] w fun e w' => e = .returned (.tuple #[.string ⟨#[]⟩, .string (lgN op tx (countName b.nodes tx : Int))]) ∧ Below w.heap.size w w' := by
  have HT := Lib.hid (Lib.tabBelow_of_tabIs htab); clear htab
  obtain ⟨W0, hW0⟩ : ∃ W, w.alloc (.cells #[.int .i64 op, .string tx] 51) = W := ⟨_, rfl⟩
  have HB := Lib.hid (show Below w.heap.size w W0 by rw [← hW0]; exact bl_aw (Below.refl _ _) _)
  have XL := Lib.hid (show W0.heap[w.heap.size]? = some (.cells #[.int .i64 op, .string tx] 51 (0, 0)) by rw [← hW0]; exact heap_alloc_new w _)
  have HW0 := Lib.hid hW0; clear hW0
  have HQB := Lib.hid (hq.below HB.out hq.lt); have HBI := Lib.hid (hb.up HB.out); clear hq hb
  have HQN := Lib.hid (fun (q : BelowBy W0) => (count_impl2 nv ov b tx q.at' (HBI.out.up q.hb)).mono fun _ _ h => And.imp_right Grw.below h)
  have hcl := count_le b.nodes tx
  have hN0 : (-9223372036854775808 : Int) ≤ (countName b.nodes tx : Int) := by omega
  have hN1 : (countName b.nodes tx : Int) ≤ 9223372036854775807 := by omega
  have hFz := frmS_size (op, tx)
  have HQF := Lib.hid (fun (q : BelowBy W0) => form_any op tx (by omega) q.at')
  obtain ⟨N, hN⟩ : ∃ N : Int, (countName b.nodes tx : Int) = N := ⟨_, rfl⟩
  rw [hN] at HQN hN0 hN1 ⊢
  have hSz := fmtSR hN0 hN1
  have HQS := Lib.hid (fun (q : BelowBy W0) => fmt_impl N hN0 hN1 q.at' (HT.out _ (HB.out.trans (q.hb.mono HB.out.size))))
  unfold lgN
  obtain ⟨F, hF⟩ : ∃ F, frmS (op, tx) = F := ⟨_, rfl⟩
  obtain ⟨S, hS⟩ : ∃ S, fmtS N = S := ⟨_, rfl⟩
  rw [hF] at HQF hFz ⊢; rw [hS] at HQS hSz ⊢
  have hFz2 : F.size ≤ 2000000 := by simp only at hFz; omega
  have h32 : (⟨#[32]⟩ : ByteArray).size = 1 := rfl
  have hsz : (F ++ (⟨#[32]⟩ : ByteArray)).size = F.size + 1 := by rw [ByteArray.size_append]; rfl
  have a1 : ∀ W, (Op.stringOp .add F ⟨#[32]⟩).run Tryz.prog W = .ok (.string (F ++ ⟨#[32]⟩)) W := fun W => run_string_add_sum _ _ _ (by omega)
  obtain ⟨G, hG⟩ : ∃ G, F ++ (⟨#[32]⟩ : ByteArray) = G := ⟨_, rfl⟩
  rw [hG] at a1 hsz ⊢
  have a2 : ∀ W, (Op.stringOp .add G S).run Tryz.prog W = .ok (.string (G ++ S)) W := fun W => run_string_add_sum _ _ _ (by omega)
  obtain ⟨R, hR⟩ : ∃ R, G ++ S = R := ⟨_, rfl⟩
  rw [hR] at a2 ⊢
  have hne : Nonempty (BelowBy W0) := ⟨⟨W0, Below.refl _ _⟩⟩
  have c0 := cell_below (w := W0) (heap_lt XL.out) (show W0.cell? ⟨w.heap.size, 0, none⟩ = some (.int .i64 op) from box_cell XL.out (j := 0) rfl)
  have c1 := cell_below (w := W0) (heap_lt XL.out) (show W0.cell? ⟨w.heap.size, 1, none⟩ = some (.string tx) from box_cell XL.out (j := 1) rfl)
  have d0 := cell_below (w := W0) HQB.out.lt HQB.out.cells.1.1; have d1 := cell_below (w := W0) HQB.out.lt HQB.out.cells.1.2
  clear hF hS hG hR hFz hFz2 hSz hsz h32 hN hN0 hN1
  go_enter Tryz.func180, Tryz.ntmps180
  go_upto_region 1 with (fail)
  rw [HW0.out]
  refine wp_region_quiet_below mixedR (by kernel_rfl) ?_
  repeat (go_big_quiet_step (first | (go_at_call 190; with_reducible refine Calls.below_of _ (HQF.out _)) | (go_at_call 192; with_reducible refine Calls.below_of _ (HQN.out _)) | (go_at_call 191; with_reducible refine Calls.below_of _ (HQS.out _))))
  refine wpQuiet_nil ?_
  intro _ hw'; obtain ⟨⟨wy, hbz2⟩, hw''⟩ := hw'; subst hw''
  go_wp2_with fail
  go_ret2
  exact ⟨rfl, HB.out.trans (hbz2.mono HB.out.size)⟩

set_option maxRecDepth 100000 in
set_option maxHeartbeats 4000000 in
theorem llook_any (op : Int) (tx : ByteArray) (c : Value) (v : Value) (ss : List Shv) (hx : tx.size ≤ 1048576) (w : World) (h : ReadH w.heap.size w v ss) (hn : ss.length ≤ 1099511627776) (hr : ∀ p ∈ ss, p.1.length ≤ 1099511627776) (hok : ∀ p ∈ ss, ∀ r ∈ p.1, RuOk r) (htot : (flatR ss).length ≤ 1099511627776) (htab : Lib.TabIs Tryz.prog w "internal/strconv.uint64pow10" .u64 Lib.pow10Tab) :
    Calls Tryz.prog 181 #[.agg #[.int .i64 op, .string tx], c, v] w fun e w' => e = .returned (.tuple #[.string ⟨#[]⟩, .string (lgN op tx (colOf (flatR ss) tx))]) ∧ Below w.heap.size w w' := by
  have HT := Lib.hid (Lib.tabBelow_of_tabIs htab); clear htab
  obtain ⟨W0, hW0⟩ : ∃ W, w.alloc (.cells #[.int .i64 op, .string tx] 51) = W := ⟨_, rfl⟩
  have HB := Lib.hid (show Below w.heap.size w W0 by rw [← hW0]; exact bl_aw (Below.refl _ _) _)
  have XL := Lib.hid (show W0.heap[w.heap.size]? = some (.cells #[.int .i64 op, .string tx] 51 (0, 0)) by rw [← hW0]; exact heap_alloc_new w _)
  have HW0 := Lib.hid hW0; clear hW0
  have HRH := Lib.hid (h.up HB.out); clear h
  have HQN := Lib.hid (fun (q : BelowBy W0) => colorOf_impl v ss tx (by omega) q.at' (HRH.out.up q.hb) hn hr hok htot)
  have hN0 : (-9223372036854775808 : Int) ≤ colOf (flatR ss) tx := (colOf_range (flat_ok hok)).1
  have hN1 : colOf (flatR ss) tx ≤ (9223372036854775807 : Int) := (colOf_range (flat_ok hok)).2
  clear hn hr hok htot
  have hFz := frmS_size (op, tx)
  have HQF := Lib.hid (fun (q : BelowBy W0) => form_any op tx (by omega) q.at')
  obtain ⟨N, hN⟩ : ∃ N : Int, (colOf (flatR ss) tx) = N := ⟨_, rfl⟩
  rw [hN] at HQN hN0 hN1 ⊢
  have hSz := fmtSR hN0 hN1
  have HQS := Lib.hid (fun (q : BelowBy W0) => fmt_impl N hN0 hN1 q.at' (HT.out _ (HB.out.trans (q.hb.mono HB.out.size))))
  unfold lgN
  obtain ⟨F, hF⟩ : ∃ F, frmS (op, tx) = F := ⟨_, rfl⟩
  obtain ⟨S, hS⟩ : ∃ S, fmtS N = S := ⟨_, rfl⟩
  rw [hF] at HQF hFz ⊢; rw [hS] at HQS hSz ⊢
  have hFz2 : F.size ≤ 2000000 := by simp only at hFz; omega
  have h32 : (⟨#[32]⟩ : ByteArray).size = 1 := rfl
  have hsz : (F ++ (⟨#[32]⟩ : ByteArray)).size = F.size + 1 := by rw [ByteArray.size_append]; rfl
  have a1 : ∀ W, (Op.stringOp .add F ⟨#[32]⟩).run Tryz.prog W = .ok (.string (F ++ ⟨#[32]⟩)) W := fun W => run_string_add_sum _ _ _ (by omega)
  obtain ⟨G, hG⟩ : ∃ G, F ++ (⟨#[32]⟩ : ByteArray) = G := ⟨_, rfl⟩
  rw [hG] at a1 hsz ⊢
  have a2 : ∀ W, (Op.stringOp .add G S).run Tryz.prog W = .ok (.string (G ++ S)) W := fun W => run_string_add_sum _ _ _ (by omega)
  obtain ⟨R, hR⟩ : ∃ R, G ++ S = R := ⟨_, rfl⟩
  rw [hR] at a2 ⊢
  have hne : Nonempty (BelowBy W0) := ⟨⟨W0, Below.refl _ _⟩⟩
  have c0 := cell_below (w := W0) (heap_lt XL.out) (show W0.cell? ⟨w.heap.size, 0, none⟩ = some (.int .i64 op) from box_cell XL.out (j := 0) rfl)
  have c1 := cell_below (w := W0) (heap_lt XL.out) (show W0.cell? ⟨w.heap.size, 1, none⟩ = some (.string tx) from box_cell XL.out (j := 1) rfl)
  clear hF hS hG hR hFz hFz2 hSz hsz h32 hN hN0 hN1
  go_enter Tryz.func181, Tryz.ntmps181
  go_upto_region 1 with (fail)
  rw [HW0.out]
  refine wp_region_quiet_below mixedR (by kernel_rfl) ?_
  repeat (go_big_quiet_step (first | (go_at_call 190; with_reducible refine Calls.below_of _ (HQF.out _)) | (go_at_call 193; with_reducible refine Calls.below_of _ (HQN.out _)) | (go_at_call 191; with_reducible refine Calls.below_of _ (HQS.out _))))
  refine wpQuiet_nil ?_
  intro _ hw'; obtain ⟨⟨wy, hbz2⟩, hw''⟩ := hw'; subst hw''
  go_wp2_with fail
  go_ret2
  exact ⟨rfl, HB.out.trans (hbz2.mono HB.out.size)⟩

/-- Blocks of other types than a builder's box and a row of nodes are as they were. -/
def KeepX (w w' : World) : Prop := ∀ (g : Nat) (cs : Array Value) (T : TypeId), T ≠ 41 → T ≠ 117 → w.heap[g]? = some (.cells cs T (0, 0)) → w'.heap[g]? = some (.cells cs T (0, 0))
theorem KeepX.refl (w : World) : KeepX w w := fun _ _ _ _ _ h => h
theorem KeepX.trans {w w1 w2 : World} (h : KeepX w w1) (k : KeepX w1 w2) : KeepX w w2 := fun g cs T h1 h2 hg => k g cs T h1 h2 (h g cs T h1 h2 hg)
theorem KeepX.below {w w' : World} (h : Below w.heap.size w w') : KeepX w w' := fun _ _ _ _ _ hg => below_heap h (heap_lt hg) hg
theorem KeepX.keep {w w' : World} (h : KeepT 117 w w') : KeepX w w' := fun g cs T _ h2 hg => h g cs T h2 hg
theorem KeepX.set {w w' : World} {c o : Nat} {x y u : Value} (h : KeepX w w') (hc : Box2 w' c x y) : KeepX w (w'.setCell ⟨c, o, none⟩ u) := fun g cs T h1 h2 hg => by
  have h3 := h g cs T h1 h2 hg
  by_cases e : g = c
  · subst e
    have h4 : w'.heap[g]? = some (.cells #[x, y] 41 (0, 0)) := hc
    rw [h3] at h4
    injection h4 with h5
    injection h5 with _ h6 _
    exact absurd h6 h1
  · rw [Below.heap_setCell _ _ _ _ (show g ≠ c from e)]; exact h3
/-- The nodes behind an 'add'. -/
def addN (ns : List Nv) (tx : ByteArray) : List Nv := if 1 ≤ ns.length ∧ ns.length ≤ 39 ∧ isNm tx = true then ns ++ [((⟨tx, ⟨#[]⟩, 0, []⟩, svNil) : Nv)] else ns
set_option maxRecDepth 100000 in
set_option maxHeartbeats 4000000 in
theorem ladd_any {B : Nat} {w0 w : World} (op : Int) (tx : ByteArray) (v : Value) {c : Nat} {nv ov : Value} {ns : List Nv} {zs : List Int} (hx : tx.size ≤ 1048576) (hq : Box2 w c nv ov) (hB : B ≤ c) (h : BdM B w0 w nv ov ns zs) (hln : ns.length ≤ 68719476736) :
    Calls Tryz.prog 179 #[.agg #[.int .i64 op, .string tx], .pointer (some ⟨c, 0, none⟩), v] w fun e w' => e = .returned (.tuple #[.string ⟨#[]⟩, .string ⟨#[]⟩]) ∧ ∃ nv' ov', Box2 w' c nv' ov' ∧ Upd c w w' ∧ BdM B w0 w' nv' ov' (addN ns tx) zs ∧ KeepX w w' := by
  obtain ⟨na, nc, rfl⟩ := mineN_form h.n
  obtain ⟨oa, oc, rfl⟩ := mine_form h.o
  obtain ⟨n, hn⟩ : ∃ n, ns.length = n := ⟨_, rfl⟩
  obtain ⟨on, hon⟩ : ∃ n, zs.length = n := ⟨_, rfl⟩
  rw [hn] at h hln hq; rw [hon] at h hq
  obtain ⟨W0, hW0⟩ : ∃ W, w.alloc (.cells #[.int .i64 op, .string tx] 51) = W := ⟨_, rfl⟩
  have HB := Lib.hid (show Below w.heap.size w W0 by rw [← hW0]; exact bl_aw (Below.refl _ _) _)
  have XL := Lib.hid (show W0.heap[w.heap.size]? = some (.cells #[.int .i64 op, .string tx] 51 (0, 0)) by rw [← hW0]; exact heap_alloc_new w _)
  have HW0 := Lib.hid hW0; clear hW0
  have HBD := Lib.hid (h.later HB.out); have HQ1 := Lib.hid (hq.later HB.out); have HU1 := Lib.hid (Upd.below (c := c) HB.out); have HN := Lib.hid hn; have HBc := Lib.hid hB; clear h hq hn hB hon
  have HND := Lib.hid (show (insN ns ++ insN [((⟨tx, ⟨#[]⟩, 0, []⟩, svNil) : Nv)]).Nodup from by have := HBD.out.n.nod; simpa [insN, sv, svNil, Value.ownBlock] using this)
  obtain ⟨⟨d0, d1⟩, fd0, fd1⟩ := HQ1.out.cells
  have bc1 : c < W0.heap.size := HQ1.out.lt
  have y0 := box_cell XL.out (j := 0) rfl; have y1 := box_cell XL.out (j := 1) rfl
  go_enter Tryz.func179, Tryz.ntmps179
  go_upto_region 1 with (fail)
  rw [HW0.out]
  go_wp2_with fail
  refine (rin_any _ _ _ _).mono ?_
  rintro e wz ⟨rfl, rfl⟩
  by_cases h1 : 1 ≤ n ∧ n ≤ 39
  · have e1 : inB n 1 39 = true := inB_yes (by omega) (by omega)
    rw [e1]; clear e1
    have HL1 := Lib.hid h1; clear h1
    go_wp2_with fail
    refine (nm_impl tx (by omega) _).mono ?_
    rintro e wz ⟨rfl, rfl⟩
    cases e2 : isNm tx with
    | false =>
      have HE2 := Lib.hid e2; clear e2
      go_wp2_with fail
      go_ret2
      refine ⟨rfl, .slice na n nc, .slice oa on oc, HQ1.out, HU1.out, ?_, KeepX.below HB.out⟩
      rw [show addN ns tx = ns from by unfold addN; rw [if_neg (by rw [HN.out]; rintro ⟨_, _, h3⟩; rw [HE2.out] at h3; cases h3)]]; exact HBD.out
    | true =>
      have HE2 := Lib.hid e2; clear e2
      go_upto_region 2 with (fail)
      go_region_law ((refine step_appNG (by rfl) _ _ (by rfl) B w0 _ ns (by rfl) (HBD.out.later (by repeat' (first | (with_reducible exact Below.refl _ _) | (with_reducible refine bl_dr ?_) | (with_reducible refine bl_al ?_ _)))).n _ _ ((⟨tx, ⟨#[]⟩, 0, []⟩, svNil) : Nv) (by rfl) (readsN_blk (nm := tx) (tx := ⟨#[]⟩) (k := 0) (u := .slice none 0 0) _ (by repeat' (first | (with_reducible refine hp_dr ?_) | ((with_reducible refine hp_nw ?_); (first | (with_reducible rfl) | (simp only [size_alloc]; done))))) rfl rfl rfl rfl) (ownK_nil _ _ _ _ _ _) HND.out n HN.out (by omega) ?_; intro aA cA wA hmA hgA; have hXA := BdM.node (HBD.out.later (by repeat' (first | (with_reducible exact Below.refl _ _) | (with_reducible refine bl_dr ?_) | (with_reducible refine bl_al ?_ _)))) hmA hgA; have hkA := keep_of (HBD.out.later (by repeat' (first | (with_reducible exact Below.refl _ _) | (with_reducible refine bl_dr ?_) | (with_reducible refine bl_al ?_ _)))).n.row.row hgA; have hbA := (HQ1.out.later (by repeat' (first | (with_reducible exact Below.refl _ _) | (with_reducible refine bl_dr ?_) | (with_reducible refine bl_al ?_ _)))).keep hkA bd_ne.1; have hUA := (HU1.out.trans (Upd.below (by repeat' (first | (with_reducible exact Below.refl _ _) | (with_reducible refine bl_dr ?_) | (with_reducible refine bl_al ?_ _))))).trans (Upd.keep (c := c) hkA bd_ne.1); have hKX := ((KeepX.below HB.out).trans (KeepX.below (by repeat' (first | (with_reducible exact Below.refl _ _) | (with_reducible refine bl_dr ?_) | (with_reducible refine bl_al ?_ _))))).trans (KeepX.keep hkA); obtain ⟨⟨p0, p1⟩, r0, r1⟩ := hbA.cells))
      all_goals
        have HXA := Lib.hid hXA; have HBA := Lib.hid hbA; have HUA := Lib.hid hUA; have HKX := Lib.hid hKX
        clear hmA hgA hXA hkA hbA hUA hKX
        go_wp2_with fail
        go_ret2
        refine ⟨rfl, .slice aA (n + 1) cA, .slice oa on oc, HBA.out.set0 _, HUA.out.trans Upd.set, ?_, HKX.out.set HBA.out⟩
        rw [show addN ns tx = ns ++ [((⟨tx, ⟨#[]⟩, 0, []⟩, svNil) : Nv)] from by unfold addN; rw [if_pos ⟨by rw [HN.out]; exact HL1.out.1, by rw [HN.out]; exact HL1.out.2, HE2.out⟩]]
        exact HXA.out.setT HBA.out HBc.out
  · have e1 : inB n 1 39 = false := inB_no (by omega)
    rw [e1]; clear e1
    have HL1 := Lib.hid h1; clear h1
    go_wp2_with fail
    go_ret2
    refine ⟨rfl, .slice na n nc, .slice oa on oc, HQ1.out, HU1.out, ?_, KeepX.below HB.out⟩
    rw [show addN ns tx = ns from by unfold addN; rw [if_neg (by rw [HN.out]; exact fun h => HL1.out ⟨h.1, h.2.1⟩)]]; exact HBD.out

/-- What a line writes, and what it logs over a builder and sheets. -/
def wrtS (op : Int) (tx : ByteArray) : ByteArray := if op = 1 then mkU tx else ⟨#[]⟩
def lgdS (ns : List Nd) (rs : List Ru) (op : Int) (tx : ByteArray) : ByteArray := if op = 3 then lgN 3 tx (countName ns tx) else if op = 4 then lgN 4 tx (colOf rs tx) else if op = 5 then frmS (5, tx) else ⟨#[]⟩
def nsL (ns : List Nv) (op : Int) (tx : ByteArray) : List Nv := if op = 2 then addN ns tx else ns
/-- Sheets of a size that a law lets by. -/
structure ShFit (ss : List Shv) : Prop where
  n : ss.length ≤ 1099511627776
  r : ∀ p ∈ ss, p.1.length ≤ 1099511627776
  ok : ∀ p ∈ ss, ∀ r ∈ p.1, RuOk r
  tot : (flatR ss).length ≤ 1099511627776

set_option maxRecDepth 100000 in
set_option maxHeartbeats 4000000 in
theorem runL_any {B : Nat} {w0 w : World} (op : Int) (tx : ByteArray) (v : Value) (ss : List Shv) {c : Nat} {nv ov : Value} {ns : List Nv} {zs : List Int} (b : Bd) (hn : ns.map Prod.fst = b.nodes) (ho : zs = b.opn) (hx : tx.size ≤ 1048576) (hq : Box2 w c nv ov) (hB : B ≤ c) (h : BdM B w0 w nv ov ns b.opn) (hln : ns.length ≤ 68719476736) (hs : ReadH w.heap.size w v ss) (hf : ShFit ss) (hm : Max0 w) (htab : Lib.TabIs Tryz.prog w "internal/strconv.uint64pow10" .u64 Lib.pow10Tab) :
    Calls Tryz.prog 63 #[.pointer (some ⟨c, 0, none⟩), v, .agg #[.int .i64 op, .string tx]] w fun e w' => e = .returned (.tuple #[.string (wrtS op tx), .string (lgdS b.nodes (flatR ss) op tx)]) ∧ ∃ nv' ov', Box2 w' c nv' ov' ∧ Upd c w w' ∧ BdM B w0 w' nv' ov' (nsL ns op tx) zs ∧ KeepX w w' := by
  subst ho
  have HM := Lib.hid hm; have HT := Lib.hid (Lib.tabBelow_of_tabIs htab); clear hm htab
  obtain ⟨W0, hW0⟩ : ∃ W, w.alloc (.cells #[.int .i64 op, .string tx] 51) = W := ⟨_, rfl⟩
  have HB := Lib.hid (show Below w.heap.size w W0 by rw [← hW0]; exact bl_aw (Below.refl _ _) _)
  have XL := Lib.hid (show W0.heap[w.heap.size]? = some (.cells #[.int .i64 op, .string tx] 51 (0, 0)) by rw [← hW0]; exact heap_alloc_new w _)
  have HW0 := Lib.hid hW0; clear hW0
  have HBD := Lib.hid (h.later HB.out); have HQ1 := Lib.hid (hq.later HB.out); have HU1 := Lib.hid (Upd.below (c := c) HB.out); have HRH := Lib.hid (hs.up HB.out); have HBc := Lib.hid hB; clear h hq hB hs
  have y0 := box_cell XL.out (j := 0) rfl; have y1 := box_cell XL.out (j := 1) rfl
  go_enter Tryz.func63, Tryz.ntmps63
  go_wp2_with fail
  rw [HW0.out]
  clear y0 y1
  refine (fop_any op _).mono ?_
  rintro e w1 ⟨rfl, hb⟩
  replace XL := Lib.hid (below_heap hb (heap_lt XL.out) XL.out); replace HBD := Lib.hid (HBD.out.later hb); replace HQ1 := Lib.hid (HQ1.out.later hb); replace HU1 := Lib.hid (HU1.out.trans (Upd.below hb)); replace HRH := Lib.hid (HRH.out.up hb); replace HB := Lib.hid (HB.out.trans (hb.mono HB.out.size)); clear hb
  rcases (show op = 1 ∨ op = 2 ∨ op = 3 ∨ op = 4 ∨ op = 5 ∨ ¬ (1 ≤ op ∧ op ≤ 5) by omega) with rfl | rfl | rfl | rfl | rfl | h0
  · rw [show fmRes (opN 1) = .tuple #[.agg #[.int .i64 1, .string (wd 1), .func (.func 177) #[] #[], .func (.func 178) #[] #[]], .bool true] from rfl]
    have y0 := box_cell XL.out (j := 0) rfl; have y1 := box_cell XL.out (j := 1) rfl; have hlw := heap_lt XL.out
    obtain ⟨W2, hW2⟩ : ∃ W, w1.alloc (.cells #[.int .i64 1, .string (wd 1), .func (.func 177) #[] #[], .func (.func 178) #[] #[]] 164) = W := ⟨_, rfl⟩
    have hb : Below w1.heap.size w1 W2 := by rw [← hW2]; exact bl_aw (Below.refl _ _) _
    have HBD2 := Lib.hid (HBD.out.later hb); have HQ2 := Lib.hid (HQ1.out.later hb); have HU2 := Lib.hid (HU1.out.trans (Upd.below hb)); have HRH2 := Lib.hid (HRH.out.up hb); have HB2 := Lib.hid (HB.out.trans (hb.mono HB.out.size)); have HW2 := Lib.hid hW2; clear hb hW2
    go_wp2_with fail
    rw [HW2.out]; clear y0 y1 hlw
    refine (lwrite_any 1 tx _ v hx _ (HM.out.on HB2.out)).mono ?_
    rintro e w3 ⟨rfl, hb⟩
    have HK := Lib.hid (show ∃ nv' ov', Box2 w3 c nv' ov' ∧ Upd c w w3 ∧ BdM B w0 w3 nv' ov' (nsL ns 1 tx) b.opn ∧ KeepX w w3 from ⟨nv, ov, HQ2.out.later hb, HU2.out.trans (Upd.below hb), HBD2.out.later hb, (KeepX.below HB2.out).trans (KeepX.below hb)⟩); clear hb
    go_wp2_with fail
    go_ret2
    exact ⟨rfl, HK.out⟩
  · rw [show fmRes (opN 2) = .tuple #[.agg #[.int .i64 2, .string (wd 2), .func (.func 98) #[] #[], .func (.func 179) #[] #[]], .bool true] from rfl]
    have y0 := box_cell XL.out (j := 0) rfl; have y1 := box_cell XL.out (j := 1) rfl; have hlw := heap_lt XL.out
    obtain ⟨W2, hW2⟩ : ∃ W, w1.alloc (.cells #[.int .i64 2, .string (wd 2), .func (.func 98) #[] #[], .func (.func 179) #[] #[]] 164) = W := ⟨_, rfl⟩
    have hb : Below w1.heap.size w1 W2 := by rw [← hW2]; exact bl_aw (Below.refl _ _) _
    have HBD2 := Lib.hid (HBD.out.later hb); have HQ2 := Lib.hid (HQ1.out.later hb); have HU2 := Lib.hid (HU1.out.trans (Upd.below hb)); have HRH2 := Lib.hid (HRH.out.up hb); have HB2 := Lib.hid (HB.out.trans (hb.mono HB.out.size)); have HW2 := Lib.hid hW2; clear hb hW2
    go_wp2_with fail
    rw [HW2.out]; clear y0 y1 hlw
    refine (ladd_any 2 tx v hx HQ2.out HBc.out HBD2.out hln).mono ?_
    rintro e w3 ⟨rfl, nv', ov', hq', hu', hd', hk'⟩
    have HK := Lib.hid (show ∃ nv' ov', Box2 w3 c nv' ov' ∧ Upd c w w3 ∧ BdM B w0 w3 nv' ov' (nsL ns 2 tx) b.opn ∧ KeepX w w3 from ⟨nv', ov', hq', HU2.out.trans hu', hd', (KeepX.below HB2.out).trans hk'⟩); clear hq' hu' hd' hk'
    go_wp2_with fail
    go_ret2
    exact ⟨rfl, HK.out⟩
  · rw [show fmRes (opN 3) = .tuple #[.agg #[.int .i64 3, .string (wd 3), .func (.func 98) #[] #[], .func (.func 180) #[] #[]], .bool true] from rfl]
    have y0 := box_cell XL.out (j := 0) rfl; have y1 := box_cell XL.out (j := 1) rfl; have hlw := heap_lt XL.out
    obtain ⟨W2, hW2⟩ : ∃ W, w1.alloc (.cells #[.int .i64 3, .string (wd 3), .func (.func 98) #[] #[], .func (.func 180) #[] #[]] 164) = W := ⟨_, rfl⟩
    have hb : Below w1.heap.size w1 W2 := by rw [← hW2]; exact bl_aw (Below.refl _ _) _
    have HBD2 := Lib.hid (HBD.out.later hb); have HQ2 := Lib.hid (HQ1.out.later hb); have HU2 := Lib.hid (HU1.out.trans (Upd.below hb)); have HRH2 := Lib.hid (HRH.out.up hb); have HB2 := Lib.hid (HB.out.trans (hb.mono HB.out.size)); have HW2 := Lib.hid hW2; clear hb hW2
    go_wp2_with fail
    rw [HW2.out]; clear y0 y1 hlw
    refine (lcount_any 3 tx c nv ov b v hx _ HQ2.out (HBD2.out.reads hn) (by rw [← hn, List.length_map]; omega) (HT.out _ HB2.out)).mono ?_
    rintro e w3 ⟨rfl, hb⟩
    have HK := Lib.hid (show ∃ nv' ov', Box2 w3 c nv' ov' ∧ Upd c w w3 ∧ BdM B w0 w3 nv' ov' (nsL ns 3 tx) b.opn ∧ KeepX w w3 from ⟨nv, ov, HQ2.out.later hb, HU2.out.trans (Upd.below hb), HBD2.out.later hb, (KeepX.below HB2.out).trans (KeepX.below hb)⟩); clear hb
    go_wp2_with fail
    go_ret2
    exact ⟨rfl, HK.out⟩
  · rw [show fmRes (opN 4) = .tuple #[.agg #[.int .i64 4, .string (wd 4), .func (.func 98) #[] #[], .func (.func 181) #[] #[]], .bool true] from rfl]
    have y0 := box_cell XL.out (j := 0) rfl; have y1 := box_cell XL.out (j := 1) rfl; have hlw := heap_lt XL.out
    obtain ⟨W2, hW2⟩ : ∃ W, w1.alloc (.cells #[.int .i64 4, .string (wd 4), .func (.func 98) #[] #[], .func (.func 181) #[] #[]] 164) = W := ⟨_, rfl⟩
    have hb : Below w1.heap.size w1 W2 := by rw [← hW2]; exact bl_aw (Below.refl _ _) _
    have HBD2 := Lib.hid (HBD.out.later hb); have HQ2 := Lib.hid (HQ1.out.later hb); have HU2 := Lib.hid (HU1.out.trans (Upd.below hb)); have HRH2 := Lib.hid (HRH.out.up hb); have HB2 := Lib.hid (HB.out.trans (hb.mono HB.out.size)); have HW2 := Lib.hid hW2; clear hb hW2
    go_wp2_with fail
    rw [HW2.out]; clear y0 y1 hlw
    refine (llook_any 4 tx _ v ss hx _ HRH2.out hf.n hf.r hf.ok hf.tot (HT.out _ HB2.out)).mono ?_
    rintro e w3 ⟨rfl, hb⟩
    have HK := Lib.hid (show ∃ nv' ov', Box2 w3 c nv' ov' ∧ Upd c w w3 ∧ BdM B w0 w3 nv' ov' (nsL ns 4 tx) b.opn ∧ KeepX w w3 from ⟨nv, ov, HQ2.out.later hb, HU2.out.trans (Upd.below hb), HBD2.out.later hb, (KeepX.below HB2.out).trans (KeepX.below hb)⟩); clear hb
    go_wp2_with fail
    go_ret2
    exact ⟨rfl, HK.out⟩
  · rw [show fmRes (opN 5) = .tuple #[.agg #[.int .i64 5, .string (wd 5), .func (.func 177) #[] #[], .func (.func 182) #[] #[]], .bool true] from rfl]
    have y0 := box_cell XL.out (j := 0) rfl; have y1 := box_cell XL.out (j := 1) rfl; have hlw := heap_lt XL.out
    obtain ⟨W2, hW2⟩ : ∃ W, w1.alloc (.cells #[.int .i64 5, .string (wd 5), .func (.func 177) #[] #[], .func (.func 182) #[] #[]] 164) = W := ⟨_, rfl⟩
    have hb : Below w1.heap.size w1 W2 := by rw [← hW2]; exact bl_aw (Below.refl _ _) _
    have HBD2 := Lib.hid (HBD.out.later hb); have HQ2 := Lib.hid (HQ1.out.later hb); have HU2 := Lib.hid (HU1.out.trans (Upd.below hb)); have HRH2 := Lib.hid (HRH.out.up hb); have HB2 := Lib.hid (HB.out.trans (hb.mono HB.out.size)); have HW2 := Lib.hid hW2; clear hb hW2
    go_wp2_with fail
    rw [HW2.out]; clear y0 y1 hlw
    refine (lsay_any 5 tx _ v hx _).mono ?_
    rintro e w3 ⟨rfl, hb⟩
    have HK := Lib.hid (show ∃ nv' ov', Box2 w3 c nv' ov' ∧ Upd c w w3 ∧ BdM B w0 w3 nv' ov' (nsL ns 5 tx) b.opn ∧ KeepX w w3 from ⟨nv, ov, HQ2.out.later hb, HU2.out.trans (Upd.below hb), HBD2.out.later hb, (KeepX.below HB2.out).trans (KeepX.below hb)⟩); clear hb
    go_wp2_with fail
    go_ret2
    exact ⟨rfl, HK.out⟩
  · rw [opN_no h0, res_zero]
    have HO := Lib.hid h0
    have hz1 : wrtS op tx = ⟨#[]⟩ := by unfold wrtS; rw [if_neg (by omega)]
    have hz2 : lgdS b.nodes (flatR ss) op tx = ⟨#[]⟩ := by unfold lgdS; rw [if_neg (by omega), if_neg (by omega), if_neg (by omega)]
    have hz3 : nsL ns op tx = ns := by unfold nsL; rw [if_neg (by omega)]
    have hb : Below w1.heap.size w1 (w1.alloc (.cells fmZ0 164)) := bl_aw (Below.refl _ _) _
    have HK := Lib.hid (show ∃ nv' ov', Box2 (w1.alloc (.cells fmZ0 164)) c nv' ov' ∧ Upd c w (w1.alloc (.cells fmZ0 164)) ∧ BdM B w0 (w1.alloc (.cells fmZ0 164)) nv' ov' (nsL ns op tx) b.opn ∧ KeepX w (w1.alloc (.cells fmZ0 164)) from by rw [hz3]; exact ⟨nv, ov, HQ1.out.later hb, HU1.out.trans (Upd.below hb), HBD.out.later hb, (KeepX.below HB.out).trans (KeepX.below hb)⟩); clear hb
    have HZ1 := Lib.hid hz1; have HZ2 := Lib.hid hz2; clear hz1 hz2 hz3 h0
    go_wp2_with fail
    go_ret2
    exact ⟨by rw [HZ1.out, HZ2.out]; rfl, HK.out⟩

end Go.Proofs.YtpkicliimhflgaaGreatDoor
