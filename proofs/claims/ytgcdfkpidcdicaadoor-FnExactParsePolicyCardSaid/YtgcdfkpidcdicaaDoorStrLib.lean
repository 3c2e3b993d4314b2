/- Helper contracts: the program's calls into Go's strings at one byte (IndexByte, CutPrefix at "/", Cut, Split), by the plain words of this development. Asked: the string is shorter than 2^32 bytes where it is divided. -/
import Derived.Test.YtgcdfkpidcdicaaDoorShelf
import Derived.Test.YtgcdfkpidcdicaaDoorSpl
namespace Go.Proofs.YtgcdfkpidcdicaaDoor
open Go.ChangeShapes Go.WideShapes Go.ChangeAt Go.RowKit

theorem indexByte_idx (c : UInt8) : ∀ l : List UInt8, Lib.indexByte l c = if idxB c l < l.length then (idxB c l : Int) else -1
  | [] => rfl
  | b :: l => by
    have ih := indexByte_idx c l
    have hle := idxB_le c l
    unfold Lib.indexByte idxB
    by_cases h : b = c
    · rw [if_pos (by simpa using h), if_pos h, if_pos (by simp)]; rfl
    · rw [if_neg (by simpa using h), if_neg h, ih]
      by_cases h2 : idxB c l < l.length
      · rw [if_pos h2, if_neg (by simp <;> omega), if_pos (by simp <;> omega)]; omega
      · rw [if_neg h2, if_pos (by rfl), if_neg (by simp <;> omega)]
theorem index_idx (c : UInt8) : ∀ l : List UInt8, Lib.index l [c] = if idxB c l < l.length then (idxB c l : Int) else -1
  | [] => rfl
  | b :: l => by
    have ih := index_idx c l
    have hle := idxB_le c l
    unfold idxB
    by_cases h : b = c
    · subst h
      rw [if_pos rfl, if_pos (by simp), Lib.index]; simp [List.isPrefixOf]
    · have hp : ([c] : List UInt8).isPrefixOf (b :: l) = false := by simp [List.isPrefixOf, Ne.symm h]
      have hix : Lib.index (b :: l) [c] = if Lib.index l [c] == -1 then -1 else Lib.index l [c] + 1 := by rw [Lib.index, hp]; simp
      rw [if_neg h, hix, ih]
      by_cases h2 : idxB c l < l.length
      · rw [if_pos h2, if_neg (by simp <;> omega), if_pos (by simp <;> omega)]; omega
      · rw [if_neg h2, if_pos (by rfl), if_neg (by simp <;> omega)]
theorem indexByte_index (c : UInt8) (l : List UInt8) : Lib.indexByte l c = Lib.index l [c] := by rw [indexByte_idx, index_idx]
theorem idx_split {c : UInt8} {l : List UInt8} (h : idxB c l < l.length) : splitB c l = l.take (idxB c l) :: splitB c (l.drop (idxB c l + 1)) := by
  have := split_round (c := c) (l := l) (a := 0) (Nat.zero_le _) (idxB_at h) fun j _ hj => idxB_before hj
  rwa [List.drop_zero, Nat.sub_zero] at this
theorem idx_split_none {c : UInt8} {l : List UInt8} (h : ¬ idxB c l < l.length) : splitB c l = [l] := by
  have := split_last (c := c) (l := l) (a := 0) fun j _ hj => by
    have hjl := (List.getElem?_eq_some_iff.1 hj).1
    exact idxB_before (by omega) hj
  rwa [List.drop_zero] at this
theorem splitK_mine (c : UInt8) (l : List UInt8) : Lib.splitK [c] 0 (Lib.count l [c]) l = splitB c l := by
  generalize hn : l.length = n
  induction n using Nat.strongRecOn generalizing l with
  | _ n ih =>
    by_cases h : idxB c l < l.length
    · have hix : Lib.index l [c] = ((idxB c l : Nat) : Int) := by rw [index_idx, if_pos h]
      rw [Lib.count_hit (by simp) hix, Nat.add_comm, Lib.splitK, if_neg (by rw [hix]; simp <;> omega), hix, idx_split h]
      rw [show ((idxB c l : Nat) : Int).toNat = idxB c l from rfl, Nat.add_zero, show ([c] : List UInt8).length = 1 from rfl]
      rw [ih (l.drop (idxB c l + 1)).length (by rw [List.length_drop]; omega) _ rfl]
    · have hix : Lib.index l [c] = -1 := by rw [index_idx, if_neg h]
      rw [Lib.count_miss hix, Lib.splitK, idx_split_none h]
theorem splitB_mine (c : UInt8) (s : ByteArray) : Lib.splitB ⟨#[c]⟩ 0 (Lib.countB s ⟨#[c]⟩) s = splS c s.data.toList := by
  have h := Lib.splitB_data ⟨#[c]⟩ 0 (Lib.countB s ⟨#[c]⟩) s
  have e : Lib.countB s ⟨#[c]⟩ = Lib.count s.data.toList [c] := rfl
  rw [e] at h ⊢
  rw [show (⟨#[c]⟩ : ByteArray).data.toList = [c] from rfl, splitK_mine] at h
  unfold splS
  rw [← h, List.map_map]
  conv => lhs; rw [← List.map_id (Lib.splitB _ _ _ _)]
  exact List.map_congr_left fun x _ => (ofL_of x).symm

/-- What Cut returns at one byte. -/
def cutC (c : UInt8) (s : ByteArray) : Value :=
  if idxB c s.data.toList < s.size then .tuple #[.string (s.extract 0 (idxB c s.data.toList)), .string (s.extract (idxB c s.data.toList + 1) s.size), .bool true]
  else .tuple #[.string s, .string ⟨#[]⟩, .bool false]

set_option maxHeartbeats 1000000 in
theorem lcutC_any (c : UInt8) (s : ByteArray) (hs : s.size ≤ 4611686018427387904) (w : World) :
    Calls Tryd.prog 74 #[.string s, .string ⟨#[c]⟩] w fun e w' => e = .returned (cutC c s) ∧ ∃ n, w' = w.drewN n := by
  have hix := indexByte_idx c s.data.toList
  rw [size_list] at hix
  by_cases h1 : idxB c s.data.toList < s.size
  · have HV := Lib.hid (show cutC c s = _ from by unfold cutC; rw [if_pos h1])
    rw [if_pos h1] at hix
    obtain ⟨i, hi⟩ : ∃ i, idxB c s.data.toList = i := ⟨_, rfl⟩
    rw [hi] at hix h1 HV
    have HI := Lib.hid hix
    clear hix hi
    have c1 : (0 : Int) ≤ ↑i := by omega
    have c2 : (↑i : Int) ≤ ↑s.size := by omega
    have c3 : (0 : Int) ≤ ↑i + 1 := by omega
    have c4 : (↑i + 1 : Int) ≤ ↑s.size := by omega
    go_enter Tryd.func74, Tryd.ntmps74
    go_wp2_with fail
    refine (Tryd.stringslite_Index_one s c _).mono ?_
    rintro e w' ⟨rfl, rfl⟩
    rw [HI.out]
    go_wp2_with fail
    go_quiet (fail)
    go_wp2
    go_ret3
    exact ⟨by rw [HV.out]; rfl, _, rfl⟩
  · have HV := Lib.hid (show cutC c s = _ from by unfold cutC; rw [if_neg h1])
    rw [if_neg h1] at hix
    have HI := Lib.hid hix
    clear hix h1
    go_enter Tryd.func74, Tryd.ntmps74
    go_wp2_with fail
    refine (Tryd.stringslite_Index_one s c _).mono ?_
    rintro e w' ⟨rfl, rfl⟩
    rw [HI.out]
    go_wp2_with fail
    go_ret3
    exact ⟨by rw [HV.out]; rfl, 0, rfl⟩

set_option maxHeartbeats 1000000 in
theorem cutC_any (c : UInt8) (s : ByteArray) (hs : s.size ≤ 4611686018427387904) (w : World) :
    Calls Tryd.prog 56 #[.string s, .string ⟨#[c]⟩] w fun e w' => e = .returned (cutC c s) ∧ ∃ n, w' = w.drewN n := by
  have hcon := lcutC_any c s hs
  have : ∃ a b d, cutC c s = .tuple #[.string a, .string b, .bool d] := by
    unfold cutC; split <;> exact ⟨_, _, _, rfl⟩
  obtain ⟨a, b, d, hv⟩ := this
  rw [hv] at hcon ⊢
  clear hv
  have HC := Lib.hid hcon; clear hcon
  go_enter Tryd.func56, Tryd.ntmps56
  go_wp2_with fail
  refine (HC.out _).mono ?_
  rintro e w' ⟨rfl, n, rfl⟩
  go_wp2_with fail
  go_ret3
  exact ⟨rfl, n, rfl⟩

theorem splS_flat (l : List ByteArray) : l.flatMap encS = l.map Value.string := by
  induction l with
  | nil => rfl
  | cons x l ih => rw [List.flatMap_cons, ih]; rfl

set_option maxHeartbeats 1000000 in
theorem gsplit_any (s : ByteArray) (c : UInt8) (hs : s.size < 4294967281) (w : World) :
    Calls Tryd.prog 75 #[.string s, .string ⟨#[c]⟩, .int .i64 0, .int .i64 (-1)] w (NewK encS 1 9 (splS c s.data.toList) w) := by
  have hC : Calls Tryd.prog 86 #[.string s, .string ⟨#[c]⟩] w fun e w' => e = .returned (.int .i64 (Lib.countB s ⟨#[c]⟩)) ∧ w' = w := by
    refine (Tryd.strings_Count_one s c w).mono ?_
    rintro e w' ⟨rfl, rfl⟩
    refine ⟨?_, rfl⟩
    show Ending.returned (.int .i64 (Lib.countByte s.data.toList c)) = Ending.returned (Value.int .i64 ((Lib.count s.data.toList [c] : Nat) : Int))
    rw [Lib.count_one]; rfl
  have h1 : 1 ≤ (⟨#[c]⟩ : ByteArray).size := Nat.le_refl 1
  have hle := Lib.countB_le ⟨#[c]⟩ h1 s.size s (Nat.le_refl _)
  have hlen := Lib.splitB_all ⟨#[c]⟩ h1 0 _ s rfl
  have core := Any.strings_genSplit_core Tryd.lays221 (by kernel_rfl) s ⟨#[c]⟩ 0 (-1) (Lib.countB s ⟨#[c]⟩ + 1) w hs h1 (Nat.zero_le _)
    (fun x cc hx => by
      refine (Tryd.strings_Index_one x c _).mono ?_
      rintro e w' ⟨rfl, rfl⟩
      refine ⟨?_, rfl⟩
      rw [indexByte_index]) hC (by decide) (by decide) (by rw [if_pos (by decide)]; omega)
  refine core.mono ?_
  rintro e w' ⟨rfl, rfl⟩
  rw [Nat.add_sub_cancel, splitB_mine]
  rw [splitB_mine] at hlen
  refine ⟨_, rfl, ?_, (Below.refl _ _).alloc (Nat.le_refl _) _⟩
  rw [← hlen]
  refine ⟨?_, fun g hg => ?_⟩
  · have := World.ownsRow_lit (base := w.heap.size) (e := 9) (size := 1) w ((splS c s.data.toList).map Value.string).toArray (splS c s.data.toList).length (Nat.le_refl _) (by unfold maxLen; omega) (by simp)
    rw [splS_flat, Lib.cellsOf_full]
    rw [List.toList_toArray] at this
    exact this
  · have : g = w.heap.size := (Option.some.inj hg).symm
    subst this; simp

set_option maxHeartbeats 1000000 in
theorem split_any (s : ByteArray) (c : UInt8) (hs : s.size < 4294967281) (w : World) :
    Calls Tryd.prog 57 #[.string s, .string ⟨#[c]⟩] w (NewK encS 1 9 (splS c s.data.toList) w) := by
  go_enter Tryd.func57, Tryd.ntmps57
  go_wp2_with fail
  refine (gsplit_any s c hs _).mono ?_
  rintro e w' ⟨v, rfl, ho, hb⟩
  have HO := Lib.hid ho; have HB := Lib.hid hb; clear ho hb
  go_wp2_with fail
  go_ret
  exact ⟨_, rfl, HO.out, HB.out⟩
end Go.Proofs.YtgcdfkpidcdicaaDoor
