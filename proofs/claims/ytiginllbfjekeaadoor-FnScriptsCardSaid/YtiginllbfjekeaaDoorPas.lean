/- IsPassive of the model and of the program: no line writes or adds. Asked: the lines lie in memory as named. -/
import Derived.Test.YtiginllbfjekeaaDoorLn
import Derived.Test.YtiginllbfjekeaaDoorRawL
namespace Go.Proofs.YtiginllbfjekeaaDoor
open Go.ChangeShapes Go.WideShapes Go.ChangeAt Go.RowKit

def pasB (l : List Lnv) : Bool := l.all fun x => !decide (x.1 = 1) && !decide (x.1 = 2)
theorem pasB_nil : pasB [] = true := rfl
theorem pasB_snoc {l : List Lnv} {x : Lnv} (h : pasB l = true) (h1 : x.1 ≠ 1) (h2 : x.1 ≠ 2) : pasB (l ++ [x]) = true := by
  unfold pasB at h ⊢
  rw [List.all_append, h]; simp [h1, h2]
theorem pasB_bad {l : List Lnv} {k : Nat} {x : Lnv} (h : l[k]? = some x) (h1 : x.1 = 1 ∨ x.1 = 2) : pasB l = false := by
  rw [Bool.eq_false_iff]
  intro hall
  have := List.all_eq_true.1 hall x (List.mem_of_getElem? h)
  rcases h1 with e | e <;> simp [e] at this

set_option maxRecDepth 100000 in
set_option maxHeartbeats 2000000 in
theorem pas_spec (v : Value) (l : List Lnv) (w : World) (h : ReadsK encL 2 w.heap.size w v l) :
    Calls Tryd.prog 16 #[v] w fun e w' => e = .returned (.bool (pasB l)) ∧ w = w' := by
  obtain ⟨a, cap, rfl, hc1, hc2, _⟩ := id h
  obtain ⟨n, hn⟩ : ∃ n, l.length = n := ⟨_, rfl⟩
  rw [hn] at h hc1 ⊢
  have H := Lib.hid h; have HN := Lib.hid hn; clear h hn
  obtain ⟨pb, hpb⟩ : ∃ f : Bool, pasB l = f := ⟨_, rfl⟩
  have HPB := Lib.hid hpb; rw [hpb]; clear hpb
  go_enter Tryd.func16, Tryd.ntmps16
  go_wp2
  go_loopw [3] (fun i wr => ∃ (j : Nat), j ≤ n ∧ i = .int .i64 j ∧ pasB (l.take j) = true ∧ w = wr)
    (fun i _ => n - (intOf i).toNat)
  case atStart => exact ⟨0, Nat.zero_le _, rfl, rfl, rfl⟩
  case round =>
    obtain ⟨j, hj, rfl, hp, rfl⟩ := hrel
    have HP := Lib.hid hp; clear hp
    by_cases hlt : (j : Int) < (n : Int)
    · obtain ⟨op, tx, hr⟩ := ln_at (xs := l) (j := j) (by rw [HN.out]; omega)
      obtain ⟨g, off, rfl, hg, d0, d1⟩ := H.out.line hr
      replace d0 : _ = some (Value.int .i64 op) := d0
      have HR := Lib.hid hr; clear hr d1
      by_cases h1 : op = 1
      · have HF := Lib.hid (pasB_bad HR.out (Or.inl h1))
        subst h1
        go_wp2
        go_ret
        exact ⟨by rw [← HPB.out, HF.out]; rfl, rfl⟩
      by_cases h2 : op = 2
      · have HF := Lib.hid (pasB_bad HR.out (Or.inr h2))
        subst h2
        go_wp2
        go_ret
        exact ⟨by rw [← HPB.out, HF.out]; rfl, rfl⟩
      have HF := Lib.hid (show pasB (l.take (j + 1)) = true by rw [takeL HR.out]; exact pasB_snoc HP.out h1 h2)
      have q1 : (op == 1) = false := beq_eq_false_iff_ne.2 h1
      have q2 : (op == 2) = false := beq_eq_false_iff_ne.2 h2
      clear h1 h2
      go_wp2
      go_roundw
      case rel => exact ⟨j + 1, by omega, by go_num, HF.out, by first | trivial | rfl⟩
      case measure => simp [intOf]; omega
    · have HF := Lib.hid (show pasB l = true by have := HP.out; rwa [List.take_of_length_le (by rw [HN.out]; omega)] at this)
      go_wp2
      go_ret
      exact ⟨by rw [← HPB.out, HF.out]; rfl, rfl⟩

set_option maxRecDepth 100000 in
set_option maxHeartbeats 2000000 in
theorem pas_impl (v : Value) (l : List Lnv) (w : World) (h : ReadsK encL 2 w.heap.size w v l) :
    Calls Tryd.prog 15 #[v] w fun e w' => e = .returned (.bool (pasB l)) ∧ Grw w w' := by
  obtain ⟨a, cap, rfl, hc1, hc2, _⟩ := id h
  obtain ⟨n, hn⟩ : ∃ n, l.length = n := ⟨_, rfl⟩
  rw [hn] at h hc1 ⊢
  have H := Lib.hid h; have HN := Lib.hid hn; clear h hn
  obtain ⟨pb, hpb⟩ : ∃ f : Bool, pasB l = f := ⟨_, rfl⟩
  have HPB := Lib.hid hpb; rw [hpb]; clear hpb
  go_enter Tryd.func15, Tryd.ntmps15
  go_wp2
  go_loopw [7] (fun i wr => ∃ (j : Nat), j ≤ n ∧ i = .int .i64 j ∧ pasB (l.take j) = true ∧ Grw w wr)
    (fun i _ => n - (intOf i).toNat)
  case atStart => exact ⟨0, Nat.zero_le _, rfl, rfl, Grw.refl _⟩
  case round =>
    obtain ⟨j, hj, rfl, hp, hg⟩ := hrel
    have HP := Lib.hid hp; have HG := Lib.hid hg; clear hp hg
    by_cases hlt : (j : Int) < (n : Int)
    · obtain ⟨op, tx, hr⟩ := ln_at (xs := l) (j := j) (by rw [HN.out]; omega)
      obtain ⟨g, off, rfl, hg, d0, d1⟩ := (H.out.below HG.out.below (Nat.le_refl _)).line hr
      replace d0 : _ = some (Value.int .i64 op) := d0
      replace d1 : _ = some (Value.string tx) := d1
      have HR := Lib.hid hr; clear hr
      have HGA := Lib.hid (HG.out.alloc (.cells #[.int .i64 op, .string tx] 47))
      by_cases h1 : op = 1
      · have HF := Lib.hid (pasB_bad HR.out (Or.inl h1))
        subst h1
        go_wp2
        go_ret
        exact ⟨by rw [← HPB.out, HF.out]; rfl, HGA.out⟩
      by_cases h2 : op = 2
      · have HF := Lib.hid (pasB_bad HR.out (Or.inr h2))
        subst h2
        go_wp2
        go_ret
        exact ⟨by rw [← HPB.out, HF.out]; rfl, HGA.out⟩
      have HF := Lib.hid (show pasB (l.take (j + 1)) = true by rw [takeL HR.out]; exact pasB_snoc HP.out h1 h2)
      have q1 : (op == 1) = false := beq_eq_false_iff_ne.2 h1
      have q2 : (op == 2) = false := beq_eq_false_iff_ne.2 h2
      clear h1 h2
      go_wp2
      go_roundw
      case rel => exact ⟨j + 1, by omega, by go_num, HF.out, HGA.out⟩
      case measure => simp [intOf]; omega
    · have HF := Lib.hid (show pasB l = true by have := HP.out; rwa [List.take_of_length_le (by rw [HN.out]; omega)] at this)
      go_wp2
      go_ret
      exact ⟨by rw [← HPB.out, HF.out]; rfl, HG.out⟩

theorem pasS_data {x : Rw} {u : Value} {l : List Lnv} {lo hi : Nat} {w : World} (h : x.data = (rwLn u l).data) (ho : x.OwnR lo hi w) :
    Calls Tryd.prog 16 #[x.cell] w fun e w' => e = .returned (.bool (pasB l)) ∧ Grw w w' := by
  refine (pas_spec _ l w (lines_of_data h (rd_of ho))).mono ?_
  rintro e w' ⟨rfl, rfl⟩
  exact ⟨rfl, Grw.refl _⟩
theorem pasI_data {x : Rw} {u : Value} {l : List Lnv} {lo hi : Nat} {w : World} (h : x.data = (rwLn u l).data) (ho : x.OwnR lo hi w) :
    Calls Tryd.prog 15 #[x.cell] w fun e w' => e = .returned (.bool (pasB l)) ∧ Grw w w' :=
  pas_impl _ l w (lines_of_data h (rd_of ho))
end Go.Proofs.YtiginllbfjekeaaDoor
