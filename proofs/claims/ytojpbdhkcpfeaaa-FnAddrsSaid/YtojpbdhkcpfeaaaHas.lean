/- Helper contracts: HasAddr of the program and of the model answer alike. Asked: the slice reads as the list named. -/
import Derived.Test.YtojpbdhkcpfeaaaAdrS
namespace Go.Proofs.Ytojpbdhkcpfeaaa
open Go.ChangeShapes Go.WideShapes Go.ChangeAt Go.RowKit

def hasA (xs : List Ad) (a : Ad) : Bool := xs.any fun x => decide (x = a)
theorem hasA_iff {xs : List Ad} {a : Ad} : hasA xs a = true ↔ a ∈ xs := by
  unfold hasA
  rw [List.any_eq_true]
  constructor
  · rintro ⟨x, hx, he⟩
    rw [← of_decide_eq_true he]; exact hx
  · exact fun h => ⟨a, h, decide_eq_true rfl⟩
theorem hasA_yes {xs : List Ad} {a : Ad} {k : Nat} (h : xs[k]? = some a) : hasA xs a = true := hasA_iff.2 (List.mem_iff_getElem?.2 ⟨k, h⟩)
def notIn (xs : List Ad) (a : Ad) (k : Nat) : Prop := ∀ j : Nat, j < k → xs[j]? ≠ some a
theorem notIn.succ {xs : List Ad} {a x : Ad} {k : Nat} (h : notIn xs a k) (hx : xs[k]? = some x) (hne : x ≠ a) : notIn xs a (k + 1) := by
  intro j hj
  by_cases e : j = k
  · subst e; rw [hx]; simpa using hne
  · exact h j (by omega)
theorem hasA_no {xs : List Ad} {a : Ad} {k : Nat} (h : notIn xs a k) (hk : k = xs.length) : hasA xs a = false := by
  refine Bool.eq_false_iff.2 fun hm => ?_
  have hm := hasA_iff.1 hm
  obtain ⟨j, hj⟩ := List.mem_iff_getElem?.1 hm
  exact h j (by have := (List.getElem?_eq_some_iff.1 hj).1; omega) hj

set_option maxHeartbeats 2000000 in
theorem has_impl (v : Value) (hi : Nat) (xs : List Ad) (h p : ByteArray) (w : World) (hr : ReadsK encA 2 hi w v xs) (hh : hi ≤ w.heap.size) :
    Calls Try.prog 21 #[v, .agg #[.string h, .string p]] w fun e w' => e = .returned (.bool (hasA xs (h, p))) ∧ Grw w w' := by
  obtain ⟨a, cap, rfl, hc1, hc2, _, hcells⟩ := hr
  have HC := Lib.hid hcells; clear hcells
  obtain ⟨n, hn⟩ : ∃ n, xs.length = n := ⟨_, rfl⟩
  rw [hn] at hc1 HC ⊢
  have HN := Lib.hid hn; clear hn
  have HG0 := Lib.hid ((Grw.refl w).alloc (.cells #[.string h, .string p] 25))
  go_enter Try.func21, Try.ntmps21
  go_wp2
  go_loopw [9] (fun i wr => ∃ (k : Nat), k ≤ n ∧ i = .int .i64 k ∧ notIn xs (h, p) k ∧ Grw w wr ∧ wr.cell? ⟨w.heap.size, 0, none⟩ = some (.string h) ∧ wr.cell? ⟨w.heap.size, 1, none⟩ = some (.string p))
    (fun i _ => n - (intOf i).toNat)
  case atStart => exact ⟨0, Nat.zero_le _, rfl, (fun _ h => absurd h (Nat.not_lt_zero _)), HG0.out, by simp, by simp⟩
  case round =>
    obtain ⟨k, hk, rfl, hnot, hg, q0, q1⟩ := hrel
    have HNI := Lib.hid hnot; have HG := Lib.hid hg
    clear hnot hg
    by_cases hlt : (k : Int) < (n : Int)
    · rcases HC.out with h0 | ⟨g, off, rfl, hg, hcells⟩
      · omega
      · obtain ⟨x, y, hx⟩ := ad_at (xs := xs) (j := k) (by have := HN.out; omega)
        have c0 : wr.cell? ⟨g, off + k * 2, none⟩ = some (.string x) := by rw [HG.out.below.cell (show g < _ by omega)]; exact hcells k _ hx 0 (by omega)
        have c1 : wr.cell? ⟨g, off + k * 2 + 1, none⟩ = some (.string y) := by rw [HG.out.below.cell (show g < _ by omega)]; exact hcells k _ hx 1 (by omega)
        have hbk : w.heap.size < wr.heap.size := World.block_lt_of_cell? wr _ q0
        have HX := Lib.hid hx
        clear hcells hx
        by_cases e1 : x = h
        · have e3 : (x.toList == h.toList) = true := beqL_yes e1
          by_cases e2 : y = p
          · have e4 : (y.toList == p.toList) = true := beqL_yes e2
            have HR := Lib.hid (show hasA xs (h, p) = true from hasA_yes (by rw [HX.out, e1, e2]))
            clear e1 e2
            go_wp2
            go_ret
            exact ⟨ret_b HR.out.symm, (HG.out.alloc _)⟩
          · have e4 : (y.toList == p.toList) = false := beqL_no e2
            have HR := Lib.hid (HNI.out.succ HX.out (fun e => e2 (Prod.mk.inj e).2))
            clear e1 e2
            go_wp2
            go_roundw
            case rel => exact ⟨k + 1, by omega, by go_num, HR.out, (HG.out.alloc _), by rw [World.cell?_alloc_past _ _ _ hbk]; exact q0, by rw [World.cell?_alloc_past _ _ _ hbk]; exact q1⟩
            case measure => simp [intOf]; omega
        · have e3 : (x.toList == h.toList) = false := beqL_no e1
          have HR := Lib.hid (HNI.out.succ HX.out (fun e => e1 (Prod.mk.inj e).1))
          clear e1
          go_wp2
          go_roundw
          case rel => exact ⟨k + 1, by omega, by go_num, HR.out, (HG.out.alloc _), by rw [World.cell?_alloc_past _ _ _ hbk]; exact q0, by rw [World.cell?_alloc_past _ _ _ hbk]; exact q1⟩
          case measure => simp [intOf]; omega
    · have hkn : decide ((k : Int) < (n : Int)) = false := decide_eq_false hlt
      have HR := Lib.hid (hasA_no HNI.out (show k = xs.length by have := HN.out; omega))
      go_wp2
      go_ret
      exact ⟨ret_b HR.out.symm, HG.out⟩

set_option maxHeartbeats 2000000 in
theorem has_spec (v : Value) (hi : Nat) (xs : List Ad) (h p : ByteArray) (w : World) (hr : ReadsK encA 2 hi w v xs) (hh : hi ≤ w.heap.size) :
    Calls Try.prog 37 #[v, .agg #[.string h, .string p]] w fun e w' => e = .returned (.bool (hasA xs (h, p))) ∧ Grw w w' := by
  have mixed : Try.prog.follows .mixedOrders = true := by kernel_rfl
  obtain ⟨a, cap, rfl, hc1, hc2, _, hcells⟩ := hr
  have HC := Lib.hid hcells; clear hcells
  obtain ⟨n, hn⟩ : ∃ n, xs.length = n := ⟨_, rfl⟩
  rw [hn] at hc1 HC ⊢
  have HN := Lib.hid hn; clear hn
  have HG0 := Lib.hid ((Grw.refl w).alloc (.cells #[.string h, .string p] 25))
  go_enter Try.func37, Try.ntmps37
  go_wp2
  go_loopw [5] (fun i wr => ∃ (k : Nat), k ≤ n ∧ i = .int .i64 k ∧ notIn xs (h, p) k ∧ Grw w wr ∧ wr.cell? ⟨w.heap.size, 0, none⟩ = some (.string h) ∧ wr.cell? ⟨w.heap.size, 1, none⟩ = some (.string p))
    (fun i _ => n - (intOf i).toNat)
  case atStart => exact ⟨0, Nat.zero_le _, rfl, (fun _ h => absurd h (Nat.not_lt_zero _)), HG0.out, by simp, by simp⟩
  case round =>
    obtain ⟨k, hk, rfl, hnot, hg, q0, q1⟩ := hrel
    have HNI := Lib.hid hnot; have HG := Lib.hid hg
    clear hnot hg
    by_cases hlt : (k : Int) < (n : Int)
    · rcases HC.out with h0 | ⟨g, off, rfl, hg, hcells⟩
      · omega
      · obtain ⟨x, y, hx⟩ := ad_at (xs := xs) (j := k) (by have := HN.out; omega)
        have c0 : wr.cell? ⟨g, off + k * 2, none⟩ = some (.string x) := by rw [HG.out.below.cell (show g < _ by omega)]; exact hcells k _ hx 0 (by omega)
        have c1 : wr.cell? ⟨g, off + k * 2 + 1, none⟩ = some (.string y) := by rw [HG.out.below.cell (show g < _ by omega)]; exact hcells k _ hx 1 (by omega)
        have hbk : w.heap.size < wr.heap.size := World.block_lt_of_cell? wr _ q0
        have HX := Lib.hid hx
        clear hcells hx
        by_cases e1 : x = h
        · have e3 : (x.toList == h.toList) = true := beqL_yes e1
          by_cases e2 : y = p
          · have e4 : (y.toList == p.toList) = true := beqL_yes e2
            have HR := Lib.hid (show hasA xs (h, p) = true from hasA_yes (by rw [HX.out, e1, e2]))
            clear e1 e2
            go_wp2
            go_quiet (fail)
            go_wp2
            go_ret
            exact ⟨ret_b HR.out.symm, (HG.out.drewN _)⟩
          · have e4 : (y.toList == p.toList) = false := beqL_no e2
            have HR := Lib.hid (HNI.out.succ HX.out (fun e => e2 (Prod.mk.inj e).2))
            clear e1 e2
            go_wp2
            go_quiet (fail)
            go_wp2
            go_roundw
            case rel => exact ⟨k + 1, by omega, by go_num, HR.out, (HG.out.drewN _), q0, q1⟩
            case measure => simp [intOf]; omega
        · have e3 : (x.toList == h.toList) = false := beqL_no e1
          have HR := Lib.hid (HNI.out.succ HX.out (fun e => e1 (Prod.mk.inj e).1))
          clear e1
          go_wp2
          go_quiet (fail)
          go_wp2
          go_roundw
          case rel => exact ⟨k + 1, by omega, by go_num, HR.out, (HG.out.drewN _), q0, q1⟩
          case measure => simp [intOf]; omega
    · have hkn : decide ((k : Int) < (n : Int)) = false := decide_eq_false hlt
      have HR := Lib.hid (hasA_no HNI.out (show k = xs.length by have := HN.out; omega))
      go_wp2
      go_ret
      exact ⟨ret_b HR.out.symm, HG.out⟩
end Go.Proofs.Ytojpbdhkcpfeaaa
