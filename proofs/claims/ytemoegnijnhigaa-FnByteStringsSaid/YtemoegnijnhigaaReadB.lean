/- Helper contracts: ReadBytes of the program and of the model give the same: a new slice with the bytes, the offset behind them, and whether there are such. Asked: the slice reads as the list named, of bytes. -/
import Derived.Test.YtemoegnijnhigaaReadI
namespace Go.Proofs.Ytemoegnijnhigaa
open Go.ChangeShapes Go.WideShapes Go.ChangeAt Go.RowKit

theorem rd_some : ∀ (l : List Int) (k : Nat) (acc n : Int) (j : Nat), Bytes l → 0 ≤ acc → acc < 128 ^ k → rd l k acc = some (n, j) → 0 ≤ n ∧ n ≤ 1000000000000 ∧ k < j ∧ j ≤ k + l.length ∧ j ≤ 6 := by
  intro l
  induction l with
  | nil => intro k acc n j _ _ _ h; simp [rd] at h
  | cons x l ih =>
    intro k acc n j hb h0 h1 h
    have hs := acc_step (x := x) h0 h1
    by_cases hk : 6 ≤ k
    · rw [rd_stop _ _ _ hk] at h; cases h
    · by_cases hx : x < 128
      · by_cases hbad : (x = 0 ∧ 0 < k) ∨ 1000000000000 < acc + x % 128 * 128 ^ k
        · rw [rd_bad (by omega) hx hbad] at h; cases h
        · rw [rd_good (by omega) hx hbad] at h
          simp only [Option.some.injEq, Prod.mk.injEq] at h
          obtain ⟨rfl, rfl⟩ := h
          exact ⟨hs.1, by omega, by omega, by simp, by omega⟩
      · rw [rd_more (by omega) hx] at h
        have := ih (k + 1) _ n j (fun z hz => hb z (List.mem_cons_of_mem _ hz)) hs.1 hs.2 h
        simp only [List.length_cons]; omega
theorem readU_some {bs : List Int} {o n : Int} {k : Nat} (hb : Bytes bs) (h : readU bs o = some (n, k)) : 0 ≤ o ∧ 0 ≤ n ∧ n ≤ 1000000000000 ∧ 0 < k ∧ k ≤ 6 ∧ o + k ≤ bs.length := by
  unfold readU at h
  split at h
  · rename_i ho
    have h1 := rd_some _ _ _ _ _ (fun z hz => hb z (List.mem_of_mem_drop hz)) (Int.le_refl 0) (by decide) h
    rw [List.length_drop] at h1
    omega
  · cases h

/-- What ReadBytes gives: the bytes and the offset behind them. -/
def readB (bs : List Int) (o most : Int) : Option (List Int × Int) :=
  match readU bs o with
  | none => none
  | some (n, k) => if most < n ∨ (bs.length : Int) - (o + k) < n then none else some ((bs.take (o.toNat + k + n.toNat)).drop (o.toNat + k), o + k + n)
def bl : Option (List Int × Int) → List Int | some (l, _) => l | none => []
def bn : Option (List Int × Int) → Int | some (_, n) => n | none => 0
def bb : Option (List Int × Int) → Bool | some _ => true | none => false

theorem readB_len (bs : List Int) (o most : Int) : (bl (readB bs o most)).length ≤ bs.length := by
  unfold readB
  cases readU bs o with
  | none => simp [bl]
  | some q =>
    obtain ⟨n, k⟩ := q
    dsimp only
    split
    · simp [bl]
    · simp only [bl, List.length_drop, List.length_take]; omega

/-- A new slice, an offset and a bool. -/
def Three (k : IntKind) (e : TypeId) (r : Option (List Int × Int)) (w : World) (en : Ending) (w' : World) : Prop :=
  ∃ v, en = .returned (.tuple #[v, .int .i64 (bn r), .bool (bb r)]) ∧ Own k e w.heap.size w'.heap.size w' v (bl r) ∧ Below w.heap.size w w'

/-- b[s:s+m] of a slice. -/
theorem reads_cut {k : IntKind} {hi n cap : Nat} {w : World} {ad : Addr} {bs : List Int} (h : Reads k hi w (.slice (some ad) n cap) bs) {s m : Nat} (hm : s + m ≤ bs.length) :
    Reads k hi w (.slice (some (ad.add s)) m (cap - s)) ((bs.take (s + m)).drop s) := by
  obtain ⟨a, cap', e, h1, h2, -, h4⟩ := h
  cases e
  have hl : ((bs.take (s + m)).drop s).length = m := by simp; omega
  refine ⟨_, cap - s, by rw [hl], by rw [hl]; omega, by omega, (fun h => by cases h), ?_⟩
  rw [hl]
  by_cases hd : m = 0
  · exact Or.inl hd
  · rcases h4 with h4 | ⟨g, off, e2, hg, hc⟩
    · omega
    · cases e2
      have e3 : (⟨g, off, none⟩ : Addr).add s = ⟨g, off + s, none⟩ := by unfold Addr.add; split <;> simp_all
      refine Or.inr ⟨g, off + s, by rw [e3], hg, fun j hj => ?_⟩
      rw [Nat.add_assoc, hc (s + j) (by omega)]
      have e4 : ((bs.take (s + m)).drop s).getD j 0 = bs.getD (s + j) 0 := by
        rw [List.getD_eq_getElem?_getD, List.getD_eq_getElem?_getD, List.getElem?_drop, List.getElem?_take, if_pos (by omega)]
      rw [e4]

set_option maxHeartbeats 2000000 in
theorem implReadB_any (v : Value) (hi : Nat) (bs : List Int) (o most : Int) (w : World) (hr : Reads .u8 hi w v bs) (hh : hi ≤ w.heap.size) (hb : Bytes bs) (hl : bs.length ≤ 1099511627776) :
    Calls Try.prog 22 #[v, .int .i64 o, .int .i64 most] w (Three .u8 5 (readB bs o most) w) := by
  obtain ⟨i0, hi0, hz0, hz1, hz2⟩ := info_parts info8
  have HR := Lib.hid hr; have HBY := Lib.hid hb
  obtain ⟨a, cap, rfl, h1, h2, -, -⟩ := hr
  clear hb
  cases hru : readU bs o with
  | none =>
    have hr : readB bs o most = none := by unfold readB; rw [hru]
    have HRU := Lib.hid hru; have HRB := Lib.hid hr; clear hru hr
    go_enter Try.func22, Try.ntmps22
    go_wp2_with fail
    refine (implRead_any _ hi bs o w HR.out hh HBY.out hl).mono ?_
    rintro e w1 ⟨he, hb1⟩
    rw [HRU.out] at he
    simp only [uval, uv, un, ub] at he
    subst he
    have HM := Lib.hid (Mine.empty .u8 5 w w1 w.heap.size hb1 hb1.size); clear hb1
    go_wp2
    go_ret3
    exact ⟨_, by rw [HRB.out]; rfl, by rw [HRB.out]; exact HM.out.own, HM.out.below⟩
  | some q =>
    obtain ⟨n, k⟩ := q
    obtain ⟨o0, n0, n1, k0, k6, hok⟩ := readU_some HBY.out hru
    have HRU := Lib.hid hru
    by_cases hbad : most < n ∨ (bs.length : Int) - (o + k) < n
    · have hr : readB bs o most = none := by unfold readB; rw [hru]; exact if_pos hbad
      have HRB := Lib.hid hr; clear hru hr
      have HBD := Lib.hid hbad; clear hbad
      go_enter Try.func22, Try.ntmps22
      go_wp2_with fail
      refine (implRead_any _ hi bs o w HR.out hh HBY.out hl).mono ?_
      rintro e w1 ⟨he, hb1⟩
      rw [HRU.out] at he
      simp only [uval, uv, un, ub] at he
      subst he
      have HM := Lib.hid (Mine.empty .u8 5 w w1 w.heap.size hb1 hb1.size); clear hb1
      by_cases hm : most < n
      · go_wp2
        go_ret3
        exact ⟨_, by rw [HRB.out]; rfl, by rw [HRB.out]; exact HM.out.own, HM.out.below⟩
      · have hm2 : (bs.length : Int) - (o + k) < n := by have := HBD.out; omega
        go_wp2
        go_ret3
        exact ⟨_, by rw [HRB.out]; rfl, by rw [HRB.out]; exact HM.out.own, HM.out.below⟩
    · obtain ⟨p, rfl⟩ := Int.eq_ofNat_of_zero_le o0
      obtain ⟨m, rfl⟩ := Int.eq_ofNat_of_zero_le n0
      have hr : readB bs p most = some ((bs.take (p + k + m)).drop (p + k), (p : Int) + k + m) := by unfold readB; rw [hru]; exact if_neg hbad
      have HRB := Lib.hid hr; clear hru hr
      have hb1 : ¬ most < (m : Int) := by omega
      have hb2 : ¬ (bs.length : Int) - ((p : Int) + k) < m := by omega
      clear hbad
      go_enter Try.func22, Try.ntmps22
      go_wp2_with fail
      refine (implRead_any _ hi bs p w HR.out hh HBY.out hl).mono ?_
      rintro e w1 ⟨he, hb1⟩
      rw [HRU.out] at he
      simp only [uval, uv, un, ub] at he
      subst he
      have HM := Lib.hid (Mine.empty .u8 5 w w1 w.heap.size hb1 hb1.size)
      have HB1 := Lib.hid (hb1.alloc hb1.size (.cells #[] 5)); clear hb1
      go_wp2_with fail
      refine (take_any _ hi bs (p + k) (p + k + m) _ (HR.out.below HB1.out hh) (by omega) (by omega)).mono ?_
      rintro e w2 ⟨⟨v2, rfl, hr2⟩, rfl⟩
      have HR2 := Lib.hid hr2; clear hr2
      go_wp2_with (at_builtin; refine wpList_app rfl _ _ 22 rfl .u8 5 i0 (.int .u8 0) 1 Try.underlying22 hi0 hz0 hz1 hz2 rfl w.heap.size w _ [] rfl HM.out _ _ ((bs.take (p + k + m)).drop (p + k)) rfl HR2.out (by decide) ?c3 ?_)
      case c3 => simp; omega
      intro v' w3 hm3
      have HM3 := Lib.hid hm3; clear hm3
      go_wp2
      go_ret3
      exact ⟨_, by rw [HRB.out]; rfl, by rw [HRB.out]; simpa [bl] using HM3.out.own, HM3.out.below⟩

end Go.Proofs.Ytemoegnijnhigaa
