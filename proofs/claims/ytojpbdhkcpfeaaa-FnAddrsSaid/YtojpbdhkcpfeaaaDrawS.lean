/- Helper contracts over the draws of slices and pairs of addresses: what is drawn is the call's own, its strings are short, and nothing that lay in memory before is written but the reader's own block. -/
import Derived.Test.YtojpbdhkcpfeaaaDrawA
import Derived.Test.YtojpbdhkcpfeaaaAdrS
import Derived.Deep.RegionWith
import Derived.RegionTactic
namespace Go.Proofs.Ytojpbdhkcpfeaaa
open Go.ChangeShapes Go.WideShapes Go.ChangeAt Go.RowKit

theorem ownsRow_kept {lo k n b hi : Nat} {e : TypeId} {w w' : World} {v : Value} {cs : List Value} (h : w.ownsRow lo e k v n cs) (hk : Kept b w w') (hb : b < lo ∨ hi ≤ b) (hh : ∀ g, v.ownBlock = some g → g < hi) : w'.ownsRow lo e k v n cs := by
  refine ⟨h.1, ?_⟩
  rcases h.2 with h1 | ⟨g, cap, cur, h1, h2, h3, h4⟩
  · exact Or.inl h1
  · have hg := hh g (by rw [h1]; rfl)
    have hlt := (h.lt g (by rw [h1]; rfl)).2
    exact Or.inr ⟨g, cap, cur, h1, h2, by rw [hk.block g hlt (by omega)]; exact h3, h4⟩
theorem kept_belowA {b B : Nat} {w1 w2 w3 : World} (h : Kept b w1 w2) (k : Below B w2 w3) (hB : w1.heap.size ≤ B) : Kept b w1 w3 :=
  ⟨k.os.trans h.os, k.tape.trans h.tape, k.output.trans h.output, Nat.le_trans h.size k.size, fun i hi hn => (k.block i (by omega)).trans (h.block i hi hn)⟩

/-- Short strings. -/
def Short (xs : List Ad) : Prop := ∀ x ∈ xs, x.1.size ≤ 100 ∧ x.2.size ≤ 100
/-- A new slice of at most five addresses; the reader goes on. -/
def AddrsOut (b : Nat) (sv : Value) (len : Nat) (w : World) (en : Ending) (w' : World) : Prop :=
  ∃ v xs, en = .returned v ∧ OwnK encA 2 25 w.heap.size w'.heap.size w' v xs ∧ Short xs ∧ xs.length ≤ 5 ∧ Cur b sv len w' ∧ Kept b w w'

set_option maxRecDepth 100000 in
set_option maxHeartbeats 2000000 in
theorem addrs_any (b : Nat) (sv : Value) (len : Nat) (w : World) (hc : Cur b sv len w) :
    Calls Try.prog 44 #[.pointer (some ⟨b, 0, none⟩)] w (AddrsOut b sv len w) := by
  obtain ⟨i0, hi0, hz0, hz1, hz2⟩ := info_parts infoA
  have HZ2 := Lib.hid hz2; clear hz2
  have hbl := hc.lt
  have HC0 := Lib.hid (hc.alloc (.cells #[] 25)); clear hc
  have HM := Lib.hid (MineK.empty encA 2 25 w w w.heap.size (Below.refl _ _) (Nat.le_refl _))
  go_enter Try.func44, Try.ntmps44
  go_wp2_with fail
  refine (below_any b sv len 6 _ HC0.out).mono ?_
  rintro e w1 ⟨y, rfl, y0, y1, y2, hc1, ho1⟩
  have hy := y1 (by omega)
  have hrow1 := ownsRow_kept (hi := (w.alloc (.cells #[] 25)).heap.size) HM.out.row ho1.kept (Or.inl hbl) (fun g hg => (HM.out.row.lt g hg).2)
  have hk1 : Kept b w w1 := (Kept.alloc b w _).trans ho1.kept
  have HC1 := Lib.hid hc1; have HO1 := Lib.hid hrow1; have HK1 := Lib.hid hk1; have HS1 := Lib.hid hk1.size
  clear hc1 ho1 y1 hrow1 hk1
  obtain ⟨m, rfl⟩ := Int.eq_ofNat_of_zero_le y0
  go_wp2
  go_loopw [3, 4] (fun v i wr => ∃ (k : Nat) (xs : List Ad), k ≤ m ∧ i = .int .i64 k ∧ xs.length + k = m ∧ Short xs ∧ wr.ownsRow w.heap.size 25 2 v xs.length (xs.flatMap encA) ∧ w.heap.size ≤ wr.heap.size ∧ Cur b sv len wr ∧ Kept b w wr) (fun _ i _ => (intOf i).toNat)
  case atStart => exact ⟨m, [], Nat.le_refl _, rfl, by simp, (fun z hz => by cases hz), HO1.out, HS1.out, HC1.out, HK1.out⟩
  case round =>
    obtain ⟨k, xs, hk, rfl, hz, hsh, hown, hsz, hcur, hkept⟩ := hrel
    have HZ := Lib.hid hz; have HSH := Lib.hid hsh; have HO := Lib.hid hown; have HS := Lib.hid hsz; have HCU := Lib.hid hcur; have HK := Lib.hid hkept
    clear hz hsh hown hsz hcur hkept HC0 HM HO1 HK1 HS1 HC1
    by_cases hlt : (0 : Int) < (k : Int)
    · go_wp2_with fail
      refine (addr_any b sv len wr HCU.out).mono ?_
      rintro e w2 ⟨h, p, rfl, hh, hp, hc2, hk2⟩
      have HC2 := Lib.hid hc2; have HK2 := Lib.hid hk2
      have hrow2 := ownsRow_kept (hi := wr.heap.size) HO.out hk2 (Or.inl hbl) (fun g hg => (HO.out.lt g hg).2)
      have HM1 := Lib.hid (show MineK encA 2 25 w.heap.size w2 w2 u3 xs from ⟨hrow2, Below.refl _ _, Nat.le_trans HS.out hk2.size⟩)
      have HLN := Lib.hid (show xs.length + [(h, p)].length ≤ 137438953472 by have := HZ.out; simp; omega)
      clear hrow2 hc2 hk2
      go_wp2_with (at_builtin; refine wpList_appK rfl _ _ 33 rfl encA_len encA_one (by decide) 25 i0 zA 32 Try.underlying33 hi0 hz0 hz1 HZ2.out rfl w.heap.size w2 _ xs rfl (HM1.out.alloc _) _ _ [(h, p)] rfl (readsK_one2 encA 25 w2 (x := (h, p)) rfl) (by decide) HLN.out ?_)
      intro v' w3 hm3 hnil3
      have HM3 := Lib.hid hm3; clear hm3 hnil3
      go_wp2
      go_roundw
      case rel => exact ⟨k - 1, xs ++ [(h, p)], by omega, by go_num, by rw [List.length_append]; have := HZ.out; simp; omega, (fun z hz => by
          rcases List.mem_append.1 hz with h' | h'
          · exact HSH.out z h'
          · simp at h'; subst h'; exact ⟨hh, hp⟩), HM3.out.row, HM3.out.size, cur_belowA HC2.out HM3.out.below hbl, kept_belowA (HK.out.trans HK2.out) HM3.out.below (Nat.le_refl _)⟩
      case measure => simp [intOf]; omega
    · go_wp2
      go_ret
      exact ⟨_, xs, rfl, ⟨HO.out, fun g hg => (HO.out.lt g hg).2⟩, HSH.out, by have := HZ.out; omega, HCU.out, HK.out⟩

/-- A new slice of at most five addresses; nothing old is written. -/
def DrawnAS (w : World) (en : Ending) (w' : World) : Prop :=
  ∃ v xs, en = .returned v ∧ OwnK encA 2 25 w.heap.size w'.heap.size w' v xs ∧ Short xs ∧ xs.length ≤ 5 ∧ Below w.heap.size w w'

set_option maxHeartbeats 1000000 in
theorem drawSort_any (sv : Value) (len : Nat) (w : World) (hc : CodeOk w.heap.size w sv len) :
    Calls Try.prog 18 #[sv] w (DrawnAS w) := by
  go_enter Try.func18, Try.ntmps18
  go_wp2_with fail
  refine (new_any sv len _ hc).mono ?_
  rintro e w1 ⟨rfl, hc1, hb1⟩
  have HC1 := Lib.hid hc1; have HB1 := Lib.hid hb1; have hs1 := hb1.size; clear hc1 hb1 hc
  go_wp2_with fail
  refine (addrs_any _ sv len _ HC1.out).mono ?_
  rintro e w2 ⟨v, xs, rfl, ho, hsh, hl, hc2, hk2⟩
  have HO := Lib.hid (ho.mono hs1 (Nat.le_refl _)); have HB2 := Lib.hid (HB1.out.trans (hk2.below hs1)); have HSH := Lib.hid hsh; clear hc2 hk2 ho hsh
  go_wp2_with fail
  go_ret
  exact ⟨v, xs, rfl, HO.out, HSH.out, hl, HB2.out⟩

/-- Two addresses; nothing old is written. -/
def DrawnAA (w : World) (en : Ending) (w' : World) : Prop :=
  ∃ h p h' p' : ByteArray, en = .returned (.tuple #[.agg #[.string h, .string p], .agg #[.string h', .string p']]) ∧ h.size ≤ 100 ∧ p.size ≤ 100 ∧ h'.size ≤ 100 ∧ p'.size ≤ 100 ∧ Below w.heap.size w w'

theorem two_alloc (w : World) (o1 o2 : Obj) : ((w.alloc o1).alloc o2).heap[w.heap.size]? = some o1 ∧ ((w.alloc o1).alloc o2).heap[w.heap.size + 1]? = some o2 := by
  constructor
  · rw [Below.heap_alloc _ _ _ (by rw [size_alloc1]; omega)]; exact heap_new w o1
  · have := heap_new (w.alloc o1) o2
    rwa [size_alloc1] at this

/-- Two blocks of two cells, both stored. -/
theorem two_pairs {B r t : Nat} {w w3 : World} {T : TypeId} {x y x' y' : Value} (u0 u1 v0 v1 : Value) (hb : Below B w w3) (hr : B ≤ r) (ht : B ≤ t) (hrt : r ≠ t) (h1 : w3.heap[r]? = some (.cells #[x, y] T (0, 0))) (h2 : w3.heap[t]? = some (.cells #[x', y'] T (0, 0))) :
    let W := (((w3.setCell ⟨r, 0, none⟩ u0).setCell ⟨r, 1, none⟩ u1).setCell ⟨t, 0, none⟩ v0).setCell ⟨t, 1, none⟩ v1
    W.cell? ⟨r, 0, none⟩ = some u0 ∧ W.cell? ⟨r, 1, none⟩ = some u1 ∧ W.cell? ⟨t, 0, none⟩ = some v0 ∧ W.cell? ⟨t, 1, none⟩ = some v1 ∧ Below B w W := by
  intro W
  have k1 := heap_two (u := u0) (v := u1) h1
  have k2 : ((w3.setCell ⟨r, 0, none⟩ u0).setCell ⟨r, 1, none⟩ u1).heap[t]? = some (.cells #[x', y'] T (0, 0)) := by
    rw [Below.heap_setCell _ _ _ _ (Ne.symm hrt), Below.heap_setCell _ _ _ _ (Ne.symm hrt)]; exact h2
  have k3 : W.heap[t]? = _ := heap_two (u := v0) (v := v1) k2
  have k4 : W.heap[r]? = some (.cells #[u0, u1] T (0, 0)) := by
    show ((((w3.setCell ⟨r, 0, none⟩ u0).setCell ⟨r, 1, none⟩ u1).setCell ⟨t, 0, none⟩ v0).setCell ⟨t, 1, none⟩ v1).heap[r]? = _
    rw [Below.heap_setCell _ _ _ _ hrt, Below.heap_setCell _ _ _ _ hrt]; exact k1
  obtain ⟨a0, a1, _, _⟩ := cells_two k3
  obtain ⟨b0, b1, _, _⟩ := cells_two k4
  exact ⟨b0, b1, a0, a1, below_two (below_two hb hr _ _) ht _ _⟩

set_option maxRecDepth 100000 in
set_option maxHeartbeats 2000000 in
theorem drawCmp_any (sv : Value) (len : Nat) (w : World) (hc : CodeOk w.heap.size w sv len) :
    Calls Try.prog 22 #[sv] w (DrawnAA w) := by
  have hb00 : Below w.heap.size w ((w.alloc (.cells #[.string ⟨#[]⟩, .string ⟨#[]⟩] 25)).alloc (.cells #[.string ⟨#[]⟩, .string ⟨#[]⟩] 25)) := ((Below.refl w.heap.size w).alloc (Nat.le_refl _) _).alloc (by rw [size_alloc1]; omega) _
  have HCO := Lib.hid (codeOk_later hc hb00)
  have HB0 := Lib.hid hb00
  clear hc hb00
  go_enter Try.func22, Try.ntmps22
  go_wp2_with fail
  refine (new_any sv len _ HCO.out).mono ?_
  rintro e w1 ⟨rfl, hc1, hb1⟩
  have HC1 := Lib.hid hc1
  rw [size_alloc1, size_alloc1] at HC1 hb1 ⊢
  have htw := two_alloc w (.cells #[.string ⟨#[]⟩, .string ⟨#[]⟩] 25) (.cells #[.string ⟨#[]⟩, .string ⟨#[]⟩] 25)
  have hr1 := (hb1.block w.heap.size (by omega)).trans htw.1
  have ht1 := (hb1.block (w.heap.size + 1) (by omega)).trans htw.2
  have HR1 := Lib.hid hr1; have HT1 := Lib.hid ht1
  have HB1 := Lib.hid (HB0.out.trans (hb1.mono (by omega)))
  have hs1 : w.heap.size + 1 + 1 < w1.heap.size := HC1.out.lt
  clear hc1 hb1 hr1 ht1 htw
  go_wp2_with fail
  refine (any_any _ sv len _ HC1.out).mono ?_
  rintro e w2 ⟨h, p, rfl, hh, hp, hc2, ho2⟩
  have hs2 := ho2.size
  have HC2 := Lib.hid (hc2.alloc (.cells #[.string h, .string p] 25))
  have hr2 := ho2.heap (r := w.heap.size) (by omega) (by omega) HR1.out
  have ht2 := ho2.heap (r := w.heap.size + 1) (by omega) (by omega) HT1.out
  have HR2 := Lib.hid ((Below.heap_alloc w2 (.cells #[.string h, .string p] 25) _ (lt_heap hr2)).trans hr2)
  have HT2 := Lib.hid ((Below.heap_alloc w2 (.cells #[.string h, .string p] 25) _ (lt_heap ht2)).trans ht2)
  have HA2 := Lib.hid (heap_new w2 (.cells #[.string h, .string p] 25))
  have HB2 := Lib.hid ((HB1.out.trans ((ho2.below (by omega)).mono (show w.heap.size ≤ w.heap.size + 2 by omega))).alloc (show w.heap.size ≤ w2.heap.size by omega) (.cells #[.string h, .string p] 25))
  clear hc2 ho2 hr2 ht2
  go_wp2_with fail
  refine (once_any _ sv len 4 _ HC2.out).mono ?_
  rintro e w3 ⟨x, rfl, hc3, hk3⟩
  have hs3 : w2.heap.size + 1 ≤ w3.heap.size := by have := hk3.size; rw [size_alloc1] at this; omega
  have HC3 := Lib.hid hc3
  have hr3 := hk3.heap (r := w.heap.size) (lt_heap HR2.out) (by omega) HR2.out
  have ht3 := hk3.heap (r := w.heap.size + 1) (lt_heap HT2.out) (by omega) HT2.out
  have ha3 := hk3.heap (r := w2.heap.size) (lt_heap HA2.out) (by omega) HA2.out
  have HB3 := Lib.hid (HB2.out.trans ((hk3.below (by rw [size_alloc1]; omega)).mono (show w.heap.size ≤ w.heap.size + 2 by omega)))
  have HR3 := Lib.hid hr3; have HT3 := Lib.hid ht3; have HA3 := Lib.hid ha3
  clear hc3 hk3
  cases x
  · obtain ⟨c0, c1, f0, f1⟩ := cells_two hr3
    obtain ⟨d0, d1, g0, g1⟩ := cells_two ht3
    obtain ⟨a0, a1, _, _⟩ := cells_two ha3
    have hlt3 : w2.heap.size < w3.heap.size := by omega
    have HC3' := Lib.hid (show Cur (w.heap.size + 1 + 1) sv len w3.drew from HC3.out)
    clear hr3 ht3 ha3
    go_wp2_with fail
    go_region_with (go_at_call 43; refine (any_any _ sv len _ HC3'.out).mono ?_; rintro e w4 ⟨h', p', rfl, hh', hp', hc4, hk4⟩; have hr4 := hk4.heap (r := w.heap.size) (lt_heap HR3.out) (by omega) HR3.out; have ht4 := hk4.heap (r := w.heap.size + 1) (lt_heap HT3.out) (by omega) HT3.out; have ha4 := hk4.heap (r := w2.heap.size) (lt_heap HA3.out) (by omega) HA3.out; obtain ⟨c2, c3, f2, f3⟩ := cells_two hr4; obtain ⟨d2, d3, g2, g3⟩ := cells_two ht4; obtain ⟨a2, a3, _, _⟩ := cells_two ha4)
    all_goals
      have HB4 := Lib.hid (HB3.out.trans ((below_undrew (hk4.below (show w.heap.size + 1 + 1 ≤ w3.heap.size by omega))).mono (show w.heap.size ≤ w.heap.size + 1 + 1 by omega)))
      obtain ⟨q0, q1, r0, r1, hbW⟩ := two_pairs (.string h) (.string p) (.string h') (.string p') HB4.out (Nat.le_refl _) (Nat.le_succ _) (show w.heap.size ≠ w.heap.size + 1 by omega) hr4 ht4
      clear hc4 hk4 hr4 ht4 ha4 c2 c3 d2 d3 f2 f3 g2 g3 a2 a3 c0 c1 f0 f1 d0 d1 g0 g1 a0 a1
      go_wp2_with fail
      refine bodyPost_ret (v := .tuple #[.agg #[.string h, .string p], .agg #[.string h', .string p']]) (by simp [results, Try.results22, go_sem, q0, q1, r0, r1]) rfl ⟨h, p, h', p', rfl, hh, hp, hh', hp', hbW⟩
  · obtain ⟨c0, c1, f0, f1⟩ := cells_two hr3
    obtain ⟨d0, d1, g0, g1⟩ := cells_two ht3
    obtain ⟨a0, a1, _, _⟩ := cells_two ha3
    clear hr3 ht3 ha3
    go_wp2_with fail
    go_region
    clear c0 c1 f0 f1 d0 d1 g0 g1 a0 a1
    obtain ⟨q0, q1, r0, r1, hbW⟩ := two_pairs (.string h) (.string p) (.string h) (.string p) HB3.out (Nat.le_refl _) (Nat.le_succ _) (show w.heap.size ≠ w.heap.size + 1 by omega) HR3.out HT3.out
    go_wp2_with fail
    refine bodyPost_ret (v := .tuple #[.agg #[.string h, .string p], .agg #[.string h, .string p]]) (by simp [results, Try.results22, go_sem, q0, q1, r0, r1]) rfl ⟨h, p, h, p, rfl, hh, hp, hh, hp, hbW.drew⟩
end Go.Proofs.Ytojpbdhkcpfeaaa
