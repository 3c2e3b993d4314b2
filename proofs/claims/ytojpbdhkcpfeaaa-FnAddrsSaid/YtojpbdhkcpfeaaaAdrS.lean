/- Helper contracts over the functions with which the laws copy, measure and compare slices of addresses. Asked: the slices read as the lists named. -/
import Derived.Test.YtojpbdhkcpfeaaaAdrH
import Derived.Shelf.SlSortCmp.QuietGrown
namespace Go.Proofs.Ytojpbdhkcpfeaaa
open Go.ChangeShapes Go.WideShapes Go.ChangeAt Go.RowKit

theorem infoA : (Try.prog.info? 25).map (fun i => (i.zero, i.size, i.bytes)) = some (some (.agg #[.string ⟨#[]⟩, .string ⟨#[]⟩]), 2, 32) := by kernel_rfl
theorem encA_len (a : Ad) : (encA a).length = 2 := rfl
theorem encA_one (a : Ad) : ∀ u ∈ encA a, u.oneCell' = true := by
  intro u hu
  simp only [encA, List.mem_cons, List.mem_nil_iff, or_false] at hu
  rcases hu with rfl | rfl <;> rfl
abbrev zA : Value := .agg #[.string ⟨#[]⟩, .string ⟨#[]⟩]

/-- A new slice of these elements, the call's own; of what lay in memory nothing is written. -/
def NewK {α : Type} (enc : α → List Value) (k : Nat) (e : TypeId) (xs : List α) (w : World) (en : Ending) (w' : World) : Prop :=
  ∃ v, en = .returned v ∧ OwnK enc k e w.heap.size w'.heap.size w' v xs ∧ Below w.heap.size w w'
theorem ad_at {xs : List Ad} {j : Nat} (h : j < xs.length) : ∃ a b, xs[j]? = some (a, b) := ⟨xs[j].1, xs[j].2, List.getElem?_eq_getElem h⟩

theorem row_later {lo k n : Nat} {e : TypeId} {w w' : World} {v : Value} {cs : List Value} (h : w.ownsRow lo e k v n cs) (hb : Below w.heap.size w w') : w'.ownsRow lo e k v n cs := by
  refine ⟨h.1, ?_⟩
  rcases h.2 with h1 | ⟨g, cap, cur, h1, h2, h3, h4⟩
  · exact Or.inl h1
  · have hg := (h.lt g (by rw [h1]; rfl)).2
    exact Or.inr ⟨g, cap, cur, h1, h2, by rw [hb.block g hg]; exact h3, h4⟩

set_option maxHeartbeats 2000000 in
theorem toS_any (v : Value) (hi : Nat) (xs : List Ad) (w : World) (hr : ReadsK encA 2 hi w v xs) (hh : hi ≤ w.heap.size) (hl : xs.length ≤ 4398046511104) :
    Calls Try.prog 33 #[v] w (NewK encA 2 25 xs w) := by
  obtain ⟨i0, hi0, hz0, hz1, hz2⟩ := info_parts infoA
  obtain ⟨a, cap, rfl, hc1, hc2, _, hcells⟩ := hr
  have HC := Lib.hid hcells; clear hcells
  have HI := Lib.hid hz2; clear hz2
  obtain ⟨n, hn⟩ : ∃ n, xs.length = n := ⟨_, rfl⟩
  rw [hn] at hl hc1 HC ⊢
  go_enter Try.func33, Try.ntmps33
  go_wp2_with (at_make; refine wpList_make_full _ rfl _ _ 33 rfl w.heap.size 25 i0 zA 2 Try.underlying33 hi0 hz0 hz1 .i64 .i64 _ _ n rfl rfl rfl rfl ?c1 ?c2 (Nat.le_refl _) ?_)
  case c1 => rw [HI.out]; omega
  case c2 => unfold maxLen; omega
  intro w1 hown1 hgr1
  have hb1 : Below w.heap.size w w1 := (Below.refl _ _).grown hgr1 (Nat.le_refl _) (fun k h => by cases h)
  have HO1 := Lib.hid hown1; have HB1 := Lib.hid hb1; have HSZ1 := Lib.hid hgr1.size; clear hown1 hgr1 hb1
  go_wp2
  go_loopw [4] (fun i wr => ∃ (k : Nat) (cs : List Value), k ≤ n ∧ i = .int .i64 k ∧ wr.ownsRow w.heap.size 25 2 (.slice (some ⟨w.heap.size, 0, none⟩) n n) n cs ∧ UptoK encA 2 xs k cs ∧ Below w.heap.size w wr)
    (fun i _ => n - (intOf i).toNat)
  case atStart => exact ⟨0, _, Nat.zero_le _, rfl, HO1.out, UptoK.zero _ _ _ _, HB1.out⟩
  case round =>
    obtain ⟨k, cs, hk, rfl, hown, hup, hbw⟩ := hrel
    have HO := Lib.hid hown; have HU := Lib.hid hup; have HB := Lib.hid hbw
    clear hown hup hbw HO1 HB1
    by_cases hlt : (k : Int) < (n : Int)
    · rcases HC.out with h0 | ⟨g, off, rfl, hg, hcells⟩
      · omega
      · obtain ⟨x, y, hx⟩ := ad_at (xs := xs) (j := k) (by omega)
        have c0 : wr.cell? ⟨g, off + k * 2, none⟩ = some (.string x) := by rw [HB.out.cell (show g < _ by omega)]; exact hcells k _ hx 0 (by omega)
        have c1 : wr.cell? ⟨g, off + k * 2 + 1, none⟩ = some (.string y) := by rw [HB.out.cell (show g < _ by omega)]; exact hcells k _ hx 1 (by omega)
        have HX := Lib.hid hx
        clear hcells hx
        go_wp2_with fail
        refine (toA_any x y _).mono ?_
        rintro e w2 ⟨rfl, hg2⟩
        have hb2 := hg2.below
        have hown2 := row_later HO.out hb2
        have hxl : cs.length = n * 2 := HO.out.1
        obtain ⟨u0, hu0⟩ : ∃ u, cs[k * 2]? = some u := ⟨_, List.getElem?_eq_getElem (by omega)⟩
        obtain ⟨u1, hu1⟩ : ∃ u, cs[k * 2 + 1]? = some u := ⟨_, List.getElem?_eq_getElem (by omega)⟩
        have d0 : w2.cell? ⟨w.heap.size, k * 2, none⟩ = some u0 := by rw [hown2.cellAt (k * 2) (by omega)]; exact hu0
        have d1 : w2.cell? ⟨w.heap.size, k * 2 + 1, none⟩ = some u1 := by rw [hown2.cellAt (k * 2 + 1) (by omega)]; exact hu1
        have f0 : w2.frozen? ⟨w.heap.size, k * 2, none⟩ = false := hown2.frozenAt _
        have f1 : w2.frozen? ⟨w.heap.size, k * 2 + 1, none⟩ = false := hown2.frozenAt _
        have HO2 := Lib.hid hown2
        have HB2 := Lib.hid (HB.out.trans (hb2.mono HB.out.size))
        clear hu0 hu1 hown2 hb2 hg2
        go_wp2
        go_roundw
        case rel => exact ⟨k + 1, _, by omega, by go_num, ((HO2.out.stored _ _).1.stored _ _).1, HU.out.set2 (by omega) HX.out rfl, (HB2.out.setCell (Nat.le_refl _) _).setCell (Nat.le_refl _) _⟩
        case measure => simp [intOf]; omega
    · have hkn : k = n := by omega
      subst hkn
      go_wp2
      go_ret
      refine ⟨_, rfl, ⟨?_, ?_⟩, HB.out⟩
      · have h1 := HO.out
        rw [HU.out.full encA_len h1.1 hn] at h1
        rw [hn]; exact h1
      · intro g hg; exact (HO.out.lt g hg).2

set_option maxHeartbeats 2000000 in
theorem eqS_any (v u : Value) (hi hi' : Nat) (xs : List Ad) (w : World) (hv : ReadsK encA 2 hi w v xs) (hu : ReadsK encA 2 hi' w u xs) (h1 : hi ≤ w.heap.size) (h2 : hi' ≤ w.heap.size) :
    Calls Try.prog 34 #[v, u] w fun e w' => e = .returned (.bool true) ∧ Grw w w' := by
  have mixed : Try.prog.follows .mixedOrders = true := by kernel_rfl
  obtain ⟨a, cap, rfl, hc1, hc2, _, hcells⟩ := hv
  obtain ⟨a', cap', rfl, hc1', hc2', _, hcells'⟩ := hu
  have HC := Lib.hid hcells; have HC' := Lib.hid hcells'; clear hcells hcells'
  obtain ⟨n, hn⟩ : ∃ n, xs.length = n := ⟨_, rfl⟩
  rw [hn] at hc1 hc1' HC HC' ⊢
  have HN := Lib.hid hn; clear hn
  go_enter Try.func34, Try.ntmps34
  go_wp2
  go_loopw [5] (fun i wr => ∃ (k : Nat), k ≤ n ∧ i = .int .i64 k ∧ Grw w wr)
    (fun i _ => n - (intOf i).toNat)
  case atStart => exact ⟨0, Nat.zero_le _, rfl, Grw.refl _⟩
  case round =>
    obtain ⟨k, hk, rfl, hs⟩ := hrel
    have HS := Lib.hid hs
    clear hs
    by_cases hlt : (k : Int) < (n : Int)
    · rcases HC.out with h0 | ⟨g, off, rfl, hg, hcells⟩
      · omega
      · rcases HC'.out with h0 | ⟨g', off', rfl, hg', hcells'⟩
        · omega
        · obtain ⟨x, y, hx⟩ := ad_at (xs := xs) (j := k) (by have := HN.out; omega)
          have c0 : ∀ m os, (Sort.grow (wr.drewN m) os).cell? ⟨g, off + k * 2, none⟩ = some (.string x) := cell_grown (by have := HS.out.below.size; show g < _; omega) (by rw [HS.out.below.cell (show g < _ by omega)]; exact hcells k _ hx 0 (by omega))
          have c1 : ∀ m os, (Sort.grow (wr.drewN m) os).cell? ⟨g, off + k * 2 + 1, none⟩ = some (.string y) := cell_grown (by have := HS.out.below.size; show g < _; omega) (by rw [HS.out.below.cell (show g < _ by omega)]; exact hcells k _ hx 1 (by omega))
          have d0 : ∀ m os, (Sort.grow (wr.drewN m) os).cell? ⟨g', off' + k * 2, none⟩ = some (.string x) := cell_grown (by have := HS.out.below.size; show g' < _; omega) (by rw [HS.out.below.cell (show g' < _ by omega)]; exact hcells' k _ hx 0 (by omega))
          have d1 : ∀ m os, (Sort.grow (wr.drewN m) os).cell? ⟨g', off' + k * 2 + 1, none⟩ = some (.string y) := cell_grown (by have := HS.out.below.size; show g' < _; omega) (by rw [HS.out.below.cell (show g' < _ by omega)]; exact hcells' k _ hx 1 (by omega))
          have he : ∀ W, Calls Try.prog 29 #[.agg #[.string x, .string y], .agg #[.string x, .string y]] W fun e w' => e = .returned (.bool true) ∧ ∃ q os, w' = Sort.grow (W.drewN q) os := fun W => by
            have h := eqA_any x y x y W
            rwa [dec_self] at h
          have HE := Lib.hid he
          clear hcells hcells' hx he
          go_wp2
          go_quiet_grown (first | (go_at_call 29; refine Calls.grown_of (HE.out _)))
          go_wp2
          go_roundw
          case rel => exact ⟨k + 1, by omega, by go_num, HS.out.trans ⟨_, _, rfl⟩⟩
          case measure => simp [intOf]; omega
    · have hkn : decide ((k : Int) < (n : Int)) = false := decide_eq_false hlt
      go_wp2
      go_ret
      exact ⟨rfl, HS.out⟩
end Go.Proofs.Ytojpbdhkcpfeaaa
