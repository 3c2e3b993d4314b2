/- Helper contracts over the functions with which the laws mark slices of addresses and look at them again. Asked: the slices read as the lists named. -/
import Derived.Test.YtojpbdhkcpfeaaaAdrS
import Derived.Lib.ItoaNum
import Derived.Laws.IdiomStrings
namespace Go.Proofs.Ytojpbdhkcpfeaaa
open Go.ChangeShapes Go.WideShapes Go.ChangeAt Go.RowKit

def dig (u : Nat) : UInt8 := UInt8.ofNat (48 + u % 10)
def dd (u : Nat) : List UInt8 := if u = 0 then [] else Lib.decDigits u
theorem dd_zero : dd 0 = [] := rfl
theorem dd_pos {u : Nat} (h : u ≠ 0) : dd u = Lib.decDigits u := by unfold dd; rw [if_neg h]
theorem dd_step {u : Nat} (h : u ≠ 0) : dd u = dd (u / 10) ++ [dig u] := by
  rw [dd_pos h, Lib.decDigits]
  by_cases h1 : u < 10
  · rw [dif_pos h1, show u / 10 = 0 by omega, dd_zero]; unfold dig; rw [show u % 10 = u by omega]; rfl
  · rw [dif_neg h1, dd_pos (by omega)]; rfl
theorem dec_len (u : Nat) (h : u < 18446744073709551616) : (Lib.decDigits u).length ≤ 20 := by
  rw [Lib.decDigits_length]
  by_cases h0 : u = 0
  · subst h0; rw [Lib.nDigits_small (by decide)]; decide
  · have h1 := Lib.nDigits_unique
    have h2 : Lib.nDigits u ≤ 20 := by
      have hp := Lib.nDigits_pos u
      by_cases h3 : Lib.nDigits u ≤ 20
      · exact h3
      · exfalso
        have := (Lib.numDigits_eq u (by omega) h)
        obtain ⟨e, l⟩ := this
        split at e <;> omega
    exact h2
theorem conv1 (W : World) (c : Int) (h0 : 0 ≤ c) (h1 : c < 256) :
    (convert 22 9 (.slice (some ⟨W.heap.size, 0, none⟩) 1 1)).run Try.prog (W.alloc (.cells #[.int .u8 c] 5)) = .ok (.string ⟨#[UInt8.ofNat c.toNat]⟩) (W.alloc (.cells #[.int .u8 c] 5)) := by
  have := run_convert_bytes_back (P := Try.prog) (W.alloc (.cells #[.int .u8 c] 5)) 22 9 5 ⟨W.heap.size, 0, none⟩ 1 [UInt8.ofNat c.toNat] Try.underlying22 Try.underlying5 Try.underlying9 (by
    intro j hj
    simp at hj
    subst hj
    have h2 : ((UInt8.ofNat c.toNat).toNat : Int) = c := by
      simp; omega
    simp only [Addr.add, List.getElem_cons_zero, h2]
    simp [go_sem])
  simpa using this

theorem digit_eq (u : Nat) : UInt8.ofNat (48 + (u : Int) % 10).toNat = dig u := by
  rw [show (48 + (u : Int) % 10).toNat = 48 + u % 10 from by omega]; rfl
theorem cat1 (c : UInt8) (t : List UInt8) : (ByteArray.mk #[c] ++ ByteArray.mk t.toArray) = ByteArray.mk (c :: t).toArray := by
  apply ByteArray.ext; simp [ByteArray.data_append]
theorem len_t {m u : Nat} {t : List UInt8} (h : dd u ++ t = Lib.decDigits m) (hm : m < 18446744073709551616) : t.length ≤ 20 := by
  have h1 := dec_len m hm
  rw [← h, List.length_append] at h1
  omega

/-- The text of a mark: m and the numeral. -/
def mt (k : Nat) : ByteArray := ⟨(109 :: Lib.decDigits k).toArray⟩
theorem mt_zero : mt 0 = ⟨#[109, 48]⟩ := by unfold mt; rw [Lib.decDigits_one (by decide)]; rfl
theorem mt_end {k : Nat} {t : List UInt8} (h : t = Lib.decDigits k) : (ByteArray.mk #[109] ++ ByteArray.mk t.toArray) = mt k := by
  rw [cat1, h]; rfl

set_option maxRecDepth 100000 in
set_option maxHeartbeats 2000000 in
theorem mark_any (k : Nat) (hk : k ≤ 4611686018427387904) (w : World) :
    Calls Try.prog 50 #[.int .i64 k] w fun e w' => e = .returned (.string (mt k)) ∧ Grw w w' := by
  by_cases h0 : k = 0
  · subst h0
    have HZ := Lib.hid mt_zero
    go_enter Try.func50, Try.ntmps50
    go_wp2
    go_ret
    exact ⟨by rw [HZ.out]; rfl, Grw.refl _⟩
  · go_enter Try.func50, Try.ntmps50
    go_wp2
    go_loopw [0, 3] (fun q out wr => ∃ (u : Nat) (t : List UInt8), q = .int .i64 u ∧ out = .string ⟨t.toArray⟩ ∧ dd u ++ t = Lib.decDigits k ∧ u ≤ k ∧ Grw w wr)
      (fun q _ _ => (intOf q).toNat)
    case atStart => exact ⟨k, [], rfl, rfl, by rw [dd_pos h0]; simp, Nat.le_refl _, Grw.refl _⟩
    case round =>
      obtain ⟨u, t, rfl, rfl, ht, hu, hg⟩ := hrel
      have htl := len_t ht (by omega)
      have HG := Lib.hid hg
      clear hg
      by_cases hz : u = 0
      · subst hz
        rw [dd_zero, List.nil_append] at ht
        have HT := Lib.hid (mt_end ht); clear ht
        go_wp2
        go_ret
        exact ⟨by rw [← HT.out]; rfl, HG.out⟩
      · rw [dd_step hz, List.append_assoc] at ht
        have HT := Lib.hid ht; clear ht
        have hcv := conv1 wr (48 + (u : Int) % 10) (by omega) (by omega)
        rw [digit_eq] at hcv
        have hlt : (0 : Int) < (u : Int) := by omega
        go_wp2
        go_roundw
        case rel => exact ⟨u / 10, dig u :: t, by go_num, by rw [cat1], by rw [← HT.out]; simp, by omega, HG.out.alloc _⟩
        case measure => simp [intOf]; omega

/-- The marks that a law writes into n addresses, from k on. -/
def marksA (k n : Nat) : List Ad := (List.range n).map fun i => (mt (k + 2 * i), mt (k + 2 * i + 1))
theorem marksA_len (k n : Nat) : (marksA k n).length = n := by simp [marksA]
theorem marksA_at {k n j : Nat} (h : j < n) : (marksA k n)[j]? = some (mt (k + 2 * j), mt (k + 2 * j + 1)) := by simp [marksA, h]
def MarkedA (e : TypeId) (lo hi : Nat) (v : Value) (ms : List Ad) (m : Int) (w : World) (en : Ending) (w' : World) : Prop :=
  en = .returned (.int .i64 m) ∧ OwnK encA 2 e lo hi w' v ms ∧ w.grownBy w' v.ownBlock
theorem grown_below {a b c : World} {r : Option Nat} (h : a.grownBy b r) (hb : Below b.heap.size b c) : a.grownBy c r :=
  ⟨hb.os.trans h.os, hb.tape.trans h.tape, hb.output.trans h.output, Nat.le_trans h.size hb.size, fun i hi hn => (hb.block i (Nat.lt_of_lt_of_le hi h.size)).trans (h.block i hi hn)⟩

set_option maxHeartbeats 2000000 in
theorem markS_any (v : Value) (lo hi : Nat) (xs : List Ad) (k0 : Nat) (q : Int) (hq : q = k0) (w : World) (hv : OwnK encA 2 25 lo hi w v xs) (hk : (k0 : Int) + 2 * (xs.length : Int) ≤ 4611686018427387904) :
    Calls Try.prog 35 #[v, .int .i64 q] w (MarkedA 25 lo hi v (marksA k0 xs.length) ((k0 : Int) + 2 * (xs.length : Int)) w) := by
  subst hq
  obtain ⟨hv1, hv2⟩ := hv
  obtain ⟨n, hn⟩ : ∃ n, xs.length = n := ⟨_, rfl⟩
  rw [hn] at hv1 hk ⊢
  have HV1 := Lib.hid hv1; have HV2 := Lib.hid hv2
  rcases hv1.2 with ⟨rfl, h0⟩ | ⟨g, cap, cur, rfl, hg, _, hcap, hm, _⟩
  · subst h0
    have hz : xs = [] := List.eq_nil_of_length_eq_zero hn
    subst hz
    clear hv1 hv2
    go_enter Try.func35, Try.ntmps35
    go_wp2
    refine wp_loop_rounds 1 ?_
    rw [rounds_succ]
    go_wp2
    go_ret
    exact ⟨by simp, ⟨by simpa [marksA] using HV1.out, HV2.out⟩, World.grownBy.refl _ _⟩
  · unfold maxLen at hm
    clear hv1 hv2
    go_enter Try.func35, Try.ntmps35
    go_wp2
    go_loopw [1, 5] (fun m i wr => ∃ (j : Nat) (cs : List Value), j ≤ n ∧ i = .int .i64 j ∧ m = .int .i64 ((k0 + 2 * j : Nat) : Int) ∧ wr.ownsRow lo 25 2 (.slice (some ⟨g, 0, none⟩) n cap) n cs ∧ UptoK encA 2 (marksA k0 n) j cs ∧ w.grownBy wr (some g))
      (fun _ i _ => n - (intOf i).toNat)
    case atStart => exact ⟨0, _, Nat.zero_le _, rfl, by simp, HV1.out, UptoK.zero _ _ _ _, World.grownBy.refl _ _⟩
    case round =>
      obtain ⟨j, cs, hj, rfl, rfl, hown, hup, hgr⟩ := hrel
      have HO := Lib.hid hown; have HU := Lib.hid hup; have HG := Lib.hid hgr
      clear hown hup hgr
      by_cases hlt : (j : Int) < (n : Int)
      · go_wp2_with fail
        refine (mark_any (k0 + 2 * j) (by omega) _).mono ?_
        rintro e w1 ⟨rfl, hg1⟩
        have hb1 := hg1.below
        have hown1 := row_later HO.out hb1
        have hxl : cs.length = n * 2 := HO.out.1
        obtain ⟨u0, hu0⟩ : ∃ u, cs[j * 2]? = some u := ⟨_, List.getElem?_eq_getElem (by omega)⟩
        have d0 : w1.cell? ⟨g, j * 2, none⟩ = some u0 := by rw [hown1.cellAt (j * 2) (by omega)]; exact hu0
        have f0 : w1.frozen? ⟨g, j * 2, none⟩ = false := hown1.frozenAt _
        have HO1 := Lib.hid (hown1.stored (j * 2) (.string (mt (k0 + 2 * j)))).1
        have HG1 := Lib.hid (grown_trans (grown_below HG.out hb1) (hown1.stored (j * 2) (.string (mt (k0 + 2 * j)))).2)
        clear hg1 hb1 hown1 hu0
        go_wp2_with fail
        refine (mark_any (k0 + 2 * j + 1) (by omega) _).mono ?_
        rintro e w2 ⟨rfl, hg2⟩
        have hb2 := hg2.below
        have hown2 := row_later HO1.out hb2
        have hxl2 : (cs.set (j * 2) (.string (mt (k0 + 2 * j)))).length = n * 2 := by rw [List.length_set]; exact hxl
        obtain ⟨u1, hu1⟩ : ∃ u, (cs.set (j * 2) (.string (mt (k0 + 2 * j))))[j * 2 + 1]? = some u := ⟨_, List.getElem?_eq_getElem (by omega)⟩
        have d1 : w2.cell? ⟨g, j * 2 + 1, none⟩ = some u1 := by rw [hown2.cellAt (j * 2 + 1) (by omega)]; exact hu1
        have f1 : w2.frozen? ⟨g, j * 2 + 1, none⟩ = false := hown2.frozenAt _
        have HO2 := Lib.hid (hown2.stored (j * 2 + 1) (.string (mt (k0 + 2 * j + 1)))).1
        have HG2 := Lib.hid (grown_trans (grown_below HG1.out hb2) (hown2.stored (j * 2 + 1) (.string (mt (k0 + 2 * j + 1)))).2)
        have HU2 := Lib.hid (HU.out.set2 (x := (mt (k0 + 2 * j), mt (k0 + 2 * j + 1))) (u := .string (mt (k0 + 2 * j))) (v := .string (mt (k0 + 2 * j + 1))) (by omega) (marksA_at (by omega)) rfl)
        clear hg2 hb2 hown2 hu1 hxl hxl2
        go_wp2_with fail
        go_roundw
        case rel => exact ⟨j + 1, _, by omega, by go_num, by go_num, HO2.out, HU2.out, HG2.out⟩
        case measure => simp [intOf]; omega
      · have hjn : j = n := by omega
        subst hjn
        go_wp2
        go_ret
        refine ⟨by simp, ⟨?_, HV2.out⟩, HG.out⟩
        have h1 := HO.out
        rw [HU.out.full encA_len h1.1 (marksA_len _ _)] at h1
        rw [marksA_len]; exact h1

set_option maxRecDepth 100000 in
set_option maxHeartbeats 4000000 in
theorem heldS_any (v : Value) (hi n : Nat) (k0 : Nat) (q : Int) (hq : q = k0) (w : World) (hv : ReadsK encA 2 hi w v (marksA k0 n)) (hh : hi ≤ w.heap.size) (hk : k0 + 2 * n ≤ 4611686018427387904) :
    Calls Try.prog 36 #[v, .int .i64 q] w fun e w' => e = .returned (.int .i64 ((k0 : Int) + 2 * (n : Int))) ∧ Grw w w' := by
  have mixed : Try.prog.follows .mixedOrders = true := by kernel_rfl
  subst hq
  obtain ⟨a, cap, rfl, hc1, hc2, _, hcells⟩ := hv
  rw [marksA_len] at hc1 hcells ⊢
  have HC := Lib.hid hcells; clear hcells
  go_enter Try.func36, Try.ntmps36
  go_wp2
  go_loopw [1, 5] (fun m i wr => ∃ (j : Nat), j ≤ n ∧ i = .int .i64 j ∧ m = .int .i64 ((k0 + 2 * j : Nat) : Int) ∧ Grw w wr)
    (fun _ i _ => n - (intOf i).toNat)
  case atStart => exact ⟨0, Nat.zero_le _, rfl, by simp, Grw.refl _⟩
  case round =>
    obtain ⟨j, hj, rfl, rfl, hs⟩ := hrel
    have HS := Lib.hid hs
    clear hs
    by_cases hlt : (j : Int) < (n : Int)
    · rcases HC.out with h0 | ⟨g, off, rfl, hg, hcells⟩
      · omega
      · have hgw : g < wr.heap.size := by have := HS.out.below.size; omega
        have hx := marksA_at (k := k0) (n := n) (j := j) (by omega)
        have b0 : wr.cell? ⟨g, off + j * 2, none⟩ = some (.string (mt (k0 + 2 * j))) := by rw [HS.out.below.cell (show g < _ by omega)]; exact hcells j _ hx 0 (by omega)
        have b1 : wr.cell? ⟨g, off + j * 2 + 1, none⟩ = some (.string (mt (k0 + 2 * j + 1))) := by rw [HS.out.below.cell (show g < _ by omega)]; exact hcells j _ hx 1 (by omega)
        have c0 : ∀ m os, (Sort.grow (wr.drewN m) os).cell? ⟨g, off + j * 2, none⟩ = some (.string (mt (k0 + 2 * j))) := cell_grown hgw b0
        have B1 := Lib.hid (cell_grown (w := wr) (show (⟨g, off + j * 2 + 1, none⟩ : Addr).block < wr.heap.size from hgw) b1)
        have HM := Lib.hid (fun W => mark_any (k0 + 2 * j) (by omega) W)
        have HM1 := Lib.hid (fun W => mark_any (k0 + 2 * j + 1) (by omega) W)
        have e0 : ((mt (k0 + 2 * j)).toList == (mt (k0 + 2 * j)).toList) = true := beqL_yes rfl
        have e1 : ((mt (k0 + 2 * j + 1)).toList == (mt (k0 + 2 * j + 1)).toList) = true := beqL_yes rfl
        clear hcells hx b0 b1
        obtain ⟨m0, hm0⟩ : ∃ m, mt (k0 + 2 * j) = m := ⟨_, rfl⟩
        obtain ⟨m1, hm1⟩ : ∃ m, mt (k0 + 2 * j + 1) = m := ⟨_, rfl⟩
        rw [hm0] at c0 HM e0
        rw [hm1] at B1 HM1 e1
        clear hm0 hm1
        go_wp2
        go_quiet_grown (first | (go_at_call 50; refine Calls.grown_of (HM.out _)))
        have c1 : ∀ m os, (Sort.grow ((Sort.grow (wr.drewN nq) osq).drewN m) os).cell? ⟨g, off + j * 2 + 1, none⟩ = some (.string m1) := cell_grown (by show g < (wr.heap ++ osq).size; rw [Array.size_append]; omega) (B1.out nq osq)
        obtain ⟨w3, hw3⟩ : ∃ w3, Sort.grow (wr.drewN nq) osq = w3 := ⟨_, rfl⟩
        have HG3 := Lib.hid (HS.out.trans ⟨nq, osq, rfl⟩)
        rw [hw3] at c1 HG3 ⊢
        clear hw3 c0 B1
        go_wp2
        go_quiet_grown (first | (go_at_call 50; refine Calls.grown_of (HM1.out _)))
        go_wp2
        go_roundw
        case rel => exact ⟨j + 1, by omega, by go_num, by go_num, HG3.out.trans ⟨_, _, rfl⟩⟩
        case measure => simp [intOf]; omega
    · have hjn : j = n := by omega
      subst hjn
      go_wp2
      go_ret
      exact ⟨by simp, HS.out⟩

def SzSOut (xs : List Ad) (left : Int) (w : World) (e : Ending) (w' : World) : Prop :=
  ∃ r : Int, e = .returned (.int .i64 r) ∧ -1 ≤ r ∧ (0 ≤ r → xs.length + r ≤ left ∧ ∀ x ∈ xs, (x.1.size : Int) ≤ left ∧ (x.2.size : Int) ≤ left) ∧ Below w.heap.size w w'
theorem mem_take_succ {xs : List Ad} {k : Nat} {x : Ad} (hx : xs[k]? = some x) {y : Ad} (hy : y ∈ xs.take (k + 1)) : y ∈ xs.take k ∨ y = x := by
  rw [List.take_add_one, hx] at hy
  simpa using hy

set_option maxHeartbeats 2000000 in
theorem szS_any (v : Value) (hi : Nat) (xs : List Ad) (left : Int) (w : World) (hr : ReadsK encA 2 hi w v xs) (hh : hi ≤ w.heap.size) (hz : ∀ x ∈ xs, x.1.size ≤ 9223372036854775807 ∧ x.2.size ≤ 9223372036854775807) (l1 : 0 ≤ left) (l2 : left ≤ 1099511627776) :
    Calls Try.prog 31 #[v, .int .i64 left] w (SzSOut xs left w) := by
  obtain ⟨a, cap, rfl, hc1, hc2, _, hcells⟩ := hr
  have HC := Lib.hid hcells; clear hcells
  have HZ := Lib.hid hz; clear hz
  obtain ⟨n, hn⟩ : ∃ n, xs.length = n := ⟨_, rfl⟩
  rw [hn] at hc1 HC ⊢
  have HN := Lib.hid hn; clear hn
  by_cases h0 : left - n < 0
  · go_enter Try.func31, Try.ntmps31
    go_wp2
    go_ret
    exact ⟨-1, rfl, by omega, by omega, Below.refl _ _⟩
  · go_enter Try.func31, Try.ntmps31
    go_wp2
    go_loopw [1, 5] (fun q i wr => ∃ (k : Nat) (r : Int), k ≤ n ∧ i = .int .i64 k ∧ q = .int .i64 r ∧ 0 ≤ r ∧ n + r ≤ left ∧ (∀ x ∈ xs.take k, (x.1.size : Int) ≤ left ∧ (x.2.size : Int) ≤ left) ∧ Below w.heap.size w wr)
      (fun _ i _ => n - (intOf i).toNat)
    case atStart => exact ⟨0, left - n, Nat.zero_le _, rfl, rfl, by omega, by omega, by simp, Below.refl _ _⟩
    case round =>
      obtain ⟨k, r, hk, rfl, rfl, hr0, hr1, hall, hbw⟩ := hrel
      have HA := Lib.hid hall; have HB := Lib.hid hbw
      clear hall hbw
      by_cases hlt : (k : Int) < (n : Int)
      · rcases HC.out with h0 | ⟨g, off, rfl, hg, hcells⟩
        · omega
        · obtain ⟨x, y, hx⟩ := ad_at (xs := xs) (j := k) (by have := HN.out; omega)
          have c0 : wr.cell? ⟨g, off + k * 2, none⟩ = some (.string x) := by rw [HB.out.cell (show g < _ by omega)]; exact hcells k _ hx 0 (by omega)
          have c1 : wr.cell? ⟨g, off + k * 2 + 1, none⟩ = some (.string y) := by rw [HB.out.cell (show g < _ by omega)]; exact hcells k _ hx 1 (by omega)
          obtain ⟨z1, z2⟩ := HZ.out (x, y) (List.mem_iff_getElem?.2 ⟨k, hx⟩)
          have HX := Lib.hid hx
          clear hcells hx
          go_wp2_with fail
          refine (szA_any x y r z1 z2 (by omega) (by omega) _).mono ?_
          rintro e w2 ⟨r2, rfl, hr2, hr3, hb2⟩
          have HB2 := Lib.hid (HB.out.trans (hb2.mono HB.out.size)); clear hb2
          by_cases hneg : r2 < 0
          · go_wp2_with fail
            go_ret
            exact ⟨-1, rfl, by omega, by omega, HB2.out⟩
          · have hr4 := hr3 (by omega)
            clear hr3
            have HR4 := Lib.hid hr4; clear hr4
            go_wp2_with fail
            go_roundw
            case rel =>
              have hr4 := HR4.out
              refine ⟨k + 1, r2, by omega, by go_num, rfl, by omega, by omega, ?_, HB2.out⟩
              intro z hz
              rcases mem_take_succ HX.out hz with h | rfl
              · exact HA.out z h
              · exact ⟨by show (x.size : Int) ≤ _; omega, by show (y.size : Int) ≤ _; omega⟩
            case measure => simp [intOf]; omega
      · have hkn : k = n := by omega
        subst hkn
        go_wp2
        go_ret
        have ht : xs.take k = xs := List.take_of_length_le (by rw [HN.out]; exact Nat.le_refl _)
        rw [ht] at HA
        exact ⟨r, rfl, by omega, fun _ => ⟨by rw [HN.out]; exact hr1, HA.out⟩, HB.out⟩
end Go.Proofs.Ytojpbdhkcpfeaaa
