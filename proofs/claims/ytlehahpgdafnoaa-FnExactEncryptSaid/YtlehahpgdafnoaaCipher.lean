/- Helper contracts: Encrypt and Decrypt of the program and of the model return a new slice of the bytes, each shifted by the byte of the stream at its index. Asked: the slice reads as the list named, its elements are bytes, and it is no longer than 2^40. -/
import Derived.Test.YtlehahpgdafnoaaKeyed
import Derived.Deep.DrawnRows
import Derived.Deep.RegionHeld3
import Derived.Deep.RegionLaw
import Derived.Deep.AppendLies
namespace Go.Proofs.Ytlehahpgdafnoaa
open Go.ChangeShapes Go.WideShapes Go.ChangeAt Go.RowKit

/-- The number that shifts the byte at index i. -/
def ks (k : Int) (i : Nat) : Int := kh k [(i : Int)]
theorem ks_bd (k : Int) (i : Nat) : 0 ≤ ks k i ∧ ks k i < 2147483647 := kh_bd _ _
def encB (k : Int) (zs : List Int) (n : Nat) : List Int := (List.range n).map fun i => (zs.getD i 0 + ks k i % 256) % 256
def decB (k : Int) (zs : List Int) (n : Nat) : List Int := (List.range n).map fun i => (zs.getD i 0 - ks k i % 256) % 256
theorem encB_len (k : Int) (zs : List Int) (n : Nat) : (encB k zs n).length = n := by simp [encB]
theorem decB_len (k : Int) (zs : List Int) (n : Nat) : (decB k zs n).length = n := by simp [decB]
theorem encB_at {k : Int} {zs : List Int} {n j : Nat} (h : j < n) : (encB k zs n).getD j 0 = (zs.getD j 0 + ks k j % 256) % 256 := by
  rw [List.getD_eq_getElem?_getD]; simp [encB, h]
theorem decB_at {k : Int} {zs : List Int} {n j : Nat} (h : j < n) : (decB k zs n).getD j 0 = (zs.getD j 0 - ks k j % 256) % 256 := by
  rw [List.getD_eq_getElem?_getD]; simp [decB, h]
theorem encB_succ (k : Int) (zs : List Int) (n : Nat) : encB k zs (n + 1) = encB k zs n ++ [(zs.getD n 0 + ks k n % 256) % 256] := by simp [encB, List.range_succ]
theorem decB_succ (k : Int) (zs : List Int) (n : Nat) : decB k zs (n + 1) = decB k zs n ++ [(zs.getD n 0 - ks k n % 256) % 256] := by simp [decB, List.range_succ]
theorem encB_bytes (k : Int) (zs : List Int) (n : Nat) : Bytes (encB k zs n) := by
  intro z hz; simp only [encB, List.mem_map] at hz; obtain ⟨i, _, rfl⟩ := hz; omega
theorem decB_bytes (k : Int) (zs : List Int) (n : Nat) : Bytes (decB k zs n) := by
  intro z hz; simp only [decB, List.mem_map] at hz; obtain ⟨i, _, rfl⟩ := hz; omega

theorem row_mono {w : World} {base base' size n : Nat} {e : TypeId} {v : Value} {xs : List Value} (h : w.ownsRow base e size v n xs) (hb : base' ≤ base) : w.ownsRow base' e size v n xs := by
  refine ⟨h.1, ?_⟩
  rcases h.2 with h1 | ⟨g, cap, cur, h1, h2, h3⟩
  · exact Or.inl h1
  · exact Or.inr ⟨g, cap, cur, h1, by omega, h3⟩

set_option maxHeartbeats 1000000 in
theorem stream_any (k : Int) (i b : Nat) (w : World) (hc : w.cell? ⟨b, 0, none⟩ = some (.int .i64 k)) :
    Calls Try.prog 56 #[.int .i64 i, .pointer (some ⟨b, 0, none⟩)] w fun e w' => e = .returned (.int .u8 (ks k i % 256)) ∧ Below w.heap.size w w' := by
  have HR := Lib.hid (reads_one .i64 3 w (rfl : (i : Int) = i))
  have HB := Lib.hid ((Below.refl w.heap.size w).alloc (Nat.le_refl _) (.cells #[.int .i64 (i : Int)] 3))
  have HK := Lib.hid (show kh k [(i : Int)] = ks k i from rfl)
  go_enter Try.func56, Try.ntmps56
  go_wp2_with fail
  refine (implKH_any k _ (w.heap.size + 1) [(i : Int)] _ HR.out (by simp) (by simp)).mono ?_
  rintro e w1 ⟨rfl, hb⟩
  have HB1 := Lib.hid (HB.out.trans (hb.mono HB.out.size)); clear hb
  rw [HK.out]
  go_wp2
  go_ret
  exact ⟨rfl, HB1.out⟩

theorem keyStream_any (k : Int) (w : World) :
    Calls Try.prog 45 #[.int .i64 k] w fun e w' => e = .returned (.func (.func 56) #[] #[.pointer (some ⟨w.heap.size, 0, none⟩)]) ∧ w' = w.alloc (.cells #[.int .i64 k] 3) := by
  have hmf : ∀ (fn : Fn) (first cap : Array Value) (w : World), (Instr.makeFunc fn first cap).run Try.prog w = .ok (.func fn first cap) w := fun _ _ _ _ => rfl
  go_enter Try.func45, Try.ntmps45
  go_wp2
  go_ret
  exact ⟨rfl, rfl⟩

set_option maxHeartbeats 1000000 in
theorem implEncr_any (key : Int) (v : Value) (hi : Nat) (zs : List Int) (w : World) (hr : Reads .u8 hi w v zs) (hh : hi ≤ w.heap.size) (hzb : Bytes zs) (hl : zs.length ≤ 1099511627776) :
    Calls Try.prog 16 #[.int .i64 key, v] w (New .u8 5 (encB key zs zs.length) w) := by
  obtain ⟨i0, hi0, hz0, hz1, hz2⟩ := info_parts info8
  obtain ⟨a, cap, rfl, hc1, hc2, _, hcells⟩ := hr
  have HC := Lib.hid hcells; have HZB := Lib.hid hzb; clear hcells hzb
  have HI := Lib.hid hz2; clear hz2
  obtain ⟨n, hn⟩ : ∃ n, zs.length = n := ⟨_, rfl⟩
  rw [hn] at hl hc1 HC ⊢
  have HN := Lib.hid hn; clear hn
  go_enter Try.func16, Try.ntmps16
  go_wp2_with fail
  refine (keyStream_any key w).mono ?_
  rintro e w1 ⟨rfl, hw1⟩
  have hb1 : Below w.heap.size w w1 := by rw [hw1]; exact (Below.refl _ _).alloc (Nat.le_refl _) _
  have hs1 : w1.heap.size = w.heap.size + 1 := by rw [hw1]; simp
  have ck : w1.cell? ⟨w.heap.size, 0, none⟩ = some (.int .i64 key) := by rw [hw1]; simp
  have HB1 := Lib.hid hb1; have HS1 := Lib.hid hs1; have HCK := Lib.hid ck
  clear hw1 hb1 hs1 ck
  go_wp2_with (at_make; refine wpList_make_full _ rfl _ _ 22 rfl w1.heap.size 5 i0 (.int .u8 0) 1 Try.underlying22 hi0 hz0 hz1 .i64 .i64 _ _ n rfl rfl rfl rfl ?c1 ?c2 (Nat.le_refl _) ?_)
  case c1 => rw [HI.out]; omega
  case c2 => unfold maxLen; omega
  intro w2 hown2 hgr2
  have hb2 : Below w1.heap.size w1 w2 := (Below.refl _ _).grown hgr2 (Nat.le_refl _) (fun k h => by cases h)
  have HO2 := Lib.hid hown2; have HB2 := Lib.hid hb2; clear hown2 hgr2 hb2
  go_wp2
  go_loopw [16] (fun i wr => ∃ (k : Nat) (xs : List Value), k ≤ n ∧ i = .int .i64 k ∧ wr.ownsRow w1.heap.size 5 1 (.slice (some ⟨w1.heap.size, 0, none⟩) n n) n xs ∧ Upto .u8 (encB key zs n) k xs ∧ Below w1.heap.size w1 wr)
    (fun i _ => n - (intOf i).toNat)
  case atStart => exact ⟨0, _, Nat.zero_le _, rfl, HO2.out, Upto.zero _ _ _, HB2.out⟩
  case round =>
    obtain ⟨k, xs, hk, rfl, hown, hup, hbw⟩ := hrel
    have HO := Lib.hid hown; have HU := Lib.hid hup; have HB := Lib.hid hbw
    clear hown hup hbw HO2 HB2
    by_cases hlt : (k : Int) < (n : Int)
    · rcases HC.out with h0 | ⟨g, off, rfl, hg, hcells⟩
      · omega
      · have c1 : wr.cell? ⟨g, off + k, none⟩ = some (.int .u8 (zs.getD k 0)) := by
          rw [HB.out.cell (show g < w1.heap.size by have := HS1.out; omega), HB1.out.cell (show g < _ by omega)]; exact hcells k (by omega)
        have ck : wr.cell? ⟨w.heap.size, 0, none⟩ = some (.int .i64 key) := by
          rw [HB.out.cell (show w.heap.size < w1.heap.size by have := HS1.out; omega)]; exact HCK.out
        obtain ⟨z0, z1⟩ := HZB.out.at k
        have hset := encB_at (k := key) (zs := zs) (show k < n by omega)
        obtain ⟨z, hz⟩ : ∃ z, zs.getD k 0 = z := ⟨_, rfl⟩
        rw [hz] at c1 z0 z1 hset
        have HSET := Lib.hid hset
        have HCK2 := Lib.hid ck
        clear hcells hz hset ck
        go_wp2_with fail
        refine (stream_any key k _ wr HCK2.out).mono ?_
        rintro e w3 ⟨rfl, hb3⟩
        obtain ⟨q0, q1⟩ : 0 ≤ ks key k % 256 ∧ ks key k % 256 < 256 := by omega
        obtain ⟨q, hq⟩ : ∃ q, ks key k % 256 = q := ⟨_, rfl⟩
        have hst := HSET.out
        rw [hq] at q0 q1 hst ⊢
        have hown3 : w3.ownsRow w1.heap.size 5 1 (.slice (some ⟨w1.heap.size, 0, none⟩) n n) n xs := (HO.out.kept (row := none) ⟨hb3.os, hb3.tape, hb3.output, hb3.size, fun j hj _ => hb3.block j hj⟩ (Or.inr (by simp [Value.ownBlock])))
        have hb13 : Below w1.heap.size w1 w3 := HB.out.trans (hb3.mono HB.out.size)
        have HO3 := Lib.hid hown3; have HB3 := Lib.hid hb13; have HST := Lib.hid hst
        have c2 : w3.cell? ⟨w1.heap.size, k, none⟩ = xs[k]? := HO3.out.cellAt k (by omega)
        have hxl : xs.length = n := by have := HO3.out.1; omega
        obtain ⟨u, hu⟩ : ∃ u, xs[k]? = some u := ⟨_, List.getElem?_eq_getElem (by omega)⟩
        rw [hu] at c2
        have f2 : w3.frozen? ⟨w1.heap.size, k, none⟩ = false := HO3.out.frozenAt k
        clear hu hq hown3 hb13 hb3 hst c1
        go_wp2
        go_roundw
        case rel =>
          have hu := HU.out.set (show k < xs.length by omega)
          rw [HST.out] at hu
          exact ⟨k + 1, _, by omega, by go_num, (HO3.out.stored k _).1, hu, HB3.out.setCell (Nat.le_refl _) _⟩
        case measure => simp [intOf]; omega
    · have hkn : k = n := by omega
      subst hkn
      go_wp2
      go_ret
      refine ⟨_, rfl, ⟨?_, ?_⟩, HB1.out.trans (HB.out.mono (by have := HS1.out; omega))⟩
      · have h1 := HO.out
        rw [HU.out.full (by have := h1.1; omega) (encB_len _ _ _)] at h1
        rw [encB_len]
        exact row_mono h1 (by have := HS1.out; omega)
      · intro g hg; exact (HO.out.lt g hg).2

set_option maxHeartbeats 1000000 in
theorem implDecr_any (key : Int) (v : Value) (hi : Nat) (zs : List Int) (w : World) (hr : Reads .u8 hi w v zs) (hh : hi ≤ w.heap.size) (hzb : Bytes zs) (hl : zs.length ≤ 1099511627776) :
    Calls Try.prog 15 #[.int .i64 key, v] w (New .u8 5 (decB key zs zs.length) w) := by
  obtain ⟨i0, hi0, hz0, hz1, hz2⟩ := info_parts info8
  obtain ⟨a, cap, rfl, hc1, hc2, _, hcells⟩ := hr
  have HC := Lib.hid hcells; have HZB := Lib.hid hzb; clear hcells hzb
  have HI := Lib.hid hz2; clear hz2
  obtain ⟨n, hn⟩ : ∃ n, zs.length = n := ⟨_, rfl⟩
  rw [hn] at hl hc1 HC ⊢
  have HN := Lib.hid hn; clear hn
  go_enter Try.func15, Try.ntmps15
  go_wp2_with fail
  refine (keyStream_any key w).mono ?_
  rintro e w1 ⟨rfl, hw1⟩
  have hb1 : Below w.heap.size w w1 := by rw [hw1]; exact (Below.refl _ _).alloc (Nat.le_refl _) _
  have hs1 : w1.heap.size = w.heap.size + 1 := by rw [hw1]; simp
  have ck : w1.cell? ⟨w.heap.size, 0, none⟩ = some (.int .i64 key) := by rw [hw1]; simp
  have HB1 := Lib.hid hb1; have HS1 := Lib.hid hs1; have HCK := Lib.hid ck
  clear hw1 hb1 hs1 ck
  go_wp2_with (at_make; refine wpList_make_full _ rfl _ _ 22 rfl w1.heap.size 5 i0 (.int .u8 0) 1 Try.underlying22 hi0 hz0 hz1 .i64 .i64 _ _ n rfl rfl rfl rfl ?c1 ?c2 (Nat.le_refl _) ?_)
  case c1 => rw [HI.out]; omega
  case c2 => unfold maxLen; omega
  intro w2 hown2 hgr2
  have hb2 : Below w1.heap.size w1 w2 := (Below.refl _ _).grown hgr2 (Nat.le_refl _) (fun k h => by cases h)
  have HO2 := Lib.hid hown2; have HB2 := Lib.hid hb2; clear hown2 hgr2 hb2
  go_wp2
  go_loopw [16] (fun i wr => ∃ (k : Nat) (xs : List Value), k ≤ n ∧ i = .int .i64 k ∧ wr.ownsRow w1.heap.size 5 1 (.slice (some ⟨w1.heap.size, 0, none⟩) n n) n xs ∧ Upto .u8 (decB key zs n) k xs ∧ Below w1.heap.size w1 wr)
    (fun i _ => n - (intOf i).toNat)
  case atStart => exact ⟨0, _, Nat.zero_le _, rfl, HO2.out, Upto.zero _ _ _, HB2.out⟩
  case round =>
    obtain ⟨k, xs, hk, rfl, hown, hup, hbw⟩ := hrel
    have HO := Lib.hid hown; have HU := Lib.hid hup; have HB := Lib.hid hbw
    clear hown hup hbw HO2 HB2
    by_cases hlt : (k : Int) < (n : Int)
    · rcases HC.out with h0 | ⟨g, off, rfl, hg, hcells⟩
      · omega
      · have c1 : wr.cell? ⟨g, off + k, none⟩ = some (.int .u8 (zs.getD k 0)) := by
          rw [HB.out.cell (show g < w1.heap.size by have := HS1.out; omega), HB1.out.cell (show g < _ by omega)]; exact hcells k (by omega)
        have ck : wr.cell? ⟨w.heap.size, 0, none⟩ = some (.int .i64 key) := by
          rw [HB.out.cell (show w.heap.size < w1.heap.size by have := HS1.out; omega)]; exact HCK.out
        obtain ⟨z0, z1⟩ := HZB.out.at k
        have hset := decB_at (k := key) (zs := zs) (show k < n by omega)
        obtain ⟨z, hz⟩ : ∃ z, zs.getD k 0 = z := ⟨_, rfl⟩
        rw [hz] at c1 z0 z1 hset
        have HSET := Lib.hid hset
        have HCK2 := Lib.hid ck
        clear hcells hz hset ck
        go_wp2_with fail
        refine (stream_any key k _ wr HCK2.out).mono ?_
        rintro e w3 ⟨rfl, hb3⟩
        obtain ⟨q0, q1⟩ : 0 ≤ ks key k % 256 ∧ ks key k % 256 < 256 := by omega
        obtain ⟨q, hq⟩ : ∃ q, ks key k % 256 = q := ⟨_, rfl⟩
        have hst := HSET.out
        rw [hq] at q0 q1 hst ⊢
        have hown3 : w3.ownsRow w1.heap.size 5 1 (.slice (some ⟨w1.heap.size, 0, none⟩) n n) n xs := (HO.out.kept (row := none) ⟨hb3.os, hb3.tape, hb3.output, hb3.size, fun j hj _ => hb3.block j hj⟩ (Or.inr (by simp [Value.ownBlock])))
        have hb13 : Below w1.heap.size w1 w3 := HB.out.trans (hb3.mono HB.out.size)
        have HO3 := Lib.hid hown3; have HB3 := Lib.hid hb13; have HST := Lib.hid hst
        have c2 : w3.cell? ⟨w1.heap.size, k, none⟩ = xs[k]? := HO3.out.cellAt k (by omega)
        have hxl : xs.length = n := by have := HO3.out.1; omega
        obtain ⟨u, hu⟩ : ∃ u, xs[k]? = some u := ⟨_, List.getElem?_eq_getElem (by omega)⟩
        rw [hu] at c2
        have f2 : w3.frozen? ⟨w1.heap.size, k, none⟩ = false := HO3.out.frozenAt k
        clear hu hq hown3 hb13 hb3 hst c1
        go_wp2
        go_roundw
        case rel =>
          have hu := HU.out.set (show k < xs.length by omega)
          rw [HST.out] at hu
          exact ⟨k + 1, _, by omega, by go_num, (HO3.out.stored k _).1, hu, HB3.out.setCell (Nat.le_refl _) _⟩
        case measure => simp [intOf]; omega
    · have hkn : k = n := by omega
      subst hkn
      go_wp2
      go_ret
      refine ⟨_, rfl, ⟨?_, ?_⟩, HB1.out.trans (HB.out.mono (by have := HS1.out; omega))⟩
      · have h1 := HO.out
        rw [HU.out.full (by have := h1.1; omega) (decB_len _ _ _)] at h1
        rw [decB_len]
        exact row_mono h1 (by have := HS1.out; omega)
      · intro g hg; exact (HO.out.lt g hg).2
end Go.Proofs.Ytlehahpgdafnoaa
