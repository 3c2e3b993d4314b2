/- Facts on varints: what was encoded is decoded, and what is decoded was encoded. And helper contracts over the laws' own comparisons of slices that hold the same. -/
import Derived.Test.YtemoegnijnhigaaDec
import Derived.Test.YtemoegnijnhigaaEnc
namespace Go.Proofs.Ytemoegnijnhigaa
open Go.ChangeShapes Go.WideShapes Go.ChangeAt Go.RowKit

theorem rd_vgo : ∀ (n : Nat) (k : Nat) (acc : Int) (l : List Int), 0 ≤ acc → (n ≠ 0 ∨ k = 0) → acc + (n : Int) * 128 ^ k ≤ 1000000000000 → k < 6 → rd (vgo n ++ l) k acc = some (acc + (n : Int) * 128 ^ k, k + (vgo n).length) := by
  intro n
  induction n using Nat.strongRecOn with
  | _ n ih =>
    intro k acc l h0 hz hm hk
    by_cases h : n < 128
    · rw [vgo_small h, List.cons_append, List.nil_append]
      have e : (n : Int) % 128 = n := by omega
      have hg : ¬ (((n : Int) = 0 ∧ 0 < k) ∨ 1000000000000 < acc + (n : Int) % 128 * 128 ^ k) := by rw [e]; omega
      rw [rd_good hk (by omega) hg, e]
      rfl
    · have hp : (1 : Int) ≤ 128 ^ k := Int.pow_pos (by omega)
      have e : (((n % 128 + 128 : Nat) : Int)) % 128 = ((n % 128 : Nat) : Int) := by omega
      have hsum : acc + ((n % 128 : Nat) : Int) * 128 ^ k + ((n / 128 : Nat) : Int) * 128 ^ (k + 1) = acc + (n : Int) * 128 ^ k := by
        rw [Int.pow_succ, Int.mul_comm (128 ^ k) 128, ← Int.mul_assoc, Int.add_assoc, ← Int.add_mul]
        have : ((n % 128 : Nat) : Int) + ((n / 128 : Nat) : Int) * 128 = (n : Int) := by omega
        rw [this]
      have hk1 : k + 1 < 6 := by
        by_cases h6 : k = 5
        · subst h6
          have : (128 : Int) ^ 5 = 34359738368 := by decide
          rw [this] at hm
          omega
        · omega
      have hr : rd (vgo (n / 128) ++ l) (k + 1) (acc + ((n % 128 : Nat) : Int) * 128 ^ k) = _ := ih (n / 128) (by omega) (k + 1) _ l (by
          have := Int.mul_nonneg (show (0 : Int) ≤ ((n % 128 : Nat) : Int) by omega) (show (0 : Int) ≤ 128 ^ k by omega)
          omega) (Or.inl (by omega)) (by rw [hsum]; exact hm) hk1
      rw [vgo_step h, List.cons_append, rd_more hk (by omega), e, hr, hsum, List.length_cons]
      congr 2
      omega
theorem vint_in {n : Int} (h0 : 0 ≤ n) (h1 : n ≤ 1000000000000) : vint n = vgo n.toNat := by unfold vint; rw [if_pos ⟨h0, h1⟩]
theorem readU_app (bs l : List Int) {n : Int} (h0 : 0 ≤ n) (h1 : n ≤ 1000000000000) : readU (bs ++ (vint n ++ l)) bs.length = some (n, (vint n).length) := by
  unfold readU
  rw [if_pos ⟨by omega, by rw [List.length_append]; omega⟩, Int.toNat_natCast, List.drop_left, vint_in h0 h1]
  have h := rd_vgo n.toNat 0 0 l (Int.le_refl 0) (Or.inr rfl) (by rw [Int.pow_zero]; omega) (by omega)
  rw [h, Int.pow_zero]
  congr 2
  · omega
  · omega
theorem readU_end (bs : List Int) : readU bs bs.length = none := by
  unfold readU
  split
  · rw [Int.toNat_natCast, List.drop_length]; rfl
  · rfl
theorem rd_inv : ∀ (l : List Int) (k : Nat) (acc v : Int) (j : Nat), Bytes l → 0 ≤ acc → rd l k acc = some (v, j) → ∃ r : Nat, v = acc + (r : Int) * 128 ^ k ∧ (r = 0 → k = 0) ∧ k ≤ j ∧ vgo r = l.take (j - k) := by
  intro l
  induction l with
  | nil => intro k acc v j _ _ h; simp [rd] at h
  | cons x l ih =>
    intro k acc v j hb h0 h
    have hx0 := hb x (List.mem_cons_self ..)
    have hp : (0 : Int) ≤ 128 ^ k := Int.le_of_lt (Int.pow_pos (by omega))
    by_cases hk : 6 ≤ k
    · rw [rd_stop _ _ _ hk] at h; cases h
    · by_cases hx : x < 128
      · by_cases hbad : (x = 0 ∧ 0 < k) ∨ 1000000000000 < acc + x % 128 * 128 ^ k
        · rw [rd_bad (by omega) hx hbad] at h; cases h
        · rw [rd_good (by omega) hx hbad] at h
          simp only [Option.some.injEq, Prod.mk.injEq] at h
          obtain ⟨rfl, rfl⟩ := h
          obtain ⟨r, rfl⟩ := Int.eq_ofNat_of_zero_le hx0.1
          refine ⟨r, by rw [show (r : Int) % 128 = r by omega], by omega, by omega, ?_⟩
          rw [vgo_small (by omega), show k + 1 - k = 1 by omega]; rfl
      · rw [rd_more (by omega) hx] at h
        have hm := Int.mul_nonneg (show (0 : Int) ≤ x % 128 by omega) hp
        obtain ⟨r, hv, hz, hj, ht⟩ := ih (k + 1) _ v j (fun z hz => hb z (List.mem_cons_of_mem _ hz)) (by omega) h
        obtain ⟨y, hy⟩ := Int.eq_ofNat_of_zero_le (show 0 ≤ x % 128 by omega)
        have hr0 : r ≠ 0 := fun e => by have := hz e; omega
        refine ⟨y + 128 * r, ?_, by omega, by omega, ?_⟩
        · rw [hv, hy, Int.pow_succ, Int.mul_comm (128 ^ k) 128, ← Int.mul_assoc, Int.add_assoc, ← Int.add_mul]
          have : (y : Int) + (r : Int) * 128 = ((y + 128 * r : Nat) : Int) := by omega
          rw [this]
        · rw [vgo_step (by omega), show (y + 128 * r) / 128 = r by omega, ht, show j - k = (j - (k + 1)) + 1 by omega, List.take_succ_cons]
          congr 1
          omega
theorem readU_inv {bs : List Int} {o m : Int} {j : Nat} (hb : Bytes bs) (h : readU bs o = some (m, j)) : vint m = (bs.drop o.toNat).take j := by
  have hs := readU_some hb h
  unfold readU at h
  rw [if_pos ⟨hs.1, by omega⟩] at h
  obtain ⟨r, hv, _, _, ht⟩ := rd_inv _ 0 0 m j (fun z hz => hb z (List.mem_of_mem_drop hz)) (Int.le_refl 0) h
  rw [Int.pow_zero] at hv
  rw [vint_in hs.2.1 hs.2.2.1, show m.toNat = r by omega, ht]
  rfl
theorem cut_eq (bs : List Int) (p j : Nat) : (bs.take (p + j)).drop p = (bs.drop p).take j := by
  rw [List.drop_take, show p + j - p = j by omega]

theorem readB_app (bs ds : List Int) (hl : ds.length ≤ 1000000000000) : readB (bs ++ (vint ds.length ++ ds)) bs.length ds.length = some (ds, (((bs ++ (vint ds.length ++ ds)).length : Nat) : Int)) := by
  unfold readB
  rw [readU_app bs ds (by omega) (by omega)]
  simp only [List.length_append]
  rw [if_neg (by omega), Int.toNat_natCast, Int.toNat_natCast]
  congr 2
  · have e : bs ++ (vint ds.length ++ ds) = (bs ++ vint ds.length) ++ ds := by rw [List.append_assoc]
    rw [e, cut_eq, show bs.length + (vint ds.length).length = (bs ++ vint ds.length).length by rw [List.length_append], List.drop_left, List.take_length]
  · omega
theorem readB_short (bs ds : List Int) (hl : ds.length ≤ 1000000000000) : readB (bs ++ (vint ds.length ++ ds)) bs.length (ds.length - 1) = none := by
  unfold readB
  rw [readU_app bs ds (by omega) (by omega)]
  simp only
  rw [if_pos (Or.inl (by omega))]

theorem enc_split (zs : List Int) : ∀ m k, k < m → ∃ l, enc zs m = enc zs k ++ (vint (zs.getD k 0) ++ l) := by
  intro m
  induction m with
  | zero => intro k h; omega
  | succ m ih =>
    intro k h
    by_cases e : k = m
    · subst e; exact ⟨[], by simp [enc]⟩
    · obtain ⟨l, hl⟩ := ih k (by omega)
      exact ⟨l ++ vint (zs.getD m 0), by simp only [enc]; rw [hl]; simp⟩
theorem dec_enc (zs : List Int) (h : ∀ j, 0 ≤ zs.getD j 0 ∧ zs.getD j 0 ≤ 1000000000000) : ∀ k, k ≤ zs.length → dec (enc zs zs.length) 0 k = some (zs.take k, (((enc zs k).length : Nat) : Int)) := by
  intro k
  induction k with
  | zero => intro _; rfl
  | succ k ih =>
    intro hk
    obtain ⟨l, hl⟩ := enc_split zs zs.length k (by omega)
    have hr : readU (enc zs zs.length) (enc zs k).length = some (zs.getD k 0, (vint (zs.getD k 0)).length) := by rw [hl]; exact readU_app _ _ (h k).1 (h k).2
    rw [dec_step (ih (by omega)) hr]
    congr 2
    · rw [List.take_add_one, getD_at (by omega)]; rfl
    · simp only [enc, List.length_append]; omega
theorem readD_enc (zs : List Int) (hl : zs.length ≤ 50) (h : ∀ j, 0 ≤ zs.getD j 0 ∧ zs.getD j 0 ≤ 1000000000000) : readD (enc zs zs.length) 0 zs.length = some (zs, (((enc zs zs.length).length : Nat) : Int)) := by
  unfold readD
  rw [if_pos ⟨by omega, by omega⟩, Int.toNat_natCast, dec_enc zs h _ (Nat.le_refl _), List.take_length]
theorem readD_more (zs : List Int) (hl : zs.length ≤ 50) (h : ∀ j, 0 ≤ zs.getD j 0 ∧ zs.getD j 0 ≤ 1000000000000) : readD (enc zs zs.length) 0 (zs.length + 1) = none := by
  unfold readD
  rw [if_pos ⟨by omega, by omega⟩, show ((zs.length : Int) + 1).toNat = zs.length + 1 by omega]
  exact dec_fail (dec_enc zs h _ (Nat.le_refl _)) (readU_end _)

set_option maxHeartbeats 1000000 in
theorem same8_any (v u : Value) (hi hi' : Nat) (zs : List Int) (w : World) (hv : Reads .u8 hi w v zs) (hu : Reads .u8 hi' w u zs) :
    Calls Try.prog 17 #[v, u] w fun e w' => e = .returned (.bool true) ∧ Same w w' := by
  obtain ⟨a, cap, rfl, hc1, hc2, _, hcells⟩ := hv
  obtain ⟨a', cap', rfl, hc1', hc2', _, hcells'⟩ := hu
  have HC := Lib.hid hcells; have HC' := Lib.hid hcells'; clear hcells hcells'
  obtain ⟨n, hn⟩ : ∃ n, zs.length = n := ⟨_, rfl⟩
  rw [hn] at hc1 hc1' HC HC' ⊢
  have HN := Lib.hid hn; clear hn
  go_enter Try.func17, Try.ntmps17
  go_wp2
  go_loopw [5] (fun i wr => ∃ (k : Nat), k ≤ n ∧ i = .int .i64 k ∧ Same w wr)
    (fun i _ => n - (intOf i).toNat)
  case atStart => exact ⟨0, Nat.zero_le _, rfl, Same.refl _⟩
  case round =>
    obtain ⟨k, hk, rfl, hs⟩ := hrel
    have HS := Lib.hid hs
    clear hs
    by_cases hlt : (k : Int) < (n : Int)
    · rcases HC.out with h0 | ⟨g, off, rfl, hg, hcells⟩
      · omega
      · rcases HC'.out with h0 | ⟨g', off', rfl, hg', hcells'⟩
        · omega
        · have c1 : wr.cell? ⟨g, off + k, none⟩ = some (.int .u8 (zs.getD k 0)) := by rw [HS.out.cell]; exact hcells k (by omega)
          have c2 : wr.cell? ⟨g', off' + k, none⟩ = some (.int .u8 (zs.getD k 0)) := by rw [HS.out.cell]; exact hcells' k (by omega)
          obtain ⟨z, hz⟩ : ∃ z, zs.getD k 0 = z := ⟨_, rfl⟩
          rw [hz] at c1 c2
          clear hcells hcells' hz
          go_wp2
          go_quiet (fail)
          go_wp2
          go_roundw
          case rel => exact ⟨k + 1, by omega, by go_num, HS.out.trans ⟨rfl, rfl, rfl, rfl⟩⟩
          case measure => simp [intOf]; omega
    · have hkn : decide ((k : Int) < (n : Int)) = false := decide_eq_false hlt
      go_wp2
      go_ret
      exact ⟨rfl, HS.out⟩

set_option maxHeartbeats 1000000 in
theorem same64_any (v u : Value) (hi hi' : Nat) (zs : List Int) (w : World) (hv : Reads .i64 hi w v zs) (hu : Reads .i64 hi' w u zs) :
    Calls Try.prog 26 #[v, u] w fun e w' => e = .returned (.bool true) ∧ Same w w' := by
  obtain ⟨a, cap, rfl, hc1, hc2, _, hcells⟩ := hv
  obtain ⟨a', cap', rfl, hc1', hc2', _, hcells'⟩ := hu
  have HC := Lib.hid hcells; have HC' := Lib.hid hcells'; clear hcells hcells'
  obtain ⟨n, hn⟩ : ∃ n, zs.length = n := ⟨_, rfl⟩
  rw [hn] at hc1 hc1' HC HC' ⊢
  have HN := Lib.hid hn; clear hn
  go_enter Try.func26, Try.ntmps26
  go_wp2
  go_loopw [5] (fun i wr => ∃ (k : Nat), k ≤ n ∧ i = .int .i64 k ∧ Same w wr)
    (fun i _ => n - (intOf i).toNat)
  case atStart => exact ⟨0, Nat.zero_le _, rfl, Same.refl _⟩
  case round =>
    obtain ⟨k, hk, rfl, hs⟩ := hrel
    have HS := Lib.hid hs
    clear hs
    by_cases hlt : (k : Int) < (n : Int)
    · rcases HC.out with h0 | ⟨g, off, rfl, hg, hcells⟩
      · omega
      · rcases HC'.out with h0 | ⟨g', off', rfl, hg', hcells'⟩
        · omega
        · have c1 : wr.cell? ⟨g, off + k, none⟩ = some (.int .i64 (zs.getD k 0)) := by rw [HS.out.cell]; exact hcells k (by omega)
          have c2 : wr.cell? ⟨g', off' + k, none⟩ = some (.int .i64 (zs.getD k 0)) := by rw [HS.out.cell]; exact hcells' k (by omega)
          obtain ⟨z, hz⟩ : ∃ z, zs.getD k 0 = z := ⟨_, rfl⟩
          rw [hz] at c1 c2
          clear hcells hcells' hz
          go_wp2
          go_quiet (fail)
          go_wp2
          go_roundw
          case rel => exact ⟨k + 1, by omega, by go_num, HS.out.trans ⟨rfl, rfl, rfl, rfl⟩⟩
          case measure => simp [intOf]; omega
    · have hkn : decide ((k : Int) < (n : Int)) = false := decide_eq_false hlt
      go_wp2
      go_ret
      exact ⟨rfl, HS.out⟩
end Go.Proofs.Ytemoegnijnhigaa
