/- Marks that a law writes into slices of strings, wherever they begin in their blocks; policies compared by what they read as. Helper facts, no claim of its own. -/
import Derived.Test.YtgcdfkpidcdicaaDoorPrsI
import Derived.Test.YtgcdfkpidcdicaaDoorLawPo
namespace Go.Proofs.YtgcdfkpidcdicaaDoor
open Go.ChangeShapes Go.WideShapes Go.ChangeAt Go.RowKit

/-- The marks from k on. -/
def mks (k n : Nat) : List ByteArray := (List.range n).map fun j => mt (k + j)
theorem mks_len (k n : Nat) : (mks k n).length = n := by unfold mks; rw [List.length_map, List.length_range]
theorem mks_succ (k n : Nat) : mks k (n + 1) = mks k n ++ [mt (k + n)] := by unfold mks; rw [List.range_succ, List.map_append]; rfl
theorem mks_cons (k n : Nat) : mks k (n + 1) = mt k :: mks (k + 1) n := by
  unfold mks
  rw [List.range_succ_eq_map, List.map_cons, List.map_map]
  congr 1
  exact List.map_congr_left fun j _ => by show mt (k + (j + 1)) = mt (k + 1 + j); rw [show k + (j + 1) = k + 1 + j by omega]
theorem mks_put {xs : List ByteArray} {k j : Nat} (h : j < xs.length) : (mks k j ++ xs.drop j).set j (mt (k + j)) = mks k (j + 1) ++ xs.drop (j + 1) := by
  rw [List.drop_eq_getElem_cons h, List.set_append_right _ _ (by rw [mks_len]; exact Nat.le_refl _), mks_len, Nat.sub_self, List.set_cons_zero, mks_succ, List.append_assoc]; rfl
theorem mks_at {xs : List ByteArray} {k j : Nat} (h : j < xs.length) : (mks k j ++ xs.drop j)[j]? = some xs[j] := by
  rw [List.getElem?_append_right (by rw [mks_len]; exact Nat.le_refl _), mks_len, Nat.sub_self, List.getElem?_drop, Nat.add_zero, List.getElem?_eq_getElem h]
theorem markL_st : ∀ (xs : List ByteArray) (k : Nat), markL (stCells xs) k = stCells (mks k xs.length)
  | [], k => rfl
  | x :: xs, k => by
    have ih := markL_st xs (k + 1)
    show markL (.leaf (.string x) :: stCells xs) k = _
    rw [markL, mark_leaf, Rw.count, ih, List.length_cons, mks_cons]; rfl
theorem rwSs_mark (v : Value) (xs : List ByteArray) (k : Nat) : (rwSs v xs).mark k = rwSs v (mks k xs.length) := by
  rw [rwSs, rwSs, mark_cell_sl, markL_st, mks_len]
/-- One string is stored. -/
theorem OwnO.put {lo hi n c j : Nat} {w : World} {a : Option Addr} {xs : List ByteArray} {x : ByteArray} (h : OwnO lo hi w (.slice a n c) xs) (hj : xs[j]? = some x) (y : ByteArray) : ∃ g off, a = some ⟨g, off, none⟩ ∧ w.cell? ⟨g, off + j, none⟩ = some (.string x) ∧ w.frozen? ⟨g, off + j, none⟩ = false ∧ OwnO lo hi (w.setCell ⟨g, off + j, none⟩ (.string y)) (.slice a n c) (xs.set j y) ∧ OnlyB (blkO (.slice a n c) xs) w (w.setCell ⟨g, off + j, none⟩ (.string y)) := by
  have hjl := (List.getElem?_eq_some_iff.1 hj).1
  obtain ⟨a', c', e, h1, h2, h3, h4⟩ := h
  injection e with e1 e2 e3
  subst e1; subst e2; subst e3
  rcases h4 with h4 | ⟨g, off, cs, rfl, hl, hg, hh, hc⟩
  · omega
  · have hone := heap_one (o := off + j) hh (.string y)
    have hcj := hc j x hj
    refine ⟨g, off, rfl, box_cell hh hcj, box_frz hh _, ⟨_, _, by rw [List.length_set], by rw [List.length_set]; exact h1, h2, h3, Or.inr ⟨g, off, _, rfl, hl, hg, hone, fun i z hi => ?_⟩⟩, ?_⟩
    · have hlt : off + j < cs.size := (Array.getElem?_eq_some_iff.1 hcj).1
      rw [Array.getElem?_setIfInBounds]
      by_cases e : i = j
      · subst e
        rw [List.getElem?_set_self hjl] at hi
        cases hi
        rw [if_pos rfl, if_pos hlt]
      · rw [List.getElem?_set_ne (fun h => e h.symm)] at hi
        rw [if_neg (by omega)]
        exact hc i z hi
    · refine (OnlyB.refl _ _).set ?_
      unfold blkO
      rw [if_neg (by omega)]; simp [Value.ownBlock]

set_option maxHeartbeats 2000000 in
theorem mkO_any (a : Option Addr) (n c : Nat) (xs : List ByteArray) (lo hi k0 : Nat) (q : Int) (hq : q = k0) (w : World) (ho : OwnO lo hi w (.slice a n c) xs) (hk : k0 + xs.length ≤ 4611686018427387904) :
    Calls Tryd.prog 48 #[.slice a n c, .int .i64 q] w fun e w' => e = .returned (.int .i64 ((k0 + xs.length : Nat) : Int)) ∧ OwnO lo hi w' (.slice a n c) (mks k0 xs.length) ∧ OnlyB (blkO (.slice a n c) xs) w w' := by
  subst hq
  have hn : n = xs.length := by obtain ⟨_, _, e, _⟩ := ho; injection e
  subst hn
  obtain ⟨n, hn⟩ : ∃ n, xs.length = n := ⟨_, rfl⟩
  have hb0 : ∀ ys : List ByteArray, ys.length = xs.length → blkO (.slice a xs.length c) ys = blkO (.slice a xs.length c) xs := fun ys h => by unfold blkO; rw [h]
  obtain ⟨BS, hBS⟩ : ∃ b, blkO (.slice a xs.length c) xs = b := ⟨_, rfl⟩
  rw [hBS] at hb0 ⊢
  rw [hn] at ho hk hb0 ⊢
  have HN := Lib.hid hn; have HO0 := Lib.hid ho; have HB0 := Lib.hid hb0; clear hn ho hb0 hBS
  go_enter Tryd.func48, Tryd.ntmps48
  go_wp2
  go_loopw [1, 5] (fun m i wr => ∃ (j : Nat), j ≤ n ∧ i = .int .i64 j ∧ m = .int .i64 ((k0 + j : Nat) : Int) ∧ OwnO lo hi wr (.slice a n c) (mks k0 j ++ xs.drop j) ∧ OnlyB BS w wr)
    (fun _ i _ => n - (intOf i).toNat)
  case atStart => exact ⟨0, Nat.zero_le _, rfl, rfl, by exact HO0.out, OnlyB.refl _ _⟩
  case round =>
    obtain ⟨j, hj, rfl, rfl, hown, hon⟩ := hrel
    have HO := Lib.hid hown; have HN2 := Lib.hid hon
    clear hown hon
    by_cases hlt : (j : Int) < (n : Int)
    · have hjx : j < xs.length := by have := HN.out; omega
      have HA := Lib.hid (mks_at (k := k0) hjx)
      have HP := Lib.hid (mks_put (k := k0) hjx)
      have HLL := Lib.hid (show (mks k0 j ++ xs.drop j).length = n by rw [List.length_append, mks_len, List.length_drop]; have := HN.out; omega)
      obtain ⟨Q, hQ⟩ : ∃ r, k0 + j = r := ⟨_, rfl⟩
      rw [hQ] at HP ⊢
      have hQk : Q ≤ 4611686018427387904 := by omega
      have HQ := Lib.hid (show k0 + (j + 1) = Q + 1 by omega)
      clear hQ
      go_wp2_with fail
      refine (mark_anyI Q _ rfl hQk _).mono ?_
      rintro e w0 ⟨rfl, hg0⟩
      obtain ⟨g, off, rfl, c0, f0, hput, hon⟩ := (HO.out.later hg0.below).put HA.out (mt Q)
      rw [HP.out] at hput
      rw [HB0.out _ HLL.out] at hon
      have HO' := Lib.hid hput; have HN' := Lib.hid ((HN2.out.trans (OnlyB.of_below hg0.below _)).trans hon)
      clear hput hon hg0
      go_wp2_with fail
      go_roundw
      case rel => exact ⟨j + 1, by omega, by go_num, by rw [HQ.out]; go_num, HO'.out, HN'.out⟩
      case measure => simp [intOf]; omega
    · have hjn : j = n := by omega
      subst hjn
      have HD := Lib.hid (show mks k0 j ++ xs.drop j = mks k0 j by rw [List.drop_of_length_le (by have := HN.out; omega), List.append_nil])
      go_wp2_with fail
      go_ret
      exact ⟨rfl, by rw [← HD.out]; exact HO.out, HN2.out⟩
theorem own3O_blk {lo : Nat} {w : World} {v1 v2 v3 : Value} {xs ys zs : List ByteArray} (h : Own3O lo w v1 v2 v3 xs ys zs) : ∀ b ∈ blkO v1 xs ++ (blkO v2 ys ++ blkO v3 zs), lo ≤ b ∧ b < w.heap.size := by
  intro b hb
  rcases List.mem_append.1 hb with h1 | h1
  · have := h.1.blk b h1; exact ⟨this.1, this.2.1⟩
  · rcases List.mem_append.1 h1 with h1 | h1
    · have := h.2.1.blk b h1; exact ⟨this.1, this.2.1⟩
    · have := h.2.2.1.blk b h1; exact ⟨this.1, this.2.1⟩
theorem eqPoR (b : Bool) (t : ByteArray) {u1 u2 u3 v1 v2 v3 : Value} {xs ys zs : List ByteArray} {w : World} (h : ReadP w.heap.size w u1 u2 u3 ⟨b, xs, ys, zs, t⟩) (k : ReadP w.heap.size w v1 v2 v3 ⟨b, xs, ys, zs, t⟩) :
    Calls Tryd.prog 20 #[.agg #[.bool b, u1, u2, u3, .string t], .agg #[.bool b, v1, v2, v3, .string t]] w fun e w' => e = .returned (.bool true) ∧ Grw w w' :=
  eqV_Policy b (rwSs u1 xs) (rwSs v1 xs) (rwSs u2 ys) (rwSs v2 ys) (rwSs u3 zs) (rwSs v3 zs) t u1 u2 u3 v1 v2 v3 rfl rfl rfl rfl rfl rfl w (rwSs_is _ _) (rwSs_is _ _) (rwSs_data _ _ _) (rwSs_reads h.1) (rwSs_reads k.1) (rwSs_is _ _) (rwSs_is _ _) (rwSs_data _ _ _) (rwSs_reads h.2.1) (rwSs_reads k.2.1) (rwSs_is _ _) (rwSs_is _ _) (rwSs_data _ _ _) (rwSs_reads h.2.2) (rwSs_reads k.2.2)
theorem hdPoR (b : Bool) (t : ByteArray) {a1 a2 a3 : Value} {xs ys zs : List ByteArray} (k0 : Nat) (w : World) (h : ReadP w.heap.size w a1 a2 a3 ⟨b, mks k0 xs.length, mks (k0 + xs.length) ys.length, mks (k0 + xs.length + ys.length) zs.length, t⟩) (hk : k0 + (xs.length + (ys.length + zs.length)) ≤ 4611686018427387904) :
    Calls Tryd.prog 22 #[.agg #[.bool b, a1, a2, a3, .string t], .int .i64 (k0 : Int)] w fun e w' => e = .returned (.int .i64 ((k0 + (xs.length + (ys.length + zs.length)) : Nat) : Int)) ∧ Grw w w' := by
  have hc : countL [rwSs a1 xs, rwSs a2 ys, rwSs a3 zs] = xs.length + (ys.length + zs.length) := by rw [countL, countL, countL, countL, rwSs_count, rwSs_count, rwSs_count, Nat.add_zero]
  have hm : markL [rwSs a1 xs, rwSs a2 ys, rwSs a3 zs] k0 = [rwSs a1 (mks k0 xs.length), rwSs a2 (mks (k0 + xs.length) ys.length), rwSs a3 (mks (k0 + xs.length + ys.length) zs.length)] := by
    rw [markL, markL, markL, markL, rwSs_mark, rwSs_mark, rwSs_mark, rwSs_count, rwSs_count]
  have hrr : ReadRL w.heap.size w (markL [rwSs a1 xs, rwSs a2 ys, rwSs a3 zs] k0) := by
    rw [hm]
    refine readRL_iff.2 fun c hc => ?_
    simp only [List.mem_cons, List.mem_nil_iff, or_false] at hc
    rcases hc with rfl | rfl | rfl
    · exact rwSs_reads h.1
    · exact rwSs_reads h.2.1
    · exact rwSs_reads h.2.2
  have := hdPo b t (poF_of (v1 := a1) (v2 := a2) (v3 := a3) (xs := xs) (ys := ys) (zs := zs)) w.heap.size k0 _ rfl w hrr (Nat.le_refl _) (by rw [hc]; exact hk)
  rw [hc] at this
  exact this
theorem prsP_sm {s : ByteArray} (hs : s.size ≤ 1048576) : PolSm (prsP s).1 := by
  unfold prsP
  split
  · exact polZ_sm
  · split
    · exact rdI_sm hs
    · exact polZ_sm

set_option maxRecDepth 100000 in
set_option maxHeartbeats 4000000 in
theorem mkPoO (b : Bool) (t : ByteArray) (a1 : Option Addr) (n1 c1 : Nat) (a2 : Option Addr) (n2 c2 : Nat) (a3 : Option Addr) (n3 c3 : Nat) (xs ys zs : List ByteArray) (lo k0 : Nat) (w : World) (ho : Own3O lo w (.slice a1 n1 c1) (.slice a2 n2 c2) (.slice a3 n3 c3) xs ys zs) (hk : k0 + (xs.length + (ys.length + zs.length)) ≤ 4611686018427387904) :
    Calls Tryd.prog 21 #[.agg #[.bool b, .slice a1 n1 c1, .slice a2 n2 c2, .slice a3 n3 c3, .string t], .int .i64 (k0 : Int)] w fun e w' => e = .returned (.int .i64 ((k0 + (xs.length + (ys.length + zs.length)) : Nat) : Int)) ∧ Own3O lo w' (.slice a1 n1 c1) (.slice a2 n2 c2) (.slice a3 n3 c3) (mks k0 xs.length) (mks (k0 + xs.length) ys.length) (mks (k0 + xs.length + ys.length) zs.length) ∧ OnlyB (blkO (.slice a1 n1 c1) xs ++ (blkO (.slice a2 n2 c2) ys ++ blkO (.slice a3 n3 c3) zs)) w w' := by
  obtain ⟨o1, o2, o3, hd⟩ := ho
  obtain ⟨W, hW⟩ : ∃ W, w.alloc (.cells #[.bool b, .slice a1 n1 c1, .slice a2 n2 c2, .slice a3 n3 c3, .string t] 26) = W := ⟨_, rfl⟩
  have hb : Below w.heap.size w W := by rw [← hW]; exact bl_aw (Below.refl _ _) _
  have q1 : W.cell? ⟨w.heap.size, 1, none⟩ = some (.slice a1 n1 c1) := by rw [← hW]; simp
  have q2 : W.cell? ⟨w.heap.size, 2, none⟩ = some (.slice a2 n2 c2) := by rw [← hW]; simp
  have q3 : W.cell? ⟨w.heap.size, 3, none⟩ = some (.slice a3 n3 c3) := by rw [← hW]; simp
  have HL1 := Lib.hid (fun b hb => (o1.blk b hb).2.2); have HL2 := Lib.hid (fun b hb => (o2.blk b hb).2.2)
  have HO1 := Lib.hid (o1.later hb); have HO2 := Lib.hid (o2.later hb); have HO3 := Lib.hid (o3.later hb)
  have HB := Lib.hid hb; have HD := Lib.hid hd; have HW := Lib.hid hW; clear o1 o2 o3 hd hb hW
  have E : ∀ (v : Value) (us : List ByteArray) (k : Nat), blkO v (mks k us.length) = blkO v us := fun v us k => by unfold blkO; rw [mks_len]
  have HE := Lib.hid E; clear E
  have D12 := Lib.hid (fun x (h1 : x ∈ blkO (.slice a1 n1 c1) xs) (h2 : x ∈ blkO (.slice a2 n2 c2) ys) => (List.nodup_append.1 HD.out).2.2 x h1 x (List.mem_append.2 (Or.inl h2)) rfl)
  have D13 := Lib.hid (fun x (h1 : x ∈ blkO (.slice a1 n1 c1) xs) (h2 : x ∈ blkO (.slice a3 n3 c3) zs) => (List.nodup_append.1 HD.out).2.2 x h1 x (List.mem_append.2 (Or.inr h2)) rfl)
  have D23 := Lib.hid (fun x (h1 : x ∈ blkO (.slice a2 n2 c2) ys) (h2 : x ∈ blkO (.slice a3 n3 c3) zs) => (List.nodup_append.1 (List.nodup_append.1 HD.out).2.1).2.2 x h1 x h2 rfl)
  obtain ⟨l1, hl1⟩ : ∃ n, xs.length = n := ⟨_, rfl⟩
  obtain ⟨l2, hl2⟩ : ∃ n, ys.length = n := ⟨_, rfl⟩
  obtain ⟨l3, hl3⟩ : ∃ n, zs.length = n := ⟨_, rfl⟩
  go_enter Tryd.func21, Tryd.ntmps21
  go_wp2_with fail
  rw [HW.out]
  refine (mkO_any a1 n1 c1 xs _ _ k0 _ rfl _ HO1.out (by omega)).mono ?_
  rintro e w1 ⟨rfl, ho1, hon⟩
  replace q2 := (cell_only (a := ⟨w.heap.size, 2, none⟩) hon (show w.heap.size ∉ _ from fun h => Nat.lt_irrefl _ (HL1.out _ h)) (World.block_lt_of_cell? _ _ q2)).trans q2
  replace q3 := (cell_only (a := ⟨w.heap.size, 3, none⟩) hon (show w.heap.size ∉ _ from fun h => Nat.lt_irrefl _ (HL1.out _ h)) (World.block_lt_of_cell? _ _ q3)).trans q3
  replace HO2 := Lib.hid (HO2.out.only hon (fun x h2 h1 => D12.out x h1 h2))
  replace HO3 := Lib.hid (HO3.out.only hon (fun x h2 h1 => D13.out x h1 h2))
  have HP1 := Lib.hid ho1
  have HON1 := Lib.hid ((OnlyB.of_below HB.out _).trans (OnlyB.mono (cs := blkO (.slice a1 n1 c1) xs ++ (blkO (.slice a2 n2 c2) ys ++ blkO (.slice a3 n3 c3) zs)) hon (fun i hi => List.mem_append.2 (Or.inl hi))))
  clear ho1 hon
  rw [hl1] at HP1 ⊢
  obtain ⟨r1, hr1⟩ : ∃ r, k0 + l1 = r := ⟨_, rfl⟩
  rw [hr1]
  have HR1 := Lib.hid hr1
  go_wp2_with fail
  refine (mkO_any a2 n2 c2 ys _ _ r1 _ rfl _ HO2.out (by omega)).mono ?_
  rintro e w2 ⟨rfl, ho2, hon⟩
  replace q3 := (cell_only (a := ⟨w.heap.size, 3, none⟩) hon (show w.heap.size ∉ _ from fun h => Nat.lt_irrefl _ (HL2.out _ h)) (World.block_lt_of_cell? _ _ q3)).trans q3
  replace HO3 := Lib.hid (HO3.out.only hon (fun x h2 h1 => D23.out x h1 h2))
  replace HP1 := Lib.hid (HP1.out.only hon (fun x h1 h2 => by rw [← hl1, HE.out] at h1; exact D12.out x h1 h2))
  have HP2 := Lib.hid ho2
  have HON2 := Lib.hid (HON1.out.trans (OnlyB.mono hon (fun i hi => List.mem_append.2 (Or.inr (List.mem_append.2 (Or.inl hi))))))
  clear ho2 hon
  rw [hl2] at HP2 ⊢
  obtain ⟨r2, hr2⟩ : ∃ r, r1 + l2 = r := ⟨_, rfl⟩
  rw [hr2]
  have HR2 := Lib.hid hr2
  go_wp2_with fail
  refine (mkO_any a3 n3 c3 zs _ _ r2 _ rfl _ HO3.out (by omega)).mono ?_
  rintro e w3 ⟨rfl, ho3, hon⟩
  replace HP1 := Lib.hid (HP1.out.only hon (fun x h1 h2 => by rw [← hl1, HE.out] at h1; exact D13.out x h1 h2))
  replace HP2 := Lib.hid (HP2.out.only hon (fun x h1 h2 => by rw [← hl2, HE.out] at h1; exact D23.out x h1 h2))
  have HP3 := Lib.hid ho3
  have HON3 := Lib.hid (HON2.out.trans (OnlyB.mono hon (fun i hi => List.mem_append.2 (Or.inr (List.mem_append.2 (Or.inr hi))))))
  clear ho3 hon
  rw [hl3] at HP3 ⊢
  obtain ⟨r3, hr3⟩ : ∃ r, r2 + l3 = r := ⟨_, rfl⟩
  rw [hr3]
  have HND := Lib.hid (show (blkO (.slice a1 n1 c1) (mks k0 l1) ++ (blkO (.slice a2 n2 c2) (mks r1 l2) ++ blkO (.slice a3 n3 c3) (mks r2 l3))).Nodup by rw [← hl1, ← hl2, ← hl3, HE.out, HE.out, HE.out]; exact HD.out)
  go_wp2_with fail
  go_ret
  rw [hl1, hl2, hl3]
  refine ⟨by rw [show k0 + (l1 + (l2 + l3)) = r3 by omega]; rfl, ⟨HP1.out.top, ?_, ?_, ?_⟩, HON3.out⟩
  · try rw [HR1.out]
    exact HP2.out.top
  · try rw [HR1.out]
    try rw [HR2.out]
    exact HP3.out.top
  · try rw [HR1.out]
    try rw [HR2.out]
    exact HND.out
end Go.Proofs.YtgcdfkpidcdicaaDoor
