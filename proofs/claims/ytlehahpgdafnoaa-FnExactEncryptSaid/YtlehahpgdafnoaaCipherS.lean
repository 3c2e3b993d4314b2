/- Helper contracts: Encrypt and Decrypt of the model return a new slice of the bytes, each shifted by the byte of the stream at its index. Asked: the slice reads as the list named, its elements are bytes, and it is no longer than 2^40. -/
import Derived.Test.YtlehahpgdafnoaaCipher
namespace Go.Proofs.Ytlehahpgdafnoaa
open Go.ChangeShapes Go.WideShapes Go.ChangeAt Go.RowKit

/-- append of one number to a slice of the call's own, at a step of a region that draws its order. -/
theorem step_app {P : Program} {w : World} {ops : Array Oper} {o : Oper} {a : Act} {K : Act → World → Prop} {Q : Exit → Act → World → Prop} {E : Prop} (hgd : o.guard = none) (s x : Operand) (t : TypeId)
    (ho : o.op = .call { callee := .builtin .append, args := #[s, x], argTypes := #[t, t] })
    (k : IntKind) (e : TypeId) (i : TypeInfo) (z : Value) (bytes : Nat) (ht : P.underlying t = some (.slice e)) (hi : P.info? e = some i) (hz : i.zero = some z) (hsize : i.size = 1) (hby : i.bytes = bytes) (hzs : z.cells.size = 1)
    (B : Nat) (w0 : World) (v : Value) (zs : List Int) (hs : a.eval s = v) (hM : Mine k e B w0 w v zs) (ad : Addr) (top : Nat) (y : Int) (hx : a.eval x = .slice (some ad) 1 1) (hr : Reads k top w (.slice (some ad) 1 1) [y])
    (hby8 : bytes ≤ 8) (hlen : zs.length + 1 ≤ 17592186044416)
    (h : ∀ v' w', Mine k e B w0 w' v' (zs ++ [y]) → K (a.put o.dst v') w') :
    if Region.wanted o (yielded ops a.tmps) = true then Oper.wp P o a w K Q else E := by
  refine step_append_lies w hgd s x t ho B e i z 1 bytes ht hi hz hsize hby hzs (by decide) v zs.length _ hs hM.row ad 1 1 ([y].map (.int k)) hx (by simp) hr.news (nums_oneCell _ _) (by omega) ?_ ?_ hM.size w.heap.size rfl ?_
  · unfold maxLen; omega
  · have : (zs.length + 1) * bytes ≤ (zs.length + 1) * 8 := Nat.mul_le_mul_left _ hby8
    omega
  · intro g cap w' hown hgr _ _
    exact h _ w' (hM.grow (ys := [y]) hown hgr)

theorem enc_byte {z h : Int} (z0 : 0 ≤ z) (z1 : z < 256) (h0 : 0 ≤ h) (_ : h < 2147483647) : IntKind.u8.wrap ((IntKind.i64.wrap (z + h.tmod 256)).tmod 256) = (z + h % 256) % 256 := by
  rw [Int.tmod_eq_emod_of_nonneg h0, IntKind.wrap_i64, Int.tmod_eq_emod_of_nonneg (by omega), IntKind.wrap_u8]
  omega
theorem dec_byte {z h : Int} (_ : 0 ≤ z) (_ : z < 256) (h0 : 0 ≤ h) (_ : h < 2147483647) : IntKind.u8.wrap (modI (IntKind.i64.wrap (z - h.tmod 256)) 256) = (z - h % 256) % 256 := by
  rw [Int.tmod_eq_emod_of_nonneg h0, IntKind.wrap_i64, IntKind.wrap_u8]
  unfold modI
  rw [if_pos (by omega)]
  omega

set_option maxHeartbeats 4000000 in
theorem specEncr_any (key : Int) (v : Value) (hi : Nat) (zs : List Int) (w : World) (hr : Reads .u8 hi w v zs) (hh : hi ≤ w.heap.size) (hzb : Bytes zs) (hl : zs.length ≤ 1099511627776) :
    Calls Try.prog 37 #[.int .i64 key, v] w (New .u8 5 (encB key zs zs.length) w) := by
  obtain ⟨i0, hi0, hz0, hz1, hz2⟩ := info_parts info8
  have HM := Lib.hid (Mine.empty .u8 5 w w w.heap.size (Below.refl _ _) (Nat.le_refl _))
  obtain ⟨a, cap, rfl, h1, h2, -, hcells⟩ := hr
  have HC := Lib.hid hcells; have HZB := Lib.hid hzb; clear hcells hzb
  obtain ⟨n, hn⟩ : ∃ n, zs.length = n := ⟨_, rfl⟩
  rw [hn] at h1 hl HC ⊢
  have HN := Lib.hid hn; clear hn
  go_enter Try.func37, Try.ntmps37
  go_wp2
  go_loopw [5, 6] (fun v i wr => ∃ k : Nat, k ≤ n ∧ i = .int .i64 k ∧ Mine .u8 5 w.heap.size w wr v (encB key zs k)) (fun _ i _ => n - (intOf i).toNat)
  case atStart => exact ⟨0, Nat.zero_le _, rfl, HM.out⟩
  case round =>
    obtain ⟨k, hk, rfl, hmine⟩ := hrel
    have HMI := Lib.hid hmine; clear hmine HM
    by_cases hlt : (k : Int) < (n : Int)
    · rcases HC.out with h0 | ⟨g, off, rfl, hg, hcells⟩
      · omega
      · have c1 : w.cell? ⟨g, off + k, none⟩ = some (.int .u8 (zs.getD k 0)) := hcells k (by omega)
        obtain ⟨z0, z1⟩ := HZB.out.at k
        have hsucc := encB_succ key zs k
        obtain ⟨z, hz⟩ : ∃ z, zs.getD k 0 = z := ⟨_, rfl⟩
        rw [hz] at c1 z0 z1 hsucc
        have hgw : g < w.heap.size := by omega
        have KEEP := Lib.hid (fun (w' : World) (h : Below w.heap.size w w') => show Below w.heap.size w w' ∧ w'.cell? ⟨g, off + k, none⟩ = some (.int .u8 z) from ⟨h, by rw [h.cell hgw]; exact c1⟩)
        have HALL := Lib.hid (fun (o : Obj) (wA : World) (h : Below (wr.alloc o).drew.heap.size (wr.alloc o).drew wA) => show Below wr.heap.size wr wA from ((Below.refl _ wr).alloc (Nat.le_refl _) o).drew.trans (h.mono (by show wr.heap.size ≤ (wr.alloc o).heap.size; simp)))
        have HRO := Lib.hid (show Reads .i64 (wr.heap.size + 1) (wr.alloc (.cells #[.int .i64 (k : Int)] 3)).drew (.slice (some ⟨wr.heap.size, 0, none⟩) 1 1) [(k : Int)] from reads_one .i64 3 wr (rfl : (k : Int) = k))
        have hwz : IntKind.i64.wrap z = z := by rw [IntKind.wrap_i64]; omega
        have hkh : kh key [(k : Int)] = ks key k := rfl
        have HSUC := Lib.hid hsucc
        have hd1 : (0 : Int) ≤ (k : Int) := by omega
        clear hcells hz c1 hsucc
        go_wp2_with fail
        go_region_held3 (fun w' => Below w.heap.size w w' ∧ w'.cell? ⟨g, off + k, none⟩ = some (.int .u8 z)) (first | exact KEEP.out _ HMI.out.below.drew | exact KEEP.out _ ((HMI.out.below.drew).alloc HMI.out.size _) | exact KEEP.out _ (HMI.out.below.trans ((HALL.out _ _ hbA).mono HMI.out.size)) | exact KEEP.out _ ((HMI.out.below.trans ((HALL.out _ _ hbA).mono HMI.out.size)).alloc (Nat.le_trans HMI.out.size (HALL.out _ _ hbA).size) _) | exact KEEP.out _ hmB.below)
          (first
          | (refine step_app (by rfl) _ _ 22 (by rfl) .u8 5 i0 (.int .u8 0) 1 Try.underlying22 hi0 hz0 hz1 hz2 rfl w.heap.size w _ (encB key zs k) (by rfl) ((HMI.out.later (HALL.out _ _ hbA)).alloc _) _ _ ((z + ks key k % 256) % 256) (by rfl) (reads_one _ _ _ (enc_byte z0 z1 (ks_bd key k).1 (ks_bd key k).2)) (by decide) (by rw [encB_len]; omega) ?_; intro vB wB hmB)
          | (go_at_call 28; refine (specKH_any key _ (wr.heap.size + 1) [(k : Int)] _ HRO.out (by simp) (by simp)).mono ?_; rintro e wA ⟨rfl, hbA⟩))
        have HMB := Lib.hid (show Mine .u8 5 w.heap.size w wB vB (encB key zs (k + 1)) by rw [HSUC.out]; exact hmB)
        clear hmB hbA
        go_wp2
        go_roundw
        case rel => exact ⟨k + 1, by omega, by go_num, HMB.out⟩
        case measure => simp [intOf]; omega
    · have hkn : k = n := by omega
      subst hkn
      go_wp2
      go_ret
      exact ⟨_, rfl, HMI.out.own, HMI.out.below⟩

set_option maxHeartbeats 4000000 in
theorem specDecr_any (key : Int) (v : Value) (hi : Nat) (zs : List Int) (w : World) (hr : Reads .u8 hi w v zs) (hh : hi ≤ w.heap.size) (hzb : Bytes zs) (hl : zs.length ≤ 1099511627776) :
    Calls Try.prog 39 #[.int .i64 key, v] w (New .u8 5 (decB key zs zs.length) w) := by
  obtain ⟨i0, hi0, hz0, hz1, hz2⟩ := info_parts info8
  have HM := Lib.hid (Mine.empty .u8 5 w w w.heap.size (Below.refl _ _) (Nat.le_refl _))
  obtain ⟨a, cap, rfl, h1, h2, -, hcells⟩ := hr
  have HC := Lib.hid hcells; have HZB := Lib.hid hzb; clear hcells hzb
  obtain ⟨n, hn⟩ : ∃ n, zs.length = n := ⟨_, rfl⟩
  rw [hn] at h1 hl HC ⊢
  have HN := Lib.hid hn; clear hn
  go_enter Try.func39, Try.ntmps39
  go_wp2
  go_loopw [5, 6] (fun v i wr => ∃ k : Nat, k ≤ n ∧ i = .int .i64 k ∧ Mine .u8 5 w.heap.size w wr v (decB key zs k)) (fun _ i _ => n - (intOf i).toNat)
  case atStart => exact ⟨0, Nat.zero_le _, rfl, HM.out⟩
  case round =>
    obtain ⟨k, hk, rfl, hmine⟩ := hrel
    have HMI := Lib.hid hmine; clear hmine HM
    by_cases hlt : (k : Int) < (n : Int)
    · rcases HC.out with h0 | ⟨g, off, rfl, hg, hcells⟩
      · omega
      · have c1 : w.cell? ⟨g, off + k, none⟩ = some (.int .u8 (zs.getD k 0)) := hcells k (by omega)
        obtain ⟨z0, z1⟩ := HZB.out.at k
        have hsucc := decB_succ key zs k
        obtain ⟨z, hz⟩ : ∃ z, zs.getD k 0 = z := ⟨_, rfl⟩
        rw [hz] at c1 z0 z1 hsucc
        have hgw : g < w.heap.size := by omega
        have KEEP := Lib.hid (fun (w' : World) (h : Below w.heap.size w w') => show Below w.heap.size w w' ∧ w'.cell? ⟨g, off + k, none⟩ = some (.int .u8 z) from ⟨h, by rw [h.cell hgw]; exact c1⟩)
        have HALL := Lib.hid (fun (o : Obj) (wA : World) (h : Below (wr.alloc o).drew.heap.size (wr.alloc o).drew wA) => show Below wr.heap.size wr wA from ((Below.refl _ wr).alloc (Nat.le_refl _) o).drew.trans (h.mono (by show wr.heap.size ≤ (wr.alloc o).heap.size; simp)))
        have HRO := Lib.hid (show Reads .i64 (wr.heap.size + 1) (wr.alloc (.cells #[.int .i64 (k : Int)] 3)).drew (.slice (some ⟨wr.heap.size, 0, none⟩) 1 1) [(k : Int)] from reads_one .i64 3 wr (rfl : (k : Int) = k))
        have hwz : IntKind.i64.wrap z = z := by rw [IntKind.wrap_i64]; omega
        have hkh : kh key [(k : Int)] = ks key k := rfl
        have HSUC := Lib.hid hsucc
        have hd1 : (0 : Int) ≤ (k : Int) := by omega
        clear hcells hz c1 hsucc
        go_wp2_with fail
        go_region_held3 (fun w' => Below w.heap.size w w' ∧ w'.cell? ⟨g, off + k, none⟩ = some (.int .u8 z)) (first | exact KEEP.out _ HMI.out.below.drew | exact KEEP.out _ ((HMI.out.below.drew).alloc HMI.out.size _) | exact KEEP.out _ (HMI.out.below.trans ((HALL.out _ _ hbA).mono HMI.out.size)) | exact KEEP.out _ ((HMI.out.below.trans ((HALL.out _ _ hbA).mono HMI.out.size)).alloc (Nat.le_trans HMI.out.size (HALL.out _ _ hbA).size) _) | exact KEEP.out _ hmB.below)
          (first
          | (refine step_app (by rfl) _ _ 22 (by rfl) .u8 5 i0 (.int .u8 0) 1 Try.underlying22 hi0 hz0 hz1 hz2 rfl w.heap.size w _ (decB key zs k) (by rfl) ((HMI.out.later (HALL.out _ _ hbA)).alloc _) _ _ ((z - ks key k % 256) % 256) (by rfl) (reads_one _ _ _ (dec_byte z0 z1 (ks_bd key k).1 (ks_bd key k).2)) (by decide) (by rw [decB_len]; omega) ?_; intro vB wB hmB)
          | (go_at_call 28; refine (specKH_any key _ (wr.heap.size + 1) [(k : Int)] _ HRO.out (by simp) (by simp)).mono ?_; rintro e wA ⟨rfl, hbA⟩)
          | (go_at_call 21; refine (mod_spec _ _ _).mono ?_; rintro e wM ⟨rfl, rfl⟩))
        have HMB := Lib.hid (show Mine .u8 5 w.heap.size w wB vB (decB key zs (k + 1)) by rw [HSUC.out]; exact hmB)
        clear hmB hbA
        go_wp2
        go_roundw
        case rel => exact ⟨k + 1, by omega, by go_num, HMB.out⟩
        case measure => simp [intOf]; omega
    · have hkn : k = n := by omega
      subst hkn
      go_wp2
      go_ret
      exact ⟨_, rfl, HMI.out.own, HMI.out.below⟩
end Go.Proofs.Ytlehahpgdafnoaa
