/- Helper contract: slices.Compact at addresses, over a row of the call's own: of each run of equal neighbours one stays. The library's text is walked. Asked: the row holds the elements named. -/
import Derived.Test.YtojpbdhkcpfeaaaHas
import Derived.Lib.SlicesCompact
namespace Go.Proofs.Ytojpbdhkcpfeaaa
open Go.ChangeShapes Go.WideShapes Go.ChangeAt Go.RowKit

theorem flat_set2 {xs : List Ad} {k : Nat} {x : Ad} (hk : k < xs.length) : ((xs.flatMap encA).set (k * 2) (.string x.1)).set (k * 2 + 1) (.string x.2) = (xs.set k x).flatMap encA := by
  have hl : (xs.flatMap encA).length = xs.length * 2 := flat_len encA_len xs
  refine UptoK.full (enc := encA) (n := xs.length) encA_len ?_ (by simp [hl]) (by simp)
  intro j y hj hy i hi'
  by_cases e : j = k
  · subst e
    rw [List.getElem?_set_self hk] at hy
    cases hy
    rcases (show i = 0 ∨ i = 1 by omega) with rfl | rfl
    · rw [List.getElem?_set_ne (by omega), Nat.add_zero, List.getElem?_set_self (by omega)]; rfl
    · rw [List.getElem?_set_self (by rw [List.length_set]; omega)]; rfl
  · rw [List.getElem?_set_ne (by omega)] at hy
    rw [List.getElem?_set_ne (by omega), List.getElem?_set_ne (by omega)]
    exact flat_at encA_len hy hi'
theorem flat_get {d : Array Ad} {j : Nat} (hj : j < d.size) : d.toList[j]? = some d[j]! := by
  rw [getElem!_pos d j hj]; simp [hj]
theorem flat_take {xs ys : List Ad} {k : Nat} (hk : k ≤ xs.length) (hl : ys.length = k) (h : ∀ j, j < k → ys[j]? = xs[j]?) : (xs.flatMap encA).take (k * 2) = ys.flatMap encA := by
  have e : xs.take k = ys := by
    apply List.ext_getElem?
    intro j
    by_cases hj : j < k
    · rw [List.getElem?_take, if_pos hj, h j hj]
    · rw [List.getElem?_eq_none (by rw [List.length_take]; omega), List.getElem?_eq_none (by omega)]
  rw [← e]
  have h2 : xs.flatMap encA = (xs.take k).flatMap encA ++ (xs.drop k).flatMap encA := by rw [← List.flatMap_append, List.take_append_drop]
  rw [h2, List.take_left' (by rw [flat_len encA_len, List.length_take]; omega)]

/-- 'clear(s[k:])' on a row of the call's own: its first k elements stay. -/
theorem run_clear_row {w : World} {lo g n cap k : Nat} {xs : List Ad} (h : w.ownsRow lo 25 2 (.slice (some ⟨g, 0, none⟩) n cap) n (xs.flatMap encA)) (hk : k < n) (c : Nat) :
    ∃ w', (∀ ty, (Builtin.clear_ #[33] ty #[.slice (some ⟨g, k * 2, none⟩) (n - k) c]).run Try.prog w = .ok (.tuple #[]) w') ∧ w.grownBy w' (some g) ∧
      ∃ cur, w'.heap[g]? = some (.cells cur 25 (0, 0)) ∧ cur.size = cap * 2 ∧ cur.toList.take (k * 2) = (xs.flatMap encA).take (k * 2) ∧ lo ≤ g ∧ n ≤ cap ∧ cap ≤ maxLen := by
  rcases h.2 with ⟨h', _⟩ | ⟨g', cap', cur, h', hb, hg, hnc, hcm, hcs, htake⟩
  · simp at h'
  · simp only [Value.slice.injEq, Option.some.injEq, Addr.mk.injEq, and_true, true_and] at h'
    obtain ⟨rfl, rfl⟩ := h'
    obtain ⟨zs, hzs⟩ : ∃ zs, (Builtin.zeroCells zA.cells (n - k)).toList = zs := ⟨_, rfl⟩
    have hzl : zs.length = (n - k) * 2 := by
      rw [← hzs, Array.length_toList, size_zeroCells]; rfl
    have hfit : k * 2 + zs.length ≤ cur.size := by rw [hzl, hcs]; omega
    have h1 : ∀ u ∈ zs, u.oneCell' = true := by
      intro u hu
      rw [← hzs] at hu
      simp only [Builtin.zeroCells, Array.toList_map, List.mem_map] at hu
      obtain ⟨i, _, rfl⟩ := hu
      have : ∀ i, i < 2 → (zA.cells[i]!).oneCell' = true := by
        intro i hi
        rcases (show i = 0 ∨ i = 1 by omega) with rfl | rfl <;> rfl
      exact this _ (Nat.mod_lt _ (by decide))
    have hst := run_storeCells_at Try.prog g (k * 2) 25 zs 0 cur w hg (by simpa using hfit) h1
    simp only [Nat.add_zero] at hst
    obtain ⟨m, hm⟩ : ∃ m, n - k = m + 1 := ⟨n - k - 1, by omega⟩
    refine ⟨w.setRow g (cur.toList.take (k * 2) ++ zs ++ cur.toList.drop (k * 2 + zs.length)).toArray, fun ty => ?_, ?_, ?_⟩
    · rw [hm] at hzs ⊢
      simp [Builtin.clear_, run_underlying Try.underlying33, Try.zeroValue25, hzs, hst]
    · exact ⟨rfl, rfl, rfl, by simp, fun k' _ hk' => setRow_other w g k' _ (fun e => hk' (by simp [e]))⟩
    · refine ⟨_, setRow_heap w g cur _ 25 _ hg, ?_, ?_, hb, hnc, hcm⟩
      · simp only [List.size_toArray, List.length_append, List.length_take, List.length_drop, Array.length_toList]
        omega
      · have hkl : (cur.toList.take (k * 2)).length = k * 2 := by rw [List.length_take, Array.length_toList]; omega
        rw [List.append_assoc, List.take_left' hkl, ← htake, List.take_take]
        congr 1
        omega

theorem grown_drewN {a b : World} {r : Option Nat} (h : a.grownBy b r) (n : Nat) : a.grownBy (b.drewN n) r := ⟨h.os, h.tape, h.output, h.size, h.block⟩
/-- What Compact leaves of the elements. -/
def compA (xs : List Ad) : List Ad := Lib.compactUpTo xs.toArray xs.length
/-- A row whose first elements are kept: what is handed back. -/
def CompOut (lo g : Nat) (xs : List Ad) (w : World) (e : Ending) (w' : World) : Prop :=
  ∃ v, e = .returned v ∧ w'.ownsRow lo 25 2 v (compA xs).length ((compA xs).flatMap encA) ∧ v.ownBlock = some g ∧ w.grownBy w' (some g)
theorem cells_at {w : World} {lo g n cap : Nat} {d : Array Ad} (h : w.ownsRow lo 25 2 (.slice (some ⟨g, 0, none⟩) n cap) n (d.toList.flatMap encA)) {j : Nat} (hj : j < d.size) (hn : d.size = n) :
    w.cell? ⟨g, j * 2, none⟩ = some (.string d[j]!.1) ∧ w.cell? ⟨g, j * 2 + 1, none⟩ = some (.string d[j]!.2) := by
  have h0 := flat_at encA_len (flat_get hj) (i := 0) (by omega)
  have h1 := flat_at encA_len (flat_get hj) (i := 1) (by omega)
  rw [Nat.add_zero] at h0
  rw [h.cellAt (j * 2) (by omega), h.cellAt (j * 2 + 1) (by omega), h0, h1]
  exact ⟨rfl, rfl⟩

theorem row_set {w : World} {lo g n cap kk : Nat} {d : Array Ad} {a0 a1 : ByteArray} (h : w.ownsRow lo 25 2 (.slice (some ⟨g, 0, none⟩) n cap) n (d.toList.flatMap encA)) (hk : kk < n) (hd : d.size = n) (q : Nat) :
    (((w.drewN q).setCell ⟨g, kk * 2, none⟩ (.string a0)).setCell ⟨g, kk * 2 + 1, none⟩ (.string a1)).ownsRow lo 25 2 (.slice (some ⟨g, 0, none⟩) n cap) n ((d.setIfInBounds kk (a0, a1)).toList.flatMap encA) := by
  have h0 : (w.drewN q).ownsRow lo 25 2 (.slice (some ⟨g, 0, none⟩) n cap) n (d.toList.flatMap encA) := h
  have h1 := ((h0.stored (kk * 2) (.string a0)).1.stored (kk * 2 + 1) (.string a1)).1
  rw [flat_set2 (x := (a0, a1)) (by rw [Array.length_toList]; omega)] at h1
  rw [Array.toList_setIfInBounds]
  exact h1
theorem grow_set {w0 w : World} {lo g n cap kk : Nat} {d : Array Ad} {a0 a1 : ByteArray} (h : w.ownsRow lo 25 2 (.slice (some ⟨g, 0, none⟩) n cap) n (d.toList.flatMap encA)) (hg : w0.grownBy w (some g)) (q : Nat) :
    w0.grownBy (((w.drewN q).setCell ⟨g, kk * 2, none⟩ (.string a0)).setCell ⟨g, kk * 2 + 1, none⟩ (.string a1)) (some g) := by
  have h0 : (w.drewN q).ownsRow lo 25 2 (.slice (some ⟨g, 0, none⟩) n cap) n (d.toList.flatMap encA) := h
  have h1 := h0.stored (kk * 2) (.string a0)
  have h2 := h1.1.stored (kk * 2 + 1) (.string a1)
  exact grown_trans (grown_drewN hg q) (grown_trans h1.2 h2.2)

set_option maxRecDepth 100000 in
set_option maxHeartbeats 4000000 in
theorem compact_any (lo g cap : Nat) (xs : List Ad) (w : World) (h : w.ownsRow lo 25 2 (.slice (some ⟨g, 0, none⟩) xs.length cap) xs.length (xs.flatMap encA)) :
    Calls Try.prog 46 #[.slice (some ⟨g, 0, none⟩) xs.length cap] w (CompOut lo g xs w) := by
  obtain ⟨n, hn⟩ : ∃ n, xs.length = n := ⟨_, rfl⟩
  obtain ⟨d, hd⟩ : ∃ d : Array Ad, xs.toArray = d := ⟨_, rfl⟩
  have hds : d.size = n := by rw [← hd, ← hn]; simp
  have hxd : xs = d.toList := by rw [← hd]
  have hcap : n ≤ cap ∧ cap ≤ 9223372036854775807 := by
    rcases h.2 with ⟨h', _⟩ | ⟨g', cap', cur, h', hb, hg, hnc, hcm, hcs, htake⟩
    · simp at h'
    · simp only [Value.slice.injEq] at h'
      unfold maxLen at hcm
      omega
  obtain ⟨hc1, hc2⟩ := hcap
  have hall : (∀ j, j < n → Lib.keeps d j = true) → compA xs = xs := by
    intro hk
    unfold compA
    rw [hd, hn, Lib.compactUpTo_all _ _ hk, ← hds, Lib.range_map_get, hxd]
  have hcomp : compA xs = Lib.compactUpTo d n := by unfold compA; rw [hd, hn]
  rw [hn, hxd] at h
  rw [hn]
  have HH := Lib.hid h; have HALL := Lib.hid hall; have HCO := Lib.hid hcomp; have HXD := Lib.hid hxd; have HN := Lib.hid hn; have HD := Lib.hid hds
  clear h hall hcomp hxd hn hd hds
  by_cases h2 : (n : Int) < 2
  · go_enter Try.func46, Try.ntmps46
    go_wp2
    go_ret
    have e := HALL.out (fun j hj => Lib.keeps_lt_one d j (by omega))
    exact ⟨_, rfl, by rw [e, HN.out, HXD.out]; exact HH.out, rfl, World.grownBy.refl _ _⟩
  · go_enter Try.func46, Try.ntmps46
    go_wp2
    go_loopw [3] (fun s3 wr => ∃ k : Nat, 1 ≤ k ∧ k ≤ n ∧ s3 = .int .i64 k ∧ wr.ownsRow lo 25 2 (.slice (some ⟨g, 0, none⟩) n cap) n (d.toList.flatMap encA) ∧ w.grownBy wr (some g) ∧ ∀ j, j < k → Lib.keeps d j = true)
      (fun s3 _ => n - (intOf s3).toNat)
    case atStart => exact ⟨1, Nat.le_refl _, by omega, rfl, HH.out, World.grownBy.refl _ _, Lib.keeps_lt_one d⟩
    case round =>
      obtain ⟨k, hk1, hk, rfl, hown, hgr, hkeep⟩ := hrel
      have HO := Lib.hid hown; have HG := Lib.hid hgr; have HK := Lib.hid hkeep
      clear hown hgr hkeep HH
      by_cases hlt : (k : Int) < (n : Int)
      · obtain ⟨c0, c1⟩ := cells_at HO.out (j := k) (by rw [HD.out]; omega) HD.out
        obtain ⟨p0, p1⟩ := cells_at HO.out (j := k - 1) (by rw [HD.out]; omega) HD.out
        obtain ⟨a0, a1, ha⟩ : ∃ x y, d[k]! = (x, y) := ⟨d[k]!.1, d[k]!.2, rfl⟩
        obtain ⟨b0, b1, hb⟩ : ∃ x y, d[k - 1]! = (x, y) := ⟨d[k - 1]!.1, d[k - 1]!.2, rfl⟩
        rw [ha] at c0 c1
        rw [hb] at p0 p1
        have HA := Lib.hid ha; have HB := Lib.hid hb
        clear ha hb
        have hi0 : (0 : Int) ≤ (k : Int) - 1 := by omega
        have hi1 : (k : Int) - 1 < (n : Int) := by omega
        by_cases e1 : a0 = b0
        · have e3 : (a0.toList == b0.toList) = true := beqL_yes e1
          by_cases e2 : a1 = b1
          · have e4 : (a1.toList == b1.toList) = true := beqL_yes e2
            have HDUP := Lib.hid (Lib.keeps_neg (d := d) (m := k) (by omega) (by rw [HA.out, HB.out, e1, e2]))
            clear e1 e2
            go_wp2
            go_quiet (fail)
            go_wp2
            clear c0 c1 p0 p1 e3 e4 hi0 hi1
            go_loopw [3, 5] (fun s3 s5 wl => ∃ (kk k2 : Nat) (dk : Array Ad), s3 = .int .i64 kk ∧ s5 = .int .i64 k2 ∧ 1 ≤ k2 ∧ k + k2 ≤ n ∧ Lib.CompInv d (k + k2) kk dk ∧ wl.ownsRow lo 25 2 (.slice (some ⟨g, 0, none⟩) n cap) n (dk.toList.flatMap encA) ∧ w.grownBy wl (some g))
              (fun _ s5 _ => n - (intOf s5).toNat)
            case atStart => exact ⟨k, 1, d, rfl, rfl, Nat.le_refl _, by omega, Lib.CompInv.start HK.out HDUP.out, HO.out, grown_drewN HG.out _⟩
            case round =>
              obtain ⟨kk, k2, dk, rfl, rfl, h1, hle, hI, hown, hgr⟩ := hrel
              have hkk := hI.lt
              have hdk : dk.size = n := by rw [hI.size]; exact HD.out
              have HI := Lib.hid hI; have HO2 := Lib.hid hown; have HG2 := Lib.hid hgr; have HDK := Lib.hid hdk
              clear hI hown hgr hdk
              by_cases hlt2 : k + k2 < n
              · have hlt2' : (k2 : Int) < ((n - k : Nat) : Int) := by omega
                obtain ⟨c0, c1⟩ := cells_at HO2.out (j := k + k2) (by rw [HDK.out]; omega) HDK.out
                obtain ⟨p0, p1⟩ := cells_at HO2.out (j := k + k2 - 1) (by rw [HDK.out]; omega) HDK.out
                obtain ⟨o0, o1⟩ := cells_at HO2.out (j := kk) (by rw [HDK.out]; omega) HDK.out
                have f0 : wr.frozen? ⟨g, kk * 2, none⟩ = false := HO2.out.frozenAt _
                have f1 : wr.frozen? ⟨g, kk * 2 + 1, none⟩ = false := HO2.out.frozenAt _
                rw [HI.out.high (k + k2) (by omega), show (k + k2) * 2 = k * 2 + k2 * 2 by omega] at c0 c1
                rw [HI.out.high (k + k2 - 1) (by omega), show (k + k2 - 1) * 2 = k * 2 + (k2 - 1) * 2 by omega] at p0 p1
                obtain ⟨a0, a1, ha⟩ : ∃ x y, d[k + k2]! = (x, y) := ⟨d[k + k2]!.1, d[k + k2]!.2, rfl⟩
                obtain ⟨b0, b1, hb⟩ : ∃ x y, d[k + k2 - 1]! = (x, y) := ⟨d[k + k2 - 1]!.1, d[k + k2 - 1]!.2, rfl⟩
                obtain ⟨z0, hz0⟩ : ∃ z, dk[kk]!.1 = z := ⟨_, rfl⟩
                obtain ⟨z1, hz1⟩ : ∃ z, dk[kk]!.2 = z := ⟨_, rfl⟩
                rw [ha] at c0 c1
                rw [hb] at p0 p1
                rw [hz0] at o0
                rw [hz1] at o1
                have HA2 := Lib.hid ha; have HB2 := Lib.hid hb
                clear ha hb hz0 hz1
                have hi0 : (0 : Int) ≤ (k2 : Int) - 1 := by omega
                have hi1 : (k2 : Int) - 1 < ((n - k : Nat) : Int) := by omega
                have hi2 : (kk : Int) < (n : Int) := by omega
                have hi2' : kk < n := by omega
                by_cases e1 : a0 = b0
                · have e3 : (a0.toList == b0.toList) = true := beqL_yes e1
                  by_cases e2 : a1 = b1
                  · have e4 : (a1.toList == b1.toList) = true := beqL_yes e2
                    have HSK := Lib.hid (HI.out.skip (Lib.keeps_neg (d := d) (m := k + k2) (by omega) (by rw [HA2.out, HB2.out, e1, e2])))
                    clear e1 e2
                    go_wp2
                    go_quiet (fail)
                    go_wp2
                    go_roundw
                    case rel => exact ⟨kk, k2 + 1, dk, rfl, by go_num, by omega, by omega, HSK.out, HO2.out, grown_drewN HG2.out _⟩
                    case measure => simp [intOf]; omega
                  · have e4 : (a1.toList == b1.toList) = false := beqL_no e2
                    have HKP := Lib.hid (HI.out.keep (by rw [HD.out]; exact hlt2) (Lib.keeps_pos (d := d) (m := k + k2) (by rw [HA2.out, HB2.out]; exact fun e => e2 (Prod.mk.inj e).2)))
                    clear e1 e2
                    go_wp2
                    go_quiet (fail)
                    go_wp2
                    go_roundw
                    case rel => exact ⟨kk + 1, k2 + 1, dk.setIfInBounds kk (a0, a1), by go_num, by go_num, by omega, by omega, by rw [← HA2.out]; exact HKP.out, row_set HO2.out hi2' HDK.out nq, grow_set HO2.out HG2.out nq⟩
                    case measure => simp [intOf]; omega
                · have e3 : (a0.toList == b0.toList) = false := beqL_no e1
                  have HKP := Lib.hid (HI.out.keep (by rw [HD.out]; exact hlt2) (Lib.keeps_pos (d := d) (m := k + k2) (by rw [HA2.out, HB2.out]; exact fun e => e1 (Prod.mk.inj e).1)))
                  clear e1
                  go_wp2
                  go_quiet (fail)
                  go_wp2
                  go_roundw
                  case rel => exact ⟨kk + 1, k2 + 1, dk.setIfInBounds kk (a0, a1), by go_num, by go_num, by omega, by omega, by rw [← HA2.out]; exact HKP.out, row_set HO2.out hi2' HDK.out nq, grow_set HO2.out HG2.out nq⟩
                  case measure => simp [intOf]; omega
              · have hlt2' : decide ((k2 : Int) < ((n - k : Nat) : Int)) = false := decide_eq_false (by omega)
                have hkn : kk < n := by omega
                obtain ⟨wc, hcl, hgc, cur, hcur, hcs, htk, hlo, hnc, hcm⟩ := run_clear_row HO2.out hkn (cap - kk)
                have HCUR := Lib.hid hcur; have HTK := Lib.hid htk; have HGC := Lib.hid (grown_trans HG2.out hgc)
                have HCS := Lib.hid hcs
                clear hcur htk hgc hcs
                have hi2 : (kk : Int) ≤ (n : Int) := by omega
                go_wp2
                go_ret
                have hI := HI.out
                have hkn2 : k + k2 = n := by omega
                rw [hkn2] at hI
                refine ⟨_, rfl, ?_, rfl, HGC.out⟩
                rw [HCO.out, hI.len]
                refine ⟨by rw [flat_len encA_len, hI.len], Or.inr ⟨g, cap, cur, rfl, hlo, HCUR.out, by omega, hcm, HCS.out, ?_⟩⟩
                rw [HTK.out]
                exact flat_take (by rw [Array.length_toList, HDK.out]; omega) hI.len (fun j hj => by rw [hI.low j hj, flat_get (by rw [HDK.out]; omega)])
          · have e4 : (a1.toList == b1.toList) = false := beqL_no e2
            have HKP := Lib.hid (Lib.keeps_pos (d := d) (m := k) (by rw [HA.out, HB.out]; exact fun e => e2 (Prod.mk.inj e).2))
            clear e1 e2
            go_wp2
            go_quiet (fail)
            go_wp2
            go_roundw
            case rel =>
              refine ⟨k + 1, by omega, by omega, by go_num, HO.out, grown_drewN HG.out _, fun j hj => ?_⟩
              by_cases e : j = k
              · rw [e]; exact HKP.out
              · exact HK.out j (by omega)
            case measure => simp [intOf]; omega
        · have e3 : (a0.toList == b0.toList) = false := beqL_no e1
          have HKP := Lib.hid (Lib.keeps_pos (d := d) (m := k) (by rw [HA.out, HB.out]; exact fun e => e1 (Prod.mk.inj e).1))
          clear e1
          go_wp2
          go_quiet (fail)
          go_wp2
          go_roundw
          case rel =>
            refine ⟨k + 1, by omega, by omega, by go_num, HO.out, grown_drewN HG.out _, fun j hj => ?_⟩
            by_cases e : j = k
            · rw [e]; exact HKP.out
            · exact HK.out j (by omega)
          case measure => simp [intOf]; omega
      · have hkn : decide ((k : Int) < (n : Int)) = false := decide_eq_false hlt
        go_wp2
        go_ret
        have e := HALL.out (fun j hj => HK.out j (by omega))
        exact ⟨_, rfl, by rw [e, HN.out, HXD.out]; exact HO.out, rfl, HG.out⟩
end Go.Proofs.Ytojpbdhkcpfeaaa
