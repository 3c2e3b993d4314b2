/- 10 texts in one. -/
import Derived.Test.YtgcdfkpidcdicaaGreatDoorKeyL
import Derived.Test.YtgcdfkpidcdicaaGreatDoorAdd0
import Derived.Test.YtgcdfkpidcdicaaGreatDoorRowA2
import Derived.Test.YtgcdfkpidcdicaaGreatDoorShA
import Derived.Test.YtgcdfkpidcdicaaGreatDoorColA2
import Derived.Test.YtgcdfkpidcdicaaGreatDoorCnt
import Derived.Test.YtgcdfkpidcdicaaGreatDoorRawL
import Derived.Test.YtgcdfkpidcdicaaGreatDoorNumA
import Derived.Test.YtgcdfkpidcdicaaGreatDoorShelfJ
import Derived.Test.YtgcdfkpidcdicaaGreatDoorBasA
import Derived.Lib.Join
import Derived.Deep.RegionHeld3
import Derived.Laws.Concat
import Derived.Test.YtgcdfkpidcdicaaGreatDoorTagP
import Derived.Shelf.SlSortCmp.QuietGrown
import Derived.Test.YtgcdfkpidcdicaaGreatDoorSpl
import Derived.Deep.AppendLies
import Derived.Test.YtgcdfkpidcdicaaGreatDoorDrwB
namespace Go.Proofs.YtgcdfkpidcdicaaGreatDoor
/- JnI -/
open Go.ChangeShapes Go.WideShapes Go.ChangeAt Go.RowKit Go.Maps Go.WideMaps

/-- The names with their colors. -/
def withCol (rs : List Ru) (N : List ByteArray) : List Ru := N.map fun nm => (nm, colOf rs nm)
theorem withCol_len (rs : List Ru) (N : List ByteArray) : (withCol rs N).length = N.length := by rw [withCol, List.length_map]
theorem withCol_take {rs : List Ru} {N : List ByteArray} {j : Nat} {s : ByteArray} (h : N[j]? = some s) : withCol rs (N.take (j + 1)) = withCol rs (N.take j) ++ [(s, colOf rs s)] := by
  rw [withCol, take_snoc h, List.map_append]; rfl
/-- What JoinSheets answers. -/
def JoinForm (rs : List Ru) (X : World) (e : Ending) (w' : World) : Prop :=
  ∃ a n c N, e = .returned (.agg #[.slice a n c]) ∧ JN rs N ∧ MineK encU 2 36 X.heap.size X w' (.slice a n c) (withCol rs N)

/-- What stands in the loop over the keys. -/
structure JI (w wr : World) (v : Value) (xs : List Ru) (lo : Nat) (kv : Value) (N : List ByteArray) (b : Nat) (rs : List Ru) : Prop where
  m : MineK encU 2 36 w.heap.size w wr v xs
  k : OwnK encS 1 9 lo wr.heap.size wr kv N
  c : IsCol wr b rs
  x : wr.heap[w.heap.size]? = some (.cells #[.slice none 0 0] 27 (0, 0))
theorem JI.alloc {w wr : World} {v kv : Value} {xs : List Ru} {lo b : Nat} {N : List ByteArray} {rs : List Ru} (h : JI w wr v xs lo kv N b rs) (o : Obj) : JI w (wr.alloc o) v xs lo kv N b rs := by
  have hb : Below wr.heap.size wr (wr.alloc o) := (Below.refl _ _).alloc (Nat.le_refl _) _
  exact ⟨h.m.alloc o, (h.k.later hb).mono (Nat.le_refl _) hb.size, h.c.kept hb, below_heap hb (heap_lt h.x) h.x⟩
theorem JI.app {w w1 w' : World} {v v' kv : Value} {xs xs' : List Ru} {lo b : Nat} {N : List ByteArray} {rs : List Ru} (h : JI w w1 v xs lo kv N b rs) (hm : MineK encU 2 36 w.heap.size w w' v' xs') (hg : w1.grownBy w' v.ownBlock) : JI w w' v' xs' lo kv N b rs := by
  refine ⟨hm, ⟨h.k.1.kept hg ?_, fun g hb => Nat.lt_of_lt_of_le (h.k.2 g hb) hg.size⟩, ?_, (hg.block _ (heap_lt h.x) (row_ne_box h.m.row h.x ru_ne.1)).trans h.x⟩
  · cases hv : kv.ownBlock with
    | none => exact Or.inl rfl
    | some g =>
      right
      intro e
      exact rows_ne h.m.row h.k.1 ru_ne.2 e.symm hv
  · refine World.ownsMap.kept h.c hg ?_
    intro e
    obtain ⟨es, clock, hb, _⟩ := h.c
    rcases h.m.row.2 with ⟨rfl, _⟩ | ⟨g, cap, cur, rfl, _, h1, _⟩
    · cases e
    · obtain rfl : b = g := Option.some.inj e
      rw [hb] at h1; cases h1

set_option maxRecDepth 100000 in
set_option maxHeartbeats 4000000 in
theorem join_impl (v : Value) (ss : List Shv) (w : World) (h : ReadH w.heap.size w v ss) (hs : ShsOk ss) :
    Calls Tryz.prog 15 #[v] w (JoinForm (flatR ss) w) := by
  obtain ⟨a, cap, rfl, hc1, hc2⟩ := h.form
  obtain ⟨W0, hW0⟩ : ∃ W, w.alloc (.cells #[.slice none 0 0] 27) = W := ⟨_, rfl⟩
  have hb0 : Below w.heap.size w W0 := by rw [← hW0]; exact (Below.refl _ _).alloc (Nat.le_refl _) _
  have hz0 : W0.heap.size = w.heap.size + 1 := by rw [← hW0, size_alloc]
  have hx0 : W0.heap[w.heap.size]? = some (.cells #[.slice none 0 0] 27 (0, 0)) := by rw [← hW0]; exact (MapKept.heap_alloc w _).1
  have HCM := Lib.hid (colors_any _ ss W0 (h.up hb0) (Nat.le_trans hs.len (by decide)) hs.each hs.ok (Nat.le_trans hs.tot (by decide)))
  rw [hz0] at HCM
  obtain ⟨rs, hrs⟩ : ∃ rs, flatR ss = rs := ⟨_, rfl⟩
  have hok : ∀ r ∈ rs, RuOk r := fun r hr => by
    rw [← hrs, flatR, List.mem_flatMap] at hr
    obtain ⟨p, hp, hr⟩ := hr
    exact hs.ok p hp r hr
  have hrl : rs.length ≤ 1048576 := by rw [← hrs]; exact hs.tot
  rw [hrs] at HCM ⊢
  have HOK := Lib.hid hok; have HRL := Lib.hid hrl; have HB0 := Lib.hid hb0; have HX0 := Lib.hid hx0; have HZ0 := Lib.hid hz0; have HW0 := Lib.hid hW0
  clear hrs hok hrl hb0 hx0 hz0 hW0 hs h
  go_enter Tryz.func15, Tryz.ntmps15
  go_wp2_with fail
  rw [HW0.out]
  refine HCM.out.mono ?_
  rintro e W1 ⟨rfl, hcol, hb1⟩
  have hm0 := MineK.empty encU 2 36 w W1 w.heap.size (HB0.out.trans (hb1.mono (Nat.le_succ _))) (Nat.le_trans HB0.out.size hb1.size)
  obtain ⟨W2, hW2⟩ : ∃ W, W1.alloc (.cells #[] 36) = W := ⟨_, rfl⟩
  have hbw : Below W1.heap.size W1 W2 := by rw [← hW2]; exact (Below.refl _ _).alloc (Nat.le_refl _) _
  rw [hW2] at hm0
  have hcol2 := hcol.kept hbw
  have hx1 := below_heap (hb1.trans (hbw.mono (by have := HZ0.out; have := hb1.size; omega))) (by have := heap_lt HX0.out; have := HZ0.out; omega) HX0.out
  have HSO := Lib.hid (sorted_any (w.heap.size + 1) rs W2 hcol2 (by have := HRL.out; omega))
  have HM0 := Lib.hid hm0; have HCOL := Lib.hid hcol2; have HX1 := Lib.hid hx1; have HW2 := Lib.hid hW2
  clear hm0 hcol hcol2 hx1 hbw hb1 hW2
  go_wp2_with fail
  rw [HW2.out]
  refine (keys_any _ _).mono ?_
  rintro e w' ⟨rfl, rfl⟩
  go_wp2_with fail
  refine HSO.out.mono ?_
  rintro e W3 ⟨kv, N, rfl, hjn, hk, hb3⟩
  have hb4 : Below W2.heap.size W2 W3 := ((Below.refl W2.heap.size W2).alloc (Nat.le_refl _) _).trans (hb3.mono (Nat.le_succ _))
  have hJ : JI w W3 (.slice (some ⟨W1.heap.size, 0, none⟩) 0 0) (withCol rs (N.take 0)) (W2.heap.size + 1) kv N (w.heap.size + 1) rs :=
    ⟨HM0.out.later hb4, hk, HCOL.out.kept hb4, below_heap hb4 (heap_lt HX1.out) HX1.out⟩
  obtain ⟨ka, kc, hkv, hkc1, hkc2⟩ : ∃ a c, kv = .slice a N.length c ∧ N.length ≤ c ∧ c ≤ 9223372036854775807 := by
    obtain ⟨a, c, e, h1, h2, _⟩ := hk.reads encS_len
    exact ⟨a, c, e, h1, h2⟩
  subst hkv
  obtain ⟨n, hn⟩ : ∃ n, N.length = n := ⟨_, rfl⟩
  rw [hn] at hJ hkc1 ⊢
  have hnl : n ≤ 1048576 := by have := hjn.len; have := HRL.out; omega
  have HN := Lib.hid hn; have HJ := Lib.hid hJ; have HJN := Lib.hid hjn
  clear hn hJ hjn hk hb3 hb4 HM0 HCOL HX1
  go_wp2_with fail
  go_loopw [14, 4] (fun i q wr => ∃ (j : Nat) (xa : Option Addr) (xn xc : Nat), j ≤ n ∧ i = .int .i64 j ∧ q = .slice xa xn xc ∧ JI w wr (.slice xa xn xc) (withCol rs (N.take j)) (W2.heap.size + 1) (.slice ka n kc) N (w.heap.size + 1) rs)
    (fun i _ _ => n - (intOf i).toNat)
  case atStart => exact ⟨0, _, _, _, Nat.zero_le _, rfl, rfl, HJ.out⟩
  case round =>
    obtain ⟨j, xa, xn, xc, hj, rfl, rfl, hJ⟩ := hrel
    clear HJ
    have HJ := Lib.hid hJ; clear hJ
    by_cases hlt : (j : Int) < (n : Int)
    · obtain ⟨s, hsj⟩ : ∃ s, N[j]? = some s := ⟨_, List.getElem?_eq_getElem (by rw [HN.out]; omega)⟩
      obtain ⟨g, off, rfl, hg, c0⟩ := (HJ.out.k.reads encS_len).str hsj
      have hkey : keyOf Tryz.prog 9 (.string s) = some (keyS s) := keyS_of (by
        obtain ⟨r, hr, e⟩ := (HJN.out.mem s).1 (List.mem_of_getElem? hsj)
        rw [← e]; exact (HOK.out r hr).1)
      obtain ⟨c, hc⟩ : ∃ c, colOf rs s = c := ⟨_, rfl⟩
      have HAT := Lib.hid (show (colD rs).atKey (keyS s) (numS 0) = numS c by rw [← hc]; exact colD_at _ _)
      have HWC := Lib.hid (show withCol rs (N.take (j + 1)) = withCol rs (N.take j) ++ [(s, c)] by rw [← hc]; exact withCol_take hsj)
      have HCO := Lib.hid HJ.out.c
      have HA := Lib.hid (HJ.out.alloc (.cells #[.string s, .int .i64 c] 36))
      have HR := Lib.hid (readsK_one2 encU 36 wr (x := (s, c)) (u := .string s) (v := .int .i64 c) rfl)
      clear hsj hc
      go_wp2_with (first
        | (at_lookup; refine wpList_lookup_own_int _ rfl _ _ 112 rfl 9 3 .i64 lawStr Tryz.underlying112 Tryz.underlying3 (zeroInt _) _ _ _ rfl HCO.out _ _ rfl hkey ?_; intro c' hat hwc; obtain rfl := numS_inj (HAT.out.symm.trans hat))
        | (at_builtin; refine wpList_appUG rfl _ _ rfl w.heap.size w _ _ rfl HA.out.m _ _ [(s, c)] rfl HR.out ?cl ?_))
      case cl => rw [withCol_len, List.length_take]; simp; omega
      intro v' w' hm hgr
      obtain ⟨ya, yn, yc, rfl⟩ : ∃ a n c, v' = .slice a n c := by
        obtain ⟨a, c, e, _⟩ := mineU_form hm
        exact ⟨a, _, c, e⟩
      rw [← HWC.out] at hm
      have HJ2 := Lib.hid (HA.out.app hm hgr)
      clear hm hgr
      go_wp2
      go_roundw
      case rel => exact ⟨j + 1, _, _, _, by omega, by go_num, rfl, HJ2.out⟩
      case measure => simp [intOf]; omega
    · have hjn : j = n := by omega
      subst hjn
      have hx := HJ.out.x
      have q0 := box_cell hx (j := 0) rfl
      have z0 := box_frz hx 0
      have hq := heap_one (o := 0) hx (.slice xa xn xc)
      have qf := box_cell hq (j := 0) rfl
      have HM := Lib.hid (show MineK encU 2 36 w.heap.size w (wr.setCell ⟨w.heap.size, 0, none⟩ (.slice xa xn xc)) (.slice xa xn xc) (withCol rs N) by
        have hm := HJ.out.m
        rw [List.take_of_length_le (by rw [HN.out]; exact Nat.le_refl _)] at hm
        exact ⟨(ownK_setT hm.own hx ru_ne.1).1, hm.below.setCell (Nat.le_refl _) _, Nat.le_trans hm.size (size_set _ _ _)⟩)
      clear hx hq
      go_wp2
      refine bodyPost_ret (v := .agg #[.slice xa xn xc]) (by simp [results, Tryz.results15, go_sem, qf]) rfl ?_
      exact ⟨_, _, _, N, rfl, HJN.out, HM.out⟩

/- ColA -/
open Go.ChangeShapes Go.WideShapes Go.ChangeAt Go.RowKit Go.Maps

/-- The color of node n, or of the next node above it that has one: k nodes are looked at. -/
def colAt (rs : List Ru) (ns : List Nd) : Nat → Int → Int
  | 0, _ => 0
  | k + 1, n => if 0 ≤ n ∧ n < (ns.length : Int) then
      match ns[n.toNat]? with
      | some x => if colOf rs x.name ≠ 0 then colOf rs x.name else colAt rs ns k x.parent
      | none => 0
    else 0
theorem colAt_out {rs : List Ru} {ns : List Nd} {k : Nat} {n : Int} (h : n < 0 ∨ (ns.length : Int) ≤ n) : colAt rs ns k n = 0 := by
  cases k with
  | zero => rfl
  | succ k => rw [colAt, if_neg (by omega)]
theorem colAt_in {rs : List Ru} {ns : List Nd} {k j : Nat} {x : Nd} (h : ns[j]? = some x) : colAt rs ns (k + 1) (j : Int) = if colOf rs x.name ≠ 0 then colOf rs x.name else colAt rs ns k x.parent := by
  have hj := (List.getElem?_eq_some_iff.1 h).1
  rw [colAt, if_pos (by omega), Int.toNat_natCast, h]

set_option maxRecDepth 100000 in
set_option maxHeartbeats 4000000 in
theorem colorAt_spec (v nv ov : Value) (ss : List Shv) (b : Bd) (z : Int) (w : World) (h : ReadH w.heap.size w v ss) (hs : ShsOk ss) (hb : BdIn w.heap.size w nv ov b) :
    Calls Tryz.prog 19 #[v, .agg #[nv, ov], .int .i64 z] w fun e w' => e = .returned (.int .i64 (colAt (flatR ss) b.nodes 40 z)) ∧ Below w.heap.size w w' := by
  obtain ⟨a, cap, rfl, hc1, hc2⟩ := h.form
  obtain ⟨ns, hns, hrn, hro⟩ := hb
  obtain ⟨na, nc, rfl, hd1, hd2⟩ := hrn.form
  obtain ⟨oa, oc, rfl, _⟩ := reads_form hro
  obtain ⟨n, hn⟩ : ∃ n, ns.length = n := ⟨_, rfl⟩
  obtain ⟨on, hon⟩ : ∃ n, b.opn.length = n := ⟨_, rfl⟩
  rw [hn] at hrn hd1 ⊢; rw [hon]
  have hnl : b.nodes.length = n := by rw [← hns, List.length_map, hn]
  obtain ⟨C, hC⟩ : ∃ C, colAt (flatR ss) b.nodes 40 z = C := ⟨_, rfl⟩
  rw [hC]
  obtain ⟨W, hW⟩ : ∃ W, w.alloc (.cells #[.slice na n nc, .slice oa on oc] 40) = W := ⟨_, rfl⟩
  have hbw : Below w.heap.size w W := by rw [← hW]; exact (Below.refl _ _).alloc (Nat.le_refl _) _
  have q0 : W.cell? ⟨w.heap.size, 0, none⟩ = some (.slice na n nc) := by rw [← hW]; simp
  have HCO := Lib.hid (fun nm => colorOf_spec _ ss nm W (h.up hbw) (Nat.le_trans hs.len (by decide)) hs.each)
  have HRN := Lib.hid (hrn.below hbw (Nat.le_refl _)); have HNS := Lib.hid hns; have HN := Lib.hid hn; have HNL := Lib.hid hnl; have HC := Lib.hid hC; have HB := Lib.hid hbw; have HW := Lib.hid hW
  clear h hrn hro hns hn hon hnl hC hbw hW
  go_enter Tryz.func19, Tryz.ntmps19
  go_wp2
  rw [HW.out]
  go_loopw [7, 2] (fun i q wr => ∃ (j : Nat) (y : Int), j ≤ 40 ∧ i = .int .i64 j ∧ q = .int .i64 y ∧ colAt (flatR ss) b.nodes (40 - j) y = C ∧ W = wr)
    (fun i _ _ => 40 - (intOf i).toNat)
  case atStart => exact ⟨0, z, by omega, rfl, rfl, HC.out, rfl⟩
  case round =>
    obtain ⟨j, y, hj, rfl, rfl, hcj, rfl⟩ := hrel
    have HCJ := Lib.hid hcj; clear hcj
    by_cases hlt : (j : Int) < 40
    · have hlt2 : decide ((j : Int) < 40) = true := decide_eq_true hlt
      by_cases hin : 0 ≤ y ∧ y < (n : Int)
      · obtain ⟨k, rfl⟩ : ∃ k : Nat, y = (k : Int) := ⟨y.toNat, by omega⟩
        have hkn : k < n := by omega
        have hib : inB (k : Int) 0 ((n : Int) - 1) = true := inB_yes (by omega) (by omega)
        obtain ⟨p, hp⟩ := nd_at (ns := ns) (k := k) (by rw [HN.out]; omega)
        obtain ⟨g, off, rfl, hg, c0, c1, c2, c3⟩ := HRN.out.at hp
        have hpn := map_fst_at HNS.out hp
        obtain ⟨⟨nm, tx, pa, ats⟩, ⟨sa, sn, sc⟩⟩ := p
        replace c0 : W.cell? ⟨g, off + k * 4, none⟩ = some (.string nm) := c0
        replace c2 : W.cell? ⟨g, off + k * 4 + 2, none⟩ = some (.int .i64 pa) := c2
        clear c1 c3
        obtain ⟨c, hc⟩ : ∃ c, colOf (flatR ss) nm = c := ⟨_, rfl⟩
        have HX := Lib.hid (show (if c ≠ 0 then c else colAt (flatR ss) b.nodes (40 - (j + 1)) pa) = C by
          have h1 := HCJ.out
          rw [show 40 - j = (40 - (j + 1)) + 1 by omega, colAt_in hpn] at h1
          rw [← hc]; exact h1)
        have HCN := Lib.hid (show Calls Tryz.prog 81 #[.slice a ss.length cap, .string nm] W fun e w' => e = .returned (.int .i64 c) ∧ W = w' from by rw [← hc]; exact HCO.out nm)
        clear hp hpn hc hin
        by_cases h0 : c = 0
        · subst h0
          have HY := Lib.hid (show colAt (flatR ss) b.nodes (40 - (j + 1)) pa = C by have := HX.out; rwa [if_neg (by simp)] at this)
          go_wp2_with (first | (go_at_call 71; refine (lin_any _ _ _ _).mono ?_; rintro e w' ⟨rfl, rfl⟩) | (go_at_call 81; refine HCN.out.mono ?_; rintro e w' ⟨rfl, rfl⟩))
          go_roundw
          case rel => exact ⟨j + 1, pa, by omega, by go_num, rfl, HY.out, by first | trivial | rfl⟩
          case measure => simp [intOf]; omega
        · have HY := Lib.hid (show c = C by have := HX.out; rwa [if_pos h0] at this)
          have hc0 : (c == 0) = false := beq_eq_false_iff_ne.2 h0; have hc1 : (c != 0) = true := by rw [bne, hc0]; rfl
          go_wp2_with (first | (go_at_call 71; refine (lin_any _ _ _ _).mono ?_; rintro e w' ⟨rfl, rfl⟩) | (go_at_call 81; refine HCN.out.mono ?_; rintro e w' ⟨rfl, rfl⟩))
          go_ret
          exact ⟨by rw [HY.out]; rfl, HB.out⟩
      · have hib : inB y 0 ((n : Int) - 1) = false := inB_no (by omega)
        have HY := Lib.hid (show (0 : Int) = C by rw [← HCJ.out, colAt_out (by rw [HNL.out]; omega)])
        clear hin
        go_wp2_with (go_at_call 71; refine (lin_any _ _ _ _).mono ?_; rintro e w' ⟨rfl, rfl⟩)
        go_ret
        exact ⟨by rw [← HY.out]; rfl, HB.out⟩
    · have hj40 : j = 40 := by omega
      subst hj40
      have HY := Lib.hid (show (0 : Int) = C from HCJ.out)
      go_wp2_with fail
      go_ret
      exact ⟨by rw [← HY.out]; rfl, HB.out⟩

set_option maxRecDepth 100000 in
set_option maxHeartbeats 4000000 in
theorem colorAt_impl (v nv ov : Value) (ss : List Shv) (b : Bd) (z : Int) (w : World) (h : ReadH w.heap.size w v ss) (hs : ShsOk ss) (hb : BdIn w.heap.size w nv ov b) (hnm : ∀ x ∈ b.nodes, x.name.size ≤ 9223372036854775807) :
    Calls Tryz.prog 18 #[v, .agg #[nv, ov], .int .i64 z] w fun e w' => e = .returned (.int .i64 (colAt (flatR ss) b.nodes 40 z)) ∧ Below w.heap.size w w' := by
  obtain ⟨a, cap, rfl, hc1, hc2⟩ := h.form
  obtain ⟨ns, hns, hrn, hro⟩ := hb
  obtain ⟨na, nc, rfl, hd1, hd2⟩ := hrn.form
  obtain ⟨oa, oc, rfl, _⟩ := reads_form hro
  obtain ⟨n, hn⟩ : ∃ n, ns.length = n := ⟨_, rfl⟩
  obtain ⟨on, hon⟩ : ∃ n, b.opn.length = n := ⟨_, rfl⟩
  rw [hn] at hrn hd1 ⊢; rw [hon]
  have hnl : b.nodes.length = n := by rw [← hns, List.length_map, hn]
  obtain ⟨C, hC⟩ : ∃ C, colAt (flatR ss) b.nodes 40 z = C := ⟨_, rfl⟩
  rw [hC]
  obtain ⟨W0, hW⟩ : ∃ W, w.alloc (.cells #[.slice na n nc, .slice oa on oc] 40) = W := ⟨_, rfl⟩
  have hbw : Below w.heap.size w W0 := by rw [← hW]; exact (Below.refl _ _).alloc (Nat.le_refl _) _
  have q0 : W0.cell? ⟨w.heap.size, 0, none⟩ = some (.slice na n nc) := by rw [← hW]; simp
  have HCM := Lib.hid (colors_any _ ss W0 (h.up hbw) (Nat.le_trans hs.len (by decide)) hs.each hs.ok (Nat.le_trans hs.tot (by decide)))
  have HR0 := Lib.hid (hrn.below hbw (Nat.le_refl _)); have HNS := Lib.hid hns; have HN := Lib.hid hn; have HNL := Lib.hid hnl; have HC := Lib.hid hC; have HB0 := Lib.hid hbw; have HW := Lib.hid hW; have HNM := Lib.hid hnm
  clear h hrn hro hns hn hon hnl hC hbw hW hnm
  go_enter Tryz.func18, Tryz.ntmps18
  go_wp2_with fail
  rw [HW.out]
  refine HCM.out.mono ?_
  rintro e W ⟨rfl, hcol, hb1⟩
  have c00 : W.cell? ⟨w.heap.size, 0, none⟩ = some (.slice na n nc) := (hb1.cell (World.block_lt_of_cell? _ _ q0)).trans q0
  have HCOL := Lib.hid hcol
  have HRN := Lib.hid (HR0.out.below hb1 HB0.out.size)
  have HB := Lib.hid (HB0.out.trans (hb1.mono HB0.out.size))
  clear hcol hb1 q0
  go_wp2_with fail
  go_loopw [12, 2] (fun i q wr => ∃ (j : Nat) (y : Int), j ≤ 40 ∧ i = .int .i64 j ∧ q = .int .i64 y ∧ colAt (flatR ss) b.nodes (40 - j) y = C ∧ W = wr)
    (fun i _ _ => 40 - (intOf i).toNat)
  case atStart => exact ⟨0, z, by omega, rfl, rfl, HC.out, rfl⟩
  case round =>
    obtain ⟨j, y, hj, rfl, rfl, hcj, rfl⟩ := hrel
    have HCJ := Lib.hid hcj; clear hcj
    by_cases hlt : (j : Int) < 40
    · by_cases hin : 0 ≤ y ∧ y < (n : Int)
      · obtain ⟨k, rfl⟩ : ∃ k : Nat, y = (k : Int) := ⟨y.toNat, by omega⟩
        have hkn : k < n := by omega
        obtain ⟨p, hp⟩ := nd_at (ns := ns) (k := k) (by rw [HN.out]; omega)
        obtain ⟨g, off, rfl, hg, c0, c1, c2, c3⟩ := HRN.out.at hp
        have hpn := map_fst_at HNS.out hp
        have HNA := Lib.hid (nodeAt_in w.heap.size g off n nc k W c00 (by omega) (by omega))
        obtain ⟨⟨nm, tx, pa, ats⟩, ⟨sa, sn, sc⟩⟩ := p
        replace c0 : W.cell? ⟨g, off + k * 4, none⟩ = some (.string nm) := c0
        replace c2 : W.cell? ⟨g, off + k * 4 + 2, none⟩ = some (.int .i64 pa) := c2
        have hkey : keyOf Tryz.prog 9 (.string nm) = some (keyS nm) := keyS_of (HNM.out _ (List.mem_of_getElem? hpn))
        clear c1 c3
        obtain ⟨c, hc⟩ : ∃ c, colOf (flatR ss) nm = c := ⟨_, rfl⟩
        have HX := Lib.hid (show (if c ≠ 0 then c else colAt (flatR ss) b.nodes (40 - (j + 1)) pa) = C by
          have h1 := HCJ.out
          rw [show 40 - j = (40 - (j + 1)) + 1 by omega, colAt_in hpn] at h1
          rw [← hc]; exact h1)
        have HAT := Lib.hid (show (colD (flatR ss)).atKey (keyS nm) (numS 0) = numS c by rw [← hc]; exact colD_at _ _)
        clear hp hpn hc hin
        by_cases h0 : c = 0
        · subst h0
          have HY := Lib.hid (show colAt (flatR ss) b.nodes (40 - (j + 1)) pa = C by have := HX.out; rwa [if_neg (by simp)] at this)
          go_wp2_with (first | (go_at_call 80; refine HNA.out.mono ?_; rintro e w' ⟨rfl, rfl⟩) | (at_lookup; refine wpList_lookup_own_int _ rfl _ _ 112 rfl 9 3 .i64 lawStr Tryz.underlying112 Tryz.underlying3 (zeroInt _) _ _ _ rfl HCOL.out _ _ rfl hkey ?_; intro c hat hwc; obtain rfl := numS_inj (HAT.out.symm.trans hat)))
          go_roundw
          case rel => exact ⟨j + 1, pa, by omega, by go_num, rfl, HY.out, by first | trivial | rfl⟩
          case measure => simp [intOf]; omega
        · have HY := Lib.hid (show c = C by have := HX.out; rwa [if_pos h0] at this)
          have hc0 : (c == 0) = false := beq_eq_false_iff_ne.2 h0; have hc1 : (c != 0) = true := by rw [bne, hc0]; rfl
          go_wp2_with (first | (go_at_call 80; refine HNA.out.mono ?_; rintro e w' ⟨rfl, rfl⟩) | (at_lookup; refine wpList_lookup_own_int _ rfl _ _ 112 rfl 9 3 .i64 lawStr Tryz.underlying112 Tryz.underlying3 (zeroInt _) _ _ _ rfl HCOL.out _ _ rfl hkey ?_; intro c' hat hwc; obtain rfl := numS_inj (HAT.out.symm.trans hat)))
          go_ret
          exact ⟨by rw [HY.out]; rfl, HB.out⟩
      · have HNA := Lib.hid (nodeAt_out w.heap.size n nc na y W c00 (by omega) (by omega))
        have HY := Lib.hid (show (0 : Int) = C by rw [← HCJ.out, colAt_out (by rw [HNL.out]; omega)])
        clear hin
        go_wp2_with (go_at_call 80; refine HNA.out.mono ?_; rintro e w' ⟨rfl, rfl⟩)
        go_ret
        exact ⟨by rw [← HY.out]; rfl, HB.out⟩
    · have hj40 : j = 40 := by omega
      subst hj40
      have HY := Lib.hid (show (0 : Int) = C from HCJ.out)
      go_wp2_with fail
      go_ret
      exact ⟨by rw [← HY.out]; rfl, HB.out⟩

/- Sh7 -/
open Go.ChangeShapes Go.WideShapes Go.ChangeAt Go.RowKit

theorem JN.nodup {rs : List Ru} {N : List ByteArray} (h : JN rs N) : N.Nodup := List.Pairwise.imp (fun {a b} hab e => by subst e; exact ltN_irr _ hab) h.srt
open Classical in
theorem colF_with (rs : List Ru) (nm : ByteArray) : ∀ (N : List ByteArray) (c : Int), N.Nodup → (withCol rs N).foldl (fun c r => if r.1 = nm then r.2 else c) c = if nm ∈ N then colOf rs nm else c
  | [], c, _ => by rw [if_neg (by simp)]; rfl
  | x :: N, c, h => by
    obtain ⟨h1, h2⟩ := List.nodup_cons.1 h
    show (withCol rs N).foldl (fun c r => if r.1 = nm then r.2 else c) (if x = nm then colOf rs x else c) = _
    rw [colF_with rs nm N _ h2]
    by_cases e : x = nm
    · subst e
      rw [if_neg h1, if_pos rfl, if_pos List.mem_cons_self]
    · rw [if_neg e]
      by_cases hm : nm ∈ N
      · rw [if_pos hm, if_pos (List.mem_cons_of_mem _ hm)]
      · rw [if_neg hm, if_neg fun h3 => by
          rcases List.mem_cons.1 h3 with h4 | h4
          · exact e h4.symm
          · exact hm h4]
theorem colF_none (nm : ByteArray) : ∀ (rs : List Ru) (c : Int), (¬ ∃ r ∈ rs, r.1 = nm) → rs.foldl (fun c r => if r.1 = nm then r.2 else c) c = c
  | [], _, _ => rfl
  | r :: rs, c, h => by
    show rs.foldl (fun c r => if r.1 = nm then r.2 else c) (if r.1 = nm then r.2 else c) = c
    rw [if_neg fun e => h ⟨r, List.mem_cons_self, e⟩]
    exact colF_none nm rs c fun ⟨q, hq, e⟩ => h ⟨q, List.mem_cons_of_mem _ hq, e⟩
theorem colOf_with {rs : List Ru} {N : List ByteArray} (h : JN rs N) (nm : ByteArray) : colOf (withCol rs N) nm = colOf rs nm := by
  unfold colOf
  rw [colF_with rs nm N 0 h.nodup]
  by_cases hm : nm ∈ N
  · rw [if_pos hm]; rfl
  · rw [if_neg hm, colF_none nm rs 0 fun he => hm ((h.mem nm).2 he)]
theorem colAt_congr {rs us : List Ru} {ns : List Nd} (h : ∀ nm, colOf rs nm = colOf us nm) : ∀ (k : Nat) (n : Int), colAt rs ns k n = colAt us ns k n
  | 0, _ => rfl
  | k + 1, n => by
    rw [colAt, colAt]
    by_cases hn : 0 ≤ n ∧ n < (ns.length : Int)
    · rw [if_pos hn, if_pos hn]
      cases ns[n.toNat]? with
      | none => rfl
      | some x =>
        dsimp only
        rw [h x.name, colAt_congr h k x.parent]
    · rw [if_neg hn, if_neg hn]
theorem flatR_one (rs : List Ru) (s : Sv) : flatR [((rs, s) : Shv)] = rs := by
  unfold flatR; rw [List.flatMap_cons, List.flatMap_nil, List.append_nil]
/-- The names of a joined sheet ascend. -/
theorem withCol_asc {rs : List Ru} {N : List ByteArray} (h : JN rs N) {j : Nat} {r q : Ru} (hr : (withCol rs N)[j]? = some r) (hq : (withCol rs N)[j + 1]? = some q) : ltN r.1 q.1 := by
  unfold withCol at hr hq
  rw [List.getElem?_map] at hr hq
  obtain ⟨x, hx, rfl⟩ := Option.map_eq_some_iff.1 hr
  obtain ⟨y, hy, rfl⟩ := Option.map_eq_some_iff.1 hq
  obtain ⟨h1, e1⟩ := List.getElem?_eq_some_iff.1 hx
  obtain ⟨h2, e2⟩ := List.getElem?_eq_some_iff.1 hy
  have h3 := List.pairwise_iff_getElem.1 h.srt j (j + 1) h1 h2 (Nat.lt_succ_self j)
  rw [e1, e2] at h3; exact h3
theorem withCol_ok {rs : List Ru} {N : List ByteArray} (h : JN rs N) (hok : ∀ r ∈ rs, RuOk r) : ∀ r ∈ withCol rs N, RuOk r := by
  intro r hr
  obtain ⟨x, hx, rfl⟩ := List.mem_map.1 hr
  obtain ⟨q, hq, e⟩ := (h.mem x).1 hx
  exact ⟨by show x.size ≤ _; rw [← e]; exact (hok q hq).1, colOf_range hok⟩
theorem joined_ok {ss : List Shv} {N : List ByteArray} (h : JN (flatR ss) N) (hs : ShsOk ss) (s : Sv) : ShsOk [((withCol (flatR ss) N, s) : Shv)] := by
  have hok : ∀ r ∈ flatR ss, RuOk r := fun r hr => by
    obtain ⟨p, hp, hrp⟩ := List.mem_flatMap.1 hr
    exact hs.ok p hp r hrp
  refine ⟨by show 1 ≤ 1048576; omega, ?_, fun p hp r hr => ?_⟩
  · rw [flatR_one, withCol_len]; exact Nat.le_trans h.len hs.tot
  · rw [List.mem_singleton] at hp; subst hp
    exact withCol_ok h hok r hr

/- Bl -/
open Go.ChangeShapes Go.WideShapes Go.ChangeAt Go.RowKit

theorem bl_tr {w X w' : World} (h : Below w.heap.size w X) (k : Below X.heap.size X w') : Below w.heap.size w w' := h.trans (k.mono h.size)
theorem bl_via {B : Nat} {w0 w X : World} (h : Below B w0 w) (hB : B ≤ w.heap.size) (k : Below w.heap.size w X) : Below B w0 X := h.trans (k.mono hB)
theorem bl_dw {B : Nat} {w w' : World} (h : Below B w w') : Below B w w'.drew := h.drew
theorem bl_aw {w w' : World} (h : Below w.heap.size w w') (o : Obj) : Below w.heap.size w (w'.alloc o) := h.alloc h.size o
theorem hq_dr {w : World} {g : Nat} {o : Obj} (h : w.heap[g]? = some o) : w.drew.heap[g]? = some o := h
theorem hq_nw {w : World} {g : Nat} {o : Obj} (h : w.heap.size = g) : (w.alloc o).heap[g]? = some o := by subst h; exact (MapKept.heap_alloc w o).1

/- Fs -/
open Go.ChangeShapes Go.WideShapes Go.ChangeAt Go.RowKit

/-- A rule's form. -/
def ruF (r : Ru) : ByteArray := r.1 ++ ⟨#[58]⟩ ++ fmtS r.2
/-- A sheet's form. -/
def fmtSh (rs : List Ru) : ByteArray := ofL (Lib.join (rs.map fun r => (ruF r).data.toList) [59])
theorem fmtSh_list (rs : List Ru) : (fmtSh rs).data.toList = Lib.join (rs.map fun r => (ruF r).data.toList) [59] := ofL_list _
theorem joinTail_snoc (sep : List UInt8) (xs : List (List UInt8)) (y : List UInt8) : Lib.joinTail sep (xs ++ [y]) = Lib.joinTail sep xs ++ (sep ++ y) := by
  unfold Lib.joinTail; simp
theorem fmtSh_zero : fmtSh [] = ⟨#[]⟩ := rfl
theorem fmtSh_one (r : Ru) : (fmtSh [r]).data.toList = (ruF r).data.toList := by rw [fmtSh_list, List.map_cons, List.map_nil, Lib.join_one]
theorem fmtSh_snoc {rs : List Ru} (r : Ru) (h : rs ≠ []) : (fmtSh (rs ++ [r])).data.toList = (fmtSh rs).data.toList ++ ([59] ++ (ruF r).data.toList) := by
  cases rs with
  | nil => exact absurd rfl h
  | cons x xs =>
    rw [fmtSh_list, fmtSh_list, List.map_append, List.map_cons, List.cons_append, Lib.join_cons, Lib.join_cons, List.map_cons, List.map_nil, joinTail_snoc, List.append_assoc]
theorem itoa_len (n : Int) (h1 : -9223372036854775808 ≤ n) (h2 : n ≤ 9223372036854775807) : (fmtS n).size ≤ 21 := by
  have hs : (fmtS n).size = (Lib.itoa n).length := by unfold fmtS; exact List.size_toArray
  rw [hs, Lib.itoa]
  split
  · have := dec_lenF n.natAbs (by omega)
    rw [List.length_cons]; omega
  · have := dec_lenF n.toNat (by omega)
    omega
theorem ruF_size {r : Ru} (h : RuOk r) : (ruF r).size ≤ r.1.size + 22 := by
  have := itoa_len r.2 h.2.1 h.2.2
  have h1 : (⟨#[58]⟩ : ByteArray).size = 1 := rfl
  unfold ruF
  rw [ByteArray.size_append, ByteArray.size_append, h1]; omega
def sumN (rs : List Ru) : Nat := (rs.map fun r => r.1.size).sum
theorem joinT_size : ∀ {rs : List Ru}, (∀ r ∈ rs, RuOk r) → (Lib.joinTail [59] (rs.map fun r => (ruF r).data.toList)).length ≤ sumN rs + 23 * rs.length
  | [], _ => Nat.zero_le _
  | r :: rs, h => by
    have ih := joinT_size fun x hx => h x (List.mem_cons_of_mem _ hx)
    have h1 := ruF_size (h r List.mem_cons_self)
    have h2 : (Lib.joinTail [59] ((r :: rs).map fun r => (ruF r).data.toList)) = (59 :: (ruF r).data.toList) ++ Lib.joinTail [59] (rs.map fun r => (ruF r).data.toList) := by
      unfold Lib.joinTail; simp
    rw [h2, List.length_append, List.length_cons, size_list, sumN, List.map_cons, List.sum_cons, List.length_cons]
    unfold sumN at ih
    omega
theorem fmtSh_size {rs : List Ru} (h : ∀ r ∈ rs, RuOk r) : (fmtSh rs).size ≤ sumN rs + 23 * rs.length := by
  have h0 : (fmtSh rs).size = (Lib.join (rs.map fun r => (ruF r).data.toList) [59]).length := ofL_size _
  rw [h0]
  cases rs with
  | nil => exact Nat.zero_le _
  | cons r rs =>
    have h1 := ruF_size (h r List.mem_cons_self)
    have h2 := joinT_size fun x hx => h x (List.mem_cons_of_mem _ hx)
    rw [List.map_cons, Lib.join_cons, List.length_append, size_list, sumN, List.map_cons, List.sum_cons, List.length_cons]
    unfold sumN at h2
    omega
theorem sumN_take (rs : List Ru) (k : Nat) : sumN (rs.take k) ≤ sumN rs := by
  have : sumN rs = sumN (rs.take k) + sumN (rs.drop k) := by
    conv => lhs; rw [← List.take_append_drop k rs]
    unfold sumN; rw [List.map_append, List.sum_append]
  omega
theorem sumN_at {rs : List Ru} {k : Nat} {r : Ru} (h : rs[k]? = some r) : r.1.size ≤ sumN rs := by
  have h1 := sumN_take rs (k + 1)
  rw [take_snoc h] at h1
  unfold sumN at h1
  rw [List.map_append, List.sum_append] at h1
  simp at h1
  unfold sumN
  omega

/- Sh7F -/
open Go.ChangeShapes Go.WideShapes Go.ChangeAt Go.RowKit

/-- A rule that ParseSheet can return. -/
def RuV (r : Ru) : Prop := isNm r.1 = true ∧ 1 ≤ r.2 ∧ r.2 ≤ 999
theorem RuV.ok {r : Ru} (h : RuV r) : RuOk r := by
  obtain ⟨h1, h2, h3⟩ := h
  unfold isNm at h1
  simp only [Bool.and_eq_true, decide_eq_true_eq] at h1
  exact ⟨by omega, by omega, by omega⟩
theorem RuV.small {r : Ru} (h : RuV r) : r.1.size ≤ 8 := by
  have h1 := h.1
  unfold isNm at h1
  simp only [Bool.and_eq_true, decide_eq_true_eq] at h1
  omega
theorem prsAB_val {a b : ByteArray} {r : Ru} (h : prsAB a b = some r) : RuV r := by
  unfold prsAB at h
  split at h
  · split at h
    · rename_i k hk hc
      cases h
      have h2 := hc.2
      unfold inB at h2
      have h3 := of_decide_eq_true h2
      exact ⟨hc.1, h3.1, h3.2⟩
    · cases h
  · cases h
theorem prsR_val {s : ByteArray} {r : Ru} (h : prsR s = some r) : RuV r := by
  unfold prsR at h
  split at h
  · exact prsAB_val h
  · cases h
theorem prsS_val {s : ByteArray} : ∀ r ∈ prsS s, RuV r := by
  intro r hr
  have h1 := List.mem_of_mem_take hr
  obtain ⟨p, _, hp⟩ := List.mem_filterMap.1 h1
  exact prsR_val hp
theorem prsS_len (s : ByteArray) : (prsS s).length ≤ 8 := by unfold prsS; rw [List.length_take]; omega
theorem nm_free {s : ByteArray} (h : isNm s = true) : ∀ b ∈ s.data.toList, 97 ≤ b.toNat := by
  unfold isNm at h
  rw [Bool.and_eq_true, List.all_eq_true] at h
  intro b hb
  have h1 := h.2 b hb
  unfold isLow at h1
  exact (of_decide_eq_true h1).1
theorem dec_free (k : Nat) : ∀ b ∈ Lib.decDigits k, 48 ≤ b.toNat ∧ b.toNat ≤ 57 := by
  intro b hb
  obtain ⟨j, hj, e⟩ := List.getElem_of_mem hb
  obtain ⟨d, h1⟩ := Lib.digit_of_decFrom _ _ _ (decFrom_dec k) j b (by rw [List.getElem?_eq_getElem hj, e])
  obtain ⟨h2, h3, _⟩ := Lib.digitVal_eq h1
  omega
theorem fmtS_nat (k : Nat) : (fmtS (k : Int)).data.toList = Lib.decDigits k := by
  unfold fmtS
  rw [Lib.itoa, if_neg (by omega), Int.toNat_natCast]
theorem ruF_list {n : ByteArray} {k : Nat} : (ruF (n, (k : Int))).data.toList = n.data.toList ++ 58 :: Lib.decDigits k := by
  show (n ++ ⟨#[58]⟩ ++ fmtS (k : Int)).data.toList = _
  rw [append_list, append_list, fmtS_nat]
  show (n.data.toList ++ [58]) ++ Lib.decDigits k = _
  rw [List.append_assoc]; rfl
theorem prsR_ruF {r : Ru} (h : RuV r) : prsR (ruF r) = some r := by
  obtain ⟨n, z⟩ := r
  obtain ⟨h1, h2, h3⟩ := h
  replace h1 : isNm n = true := h1
  replace h2 : 1 ≤ z := h2
  replace h3 : z ≤ 999 := h3
  obtain ⟨k, rfl⟩ := Int.eq_ofNat_of_zero_le (show 0 ≤ z by omega)
  have hf : ∀ b ∈ n.data.toList, b ≠ 58 := fun b hb e => by
    have := nm_free h1 b hb
    subst e; exact absurd this (by decide)
  have hl : (ruF (n, (k : Int))).data.toList = n.data.toList ++ 58 :: Lib.decDigits k := ruF_list
  have hi : idxB 58 (ruF (n, (k : Int))).data.toList = n.data.toList.length := by rw [hl]; exact idxB_free_append _ hf
  have hsz : (ruF (n, (k : Int))).size = n.data.toList.length + (1 + (Lib.decDigits k).length) := by
    rw [← size_list, hl, List.length_append, List.length_cons]; omega
  unfold prsR
  rw [hi, if_pos (by rw [hsz]; omega), extract_pre, extract_suf, hl]
  rw [show (n.data.toList ++ 58 :: Lib.decDigits k).take n.data.toList.length = n.data.toList by rw [List.take_left]]
  rw [show (n.data.toList ++ 58 :: Lib.decDigits k).drop (n.data.toList.length + 1) = Lib.decDigits k by
    rw [show n.data.toList ++ 58 :: Lib.decDigits k = (n.data.toList ++ [58]) ++ Lib.decDigits k by rw [List.append_assoc]; rfl]
    rw [List.drop_left' (by rw [List.length_append]; rfl)]]
  rw [ofL_of]
  unfold prsAB
  rw [ofL_list, numOf_dec (by omega)]
  dsimp only
  rw [if_pos ⟨h1, inB_yes h2 h3⟩]
theorem ruF_free {r : Ru} (h : RuV r) : ∀ b ∈ (ruF r).data.toList, b ≠ 59 := by
  obtain ⟨n, z⟩ := r
  obtain ⟨h1, h2, h3⟩ := h
  replace h2 : 1 ≤ z := h2
  obtain ⟨k, rfl⟩ := Int.eq_ofNat_of_zero_le (show 0 ≤ z by omega)
  rw [ruF_list]
  intro b hb e
  subst e
  rcases List.mem_append.1 hb with h4 | h4
  · exact absurd (nm_free h1 _ h4) (by decide)
  · rcases List.mem_cons.1 h4 with h5 | h5
    · exact absurd h5 (by decide)
    · have := (dec_free k _ h5).2; exact absurd this (by decide)
theorem split_fmt : ∀ (rs : List Ru), rs ≠ [] → (∀ r ∈ rs, RuV r) → splitB 59 (Lib.join (rs.map fun r => (ruF r).data.toList) [59]) = rs.map fun r => (ruF r).data.toList
  | [], h, _ => absurd rfl h
  | [r], _, hv => by
    rw [List.map_cons, List.map_nil, Lib.join_one]
    exact splitB_free (ruF_free (hv r List.mem_cons_self))
  | r :: q :: rs, _, hv => by
    have ih := split_fmt (q :: rs) (by simp) fun x hx => hv x (List.mem_cons_of_mem _ hx)
    have e : Lib.join ((r :: q :: rs).map fun r => (ruF r).data.toList) [59] = (ruF r).data.toList ++ 59 :: Lib.join ((q :: rs).map fun r => (ruF r).data.toList) [59] := by
      simp [Lib.join]
    rw [e, splitB_at _ (ruF_free (hv r List.mem_cons_self)), ih]; rfl
theorem filter_ruF : ∀ (rs : List Ru), (∀ r ∈ rs, RuV r) → (rs.map ruF).filterMap prsR = rs
  | [], _ => rfl
  | r :: rs, hv => by
    rw [List.map_cons, List.filterMap_cons, prsR_ruF (hv r List.mem_cons_self)]
    dsimp only
    rw [filter_ruF rs fun x hx => hv x (List.mem_cons_of_mem _ hx)]
theorem prsR_empty : prsR ⟨#[]⟩ = none := by
  unfold prsR
  rw [if_neg]
  decide
/-- What was parsed is formed and parsed back to itself. -/
theorem prs_fmt {rs : List Ru} (hv : ∀ r ∈ rs, RuV r) (hl : rs.length ≤ 8) : prsS (fmtSh rs) = rs := by
  unfold prsS splS
  rw [fmtSh_list]
  by_cases h : rs = []
  · subst h
    rw [show Lib.join (([] : List Ru).map fun r => (ruF r).data.toList) [59] = [] from rfl, show splitB 59 [] = [[]] from rfl, List.map_cons, List.map_nil, show ofL [] = ⟨#[]⟩ from rfl, List.filterMap_cons, prsR_empty]
    rfl
  · rw [split_fmt rs h hv, List.map_map]
    rw [show (ofL ∘ fun r : Ru => (ruF r).data.toList) = ruF from funext fun r => ofL_of _]
    rw [filter_ruF rs hv, List.take_of_length_le hl]
theorem prs_back (s : ByteArray) : prsS (fmtSh (prsS s)) = prsS s := prs_fmt prsS_val (prsS_len s)
theorem parsed_ok {s : ByteArray} (v : Sv) : ShsOk [((prsS s, v) : Shv)] := by
  refine ⟨by show 1 ≤ 1048576; omega, ?_, fun p hp r hr => ?_⟩
  · unfold flatR; rw [List.flatMap_cons, List.flatMap_nil, List.append_nil]
    have := prsS_len s; show (prsS s).length ≤ _; omega
  · rw [List.mem_singleton] at hp; subst hp; exact (prsS_val r hr).ok
theorem sumN_val : ∀ (rs : List Ru), (∀ r ∈ rs, RuV r) → sumN rs ≤ 8 * rs.length
  | [], _ => Nat.le_refl _
  | r :: rs, h => by
    have h1 := (h r List.mem_cons_self).small
    have h2 := sumN_val rs fun x hx => h x (List.mem_cons_of_mem _ hx)
    unfold sumN at h2 ⊢
    rw [List.map_cons, List.sum_cons, List.length_cons]; omega

/- Eqn -/
open Go.ChangeShapes Go.WideShapes Go.ChangeAt Go.RowKit

theorem eq_pre {xs ys : List Int} (hl : xs.length = ys.length) (h : ∀ j, j < xs.length → xs.getD j 0 = ys.getD j 0) : xs = ys := by
  apply List.ext_getElem?
  intro j
  by_cases hj : j < xs.length
  · rw [getD_at hj, getD_at (by omega), h j hj]
  · rw [List.getElem?_eq_none (by omega), List.getElem?_eq_none (by omega)]
def Pre (xs ys : List Int) (k : Nat) : Prop := ∀ j, j < k → xs.getD j 0 = ys.getD j 0
theorem Pre.step {xs ys : List Int} {k : Nat} (h : Pre xs ys k) (e : xs.getD k 0 = ys.getD k 0) : Pre xs ys (k + 1) := by
  intro j hj
  by_cases hjk : j = k
  · subst hjk; exact e
  · exact h j (by omega)
/-- The first k elements are equal. -/
def PreL {α : Type} (xs ys : List α) (k : Nat) : Prop := ∀ j, j < k → xs[j]? = ys[j]?
theorem PreL.zero {α : Type} (xs ys : List α) : PreL xs ys 0 := fun _ h => absurd h (Nat.not_lt_zero _)
theorem PreL.step {α : Type} {xs ys : List α} {k : Nat} (h : PreL xs ys k) (e : xs[k]? = ys[k]?) : PreL xs ys (k + 1) := by
  intro j hj
  by_cases hjk : j = k
  · subst hjk; exact e
  · exact h j (by omega)
theorem PreL.full {α : Type} {xs ys : List α} {k : Nat} (h : PreL xs ys k) (hx : xs.length = k) (hy : ys.length = k) : xs = ys := by
  apply List.ext_getElem?
  intro j
  by_cases hj : j < k
  · exact h j hj
  · rw [List.getElem?_eq_none (by omega), List.getElem?_eq_none (by omega)]
theorem ret_d {p : Prop} [Decidable p] {b : Bool} (h : b = decide p) : Ending.returned (.bool b) = .returned (.bool (decide p)) := by rw [h]

set_option maxHeartbeats 1000000 in
theorem slicesEqI (v u : Value) (hi hi' : Nat) (xs ys : List Int) (w : World) (hv : Reads .i64 hi w v xs) (hu : Reads .i64 hi' w u ys) (hh : hi ≤ w.heap.size) (hh' : hi' ≤ w.heap.size) :
    Calls Tryz.prog 136 #[v, u] w fun e w' => e = .returned (.bool (decide (xs = ys))) ∧ Grw w w' := by
  obtain ⟨a, cap, rfl, hc1, hc2, _, hcells⟩ := hv
  obtain ⟨a', cap', rfl, hc1', hc2', _, hcells'⟩ := hu
  have HC := Lib.hid hcells; have HC' := Lib.hid hcells'; clear hcells hcells'
  by_cases hn : xs.length = ys.length
  · obtain ⟨n, hxn⟩ : ∃ n, xs.length = n := ⟨_, rfl⟩
    have hyn : ys.length = n := by omega
    rw [hxn] at hc1 HC ⊢
    rw [hyn] at hc1' HC' ⊢
    have HXN := Lib.hid hxn; have HYN := Lib.hid hyn; clear hxn hyn hn
    go_enter Tryz.func136, Tryz.ntmps136
    go_wp2
    go_loopw [13] (fun i wr => ∃ (k : Nat), k ≤ n ∧ i = .int .i64 k ∧ Pre xs ys k ∧ Grw w wr)
      (fun i _ => n - (intOf i).toNat)
    case atStart => exact ⟨0, Nat.zero_le _, rfl, fun _ h => absurd h (Nat.not_lt_zero _), Grw.refl _⟩
    case round =>
      obtain ⟨k, hk, rfl, hp, hs⟩ := hrel
      have HS := Lib.hid hs; have HP := Lib.hid hp
      clear hs hp
      by_cases hlt : (k : Int) < (n : Int)
      · rcases HC.out with h0 | ⟨g, off, rfl, hg, hcells⟩
        · omega
        · rcases HC'.out with h0 | ⟨g', off', rfl, hg', hcells'⟩
          · omega
          · have c1 : wr.cell? ⟨g, off + k, none⟩ = some (.int .i64 (xs.getD k 0)) := by rw [HS.out.below.cell (show g < _ by omega)]; exact hcells k (by omega)
            have c2 : wr.cell? ⟨g', off' + k, none⟩ = some (.int .i64 (ys.getD k 0)) := by rw [HS.out.below.cell (show g' < _ by omega)]; exact hcells' k (by omega)
            obtain ⟨x, hx⟩ : ∃ z, xs.getD k 0 = z := ⟨_, rfl⟩
            obtain ⟨y, hy⟩ : ∃ z, ys.getD k 0 = z := ⟨_, rfl⟩
            rw [hx] at c1; rw [hy] at c2
            have HX := Lib.hid hx; have HY := Lib.hid hy
            clear hcells hcells' hx hy
            by_cases hxy : x = y
            · subst hxy
              go_wp2
              go_quiet (fail)
              go_wp2
              go_roundw
              case rel => exact ⟨k + 1, by omega, by go_num, HP.out.step (by rw [HX.out, HY.out]), HS.out.drewN _⟩
              case measure => simp [intOf]; omega
            · go_wp2
              go_quiet (fail)
              go_wp2
              go_ret
              refine ⟨?_, HS.out.drewN _⟩
              have hne : xs ≠ ys := fun e => hxy (by rw [← HX.out, ← HY.out, e])
              exact congrArg (fun b => Ending.returned (.bool b)) (decide_eq_false hne).symm
      · have hkn : k = n := by omega
        subst hkn
        go_wp2
        go_ret
        refine ⟨?_, HS.out⟩
        have he : xs = ys := eq_pre (by rw [HXN.out, HYN.out]) (by rw [HXN.out]; exact HP.out)
        exact congrArg (fun b => Ending.returned (.bool b)) (decide_eq_true he).symm
  · have hne : xs ≠ ys := fun e => hn (by rw [e])
    have hni : (xs.length : Int) ≠ (ys.length : Int) := by omega
    have HNE := Lib.hid hne; clear hne hn
    go_enter Tryz.func136, Tryz.ntmps136
    go_wp2
    go_ret
    exact ⟨congrArg (fun b => Ending.returned (.bool b)) (decide_eq_false HNE.out).symm, Grw.refl _⟩

theorem eqI_impl (v u : Value) (hi hi' : Nat) (xs ys : List Int) (w : World) (hv : Reads .i64 hi w v xs) (hu : Reads .i64 hi' w u ys) (hh : hi ≤ w.heap.size) (hh' : hi' ≤ w.heap.size) :
    Calls Tryz.prog 85 #[v, u] w fun e w' => e = .returned (.bool (decide (xs = ys))) ∧ Grw w w' := by
  go_enter Tryz.func85, Tryz.ntmps85
  go_wp2_with fail
  refine (slicesEqI v u hi hi' xs ys _ hv hu hh hh').mono ?_
  rintro e w1 ⟨rfl, hs⟩
  have HS := Lib.hid hs; clear hs
  go_wp2
  go_ret
  exact ⟨rfl, HS.out⟩

set_option maxHeartbeats 2000000 in
theorem slicesEqA (v u : Value) (hi hi' : Nat) (xs ys : List At) (w : World) (hv : ReadsK encA 2 hi w v xs) (hu : ReadsK encA 2 hi' w u ys) (hh : hi ≤ w.heap.size) (hh' : hi' ≤ w.heap.size) :
    Calls Tryz.prog 137 #[v, u] w fun e w' => e = .returned (.bool (decide (xs = ys))) ∧ Grw w w' := by
  obtain ⟨a, cap, rfl, hc1, hc2, _, hcells⟩ := hv
  obtain ⟨a', cap', rfl, hc1', hc2', _, hcells'⟩ := hu
  have HC := Lib.hid hcells; have HC' := Lib.hid hcells'; clear hcells hcells'
  by_cases hn : xs.length = ys.length
  · obtain ⟨n, hxn⟩ : ∃ n, xs.length = n := ⟨_, rfl⟩
    have hyn : ys.length = n := by omega
    rw [hxn] at hc1 HC ⊢
    rw [hyn] at hc1' HC' ⊢
    have HXN := Lib.hid hxn; have HYN := Lib.hid hyn; clear hxn hyn hn
    go_enter Tryz.func137, Tryz.ntmps137
    go_wp2
    go_loopw [13] (fun i wr => ∃ (k : Nat), k ≤ n ∧ i = .int .i64 k ∧ PreL xs ys k ∧ Grw w wr)
      (fun i _ => n - (intOf i).toNat)
    case atStart => exact ⟨0, Nat.zero_le _, rfl, PreL.zero _ _, Grw.refl _⟩
    case round =>
      obtain ⟨k, hk, rfl, hp, hs⟩ := hrel
      have HS := Lib.hid hs; have HP := Lib.hid hp
      clear hs hp
      by_cases hlt : (k : Int) < (n : Int)
      · rcases HC.out with h0 | ⟨g, off, rfl, hg, hcells⟩
        · omega
        · rcases HC'.out with h0 | ⟨g', off', rfl, hg', hcells'⟩
          · omega
          · obtain ⟨x, y, hx⟩ := at_at (xs := xs) (j := k) (by have := HXN.out; omega)
            obtain ⟨x', y', hx'⟩ := at_at (xs := ys) (j := k) (by have := HYN.out; omega)
            have c1 : wr.cell? ⟨g, off + k * 2, none⟩ = some (.string x) := by rw [HS.out.below.cell (show g < _ by omega)]; exact hcells k _ hx 0 (by omega)
            have c2 : wr.cell? ⟨g, off + k * 2 + 1, none⟩ = some (.string y) := by rw [HS.out.below.cell (show g < _ by omega)]; exact hcells k _ hx 1 (by omega)
            have c3 : wr.cell? ⟨g', off' + k * 2, none⟩ = some (.string x') := by rw [HS.out.below.cell (show g' < _ by omega)]; exact hcells' k _ hx' 0 (by omega)
            have c4 : wr.cell? ⟨g', off' + k * 2 + 1, none⟩ = some (.string y') := by rw [HS.out.below.cell (show g' < _ by omega)]; exact hcells' k _ hx' 1 (by omega)
            have HX := Lib.hid hx; have HX' := Lib.hid hx'
            clear hcells hcells' hx hx'
            by_cases e1 : x = x'
            · have e3 : (x.toList == x'.toList) = true := beqL_yes e1
              by_cases e2 : y = y'
              · have e4 : (y.toList == y'.toList) = true := beqL_yes e2
                have HQ := Lib.hid (HP.out.step (by rw [HX.out, HX'.out, e1, e2]))
                clear e1 e2
                go_wp2
                go_quiet (fail)
                go_wp2
                go_roundw
                case rel => exact ⟨k + 1, by omega, by go_num, HQ.out, HS.out.drewN _⟩
                case measure => simp [intOf]; omega
              · have e4 : (y.toList == y'.toList) = false := beqL_no e2
                have HNE := Lib.hid (show xs ≠ ys from fun e => e2 (by have h := HX.out; rw [e, HX'.out] at h; exact (Prod.mk.inj (Option.some.inj h)).2.symm))
                clear e1 e2
                go_wp2
                go_quiet (fail)
                go_wp2
                go_ret
                exact ⟨ret_d (decide_eq_false HNE.out).symm, HS.out.drewN _⟩
            · have e3 : (x.toList == x'.toList) = false := beqL_no e1
              have HNE := Lib.hid (show xs ≠ ys from fun e => e1 (by have h := HX.out; rw [e, HX'.out] at h; exact (Prod.mk.inj (Option.some.inj h)).1.symm))
              clear e1
              go_wp2
              go_quiet (fail)
              go_wp2
              go_ret
              exact ⟨ret_d (decide_eq_false HNE.out).symm, HS.out.drewN _⟩
      · have hkn : k = n := by omega
        subst hkn
        have HE := Lib.hid (HP.out.full HXN.out HYN.out)
        go_wp2
        go_ret
        exact ⟨ret_d (decide_eq_true HE.out).symm, HS.out⟩
  · have HNE := Lib.hid (show xs ≠ ys from fun e => hn (by rw [e]))
    have hni : (xs.length : Int) ≠ (ys.length : Int) := by omega
    clear hn
    go_enter Tryz.func137, Tryz.ntmps137
    go_wp2
    go_ret
    exact ⟨ret_d (decide_eq_false HNE.out).symm, Grw.refl _⟩

theorem nd_ne {x y : Nd} (h : x.name ≠ y.name ∨ x.text ≠ y.text ∨ x.parent ≠ y.parent ∨ x.attrs ≠ y.attrs) : x ≠ y := by
  rintro rfl
  rcases h with h | h | h | h <;> exact h rfl
theorem nd_eq {x y : Nd} (h1 : x.name = y.name) (h2 : x.text = y.text) (h3 : x.parent = y.parent) : decide (x = y) = decide (x.attrs = y.attrs) := by
  cases x; cases y
  simp only at h1 h2 h3
  subst h1; subst h2; subst h3
  exact decide_eq_decide.2 ⟨fun h => congrArg Nd.attrs h, fun h => by cases h; rfl⟩
set_option maxRecDepth 100000 in
set_option maxHeartbeats 4000000 in
theorem eqN_impl (g o g' o' : Nat) (p q : Nv) (w : World) (hg : g < w.heap.size) (hg' : g' < w.heap.size)
    (c0 : w.cell? ⟨g, o, none⟩ = some (.string p.1.name)) (c1 : w.cell? ⟨g, o + 1, none⟩ = some (.string p.1.text)) (c2 : w.cell? ⟨g, o + 2, none⟩ = some (.int .i64 p.1.parent)) (c3 : w.cell? ⟨g, o + 3, none⟩ = some (sv p.2))
    (d0 : w.cell? ⟨g', o', none⟩ = some (.string q.1.name)) (d1 : w.cell? ⟨g', o' + 1, none⟩ = some (.string q.1.text)) (d2 : w.cell? ⟨g', o' + 2, none⟩ = some (.int .i64 q.1.parent)) (d3 : w.cell? ⟨g', o' + 3, none⟩ = some (sv q.2))
    (hp : ReadsK encA 2 w.heap.size w (sv p.2) p.1.attrs) (hq : ReadsK encA 2 w.heap.size w (sv q.2) q.1.attrs) :
    Calls Tryz.prog 86 #[.pointer (some ⟨g, o, none⟩), .pointer (some ⟨g', o', none⟩)] w fun e w' => e = .returned (.bool (decide (p.1 = q.1))) ∧ Grw w w' := by
  have mixed : Tryz.prog.follows .mixedOrders = true := by kernel_rfl
  obtain ⟨⟨nm, tx, pa, ats⟩, ⟨sa, sn, sc⟩⟩ := p
  obtain ⟨⟨nm', tx', pa', ats'⟩, ⟨sa', sn', sc'⟩⟩ := q
  replace c3 : w.cell? ⟨g, o + 3, none⟩ = some (.slice sa sn sc) := c3
  replace d3 : w.cell? ⟨g', o' + 3, none⟩ = some (.slice sa' sn' sc') := d3
  have C0 := cell_grown hg c0; have C1 := cell_grown hg c1; have C2 := cell_grown hg c2; have C3 := cell_grown hg c3
  have D0 := cell_grown hg' d0; have D1 := cell_grown hg' d1; have D2 := cell_grown hg' d2; have D3 := cell_grown hg' d3
  have HE := Lib.hid (fun (n : Nat) (os : Array Obj) => slicesEqA (sv (sa, sn, sc)) (sv (sa', sn', sc')) _ _ ats ats' (Sort.grow (w.drewN n) os) (readsK_grown hp (Nat.le_refl _) n os) (readsK_grown hq (Nat.le_refl _) n os) (size_grown (Nat.le_refl _) n os) (size_grown (Nat.le_refl _) n os))
  clear c0 c1 c2 c3 d0 d1 d2 d3 hp hq
  by_cases h1 : nm = nm'
  · have e1 : (nm.toList == nm'.toList) = true := beqL_yes h1
    by_cases h2 : tx = tx'
    · have e2 : (tx.toList == tx'.toList) = true := beqL_yes h2
      by_cases h3 : pa = pa'
      · have e3 : (pa == pa') = true := beq_iff_eq.2 h3
        have HR := Lib.hid (nd_eq (x := ⟨nm, tx, pa, ats⟩) (y := ⟨nm', tx', pa', ats'⟩) h1 h2 h3)
        obtain ⟨r, hr⟩ : ∃ r, decide (ats = ats') = r := ⟨_, rfl⟩
        rw [hr] at HE
        have HRR := Lib.hid hr
        clear h1 h2 h3 hr
        go_enter Tryz.func86, Tryz.ntmps86
        go_wp2_with fail
        refine wp_region_quiet_grown mixed (by kernel_rfl) ?_
        repeat (go_big_quiet_step (first | (go_at_call 137; refine Calls.grown_of (HE.out _ _))))
        refine wpQuiet_nil ?_; intro _ hw'; obtain ⟨⟨nq, osq⟩, hw''⟩ := hw'; subst hw''
        go_wp2_with fail
        go_ret
        exact ⟨by rw [HR.out]; show _ = Ending.returned (.bool (decide (ats = ats'))); rw [HRR.out]; rfl, ⟨nq, osq, rfl⟩⟩
      · have e3 : (pa == pa') = false := beq_eq_false_iff_ne.2 h3
        have HN := Lib.hid (nd_ne (x := ⟨nm, tx, pa, ats⟩) (y := ⟨nm', tx', pa', ats'⟩) (Or.inr (Or.inr (Or.inl h3))))
        clear h1 h2 h3 HE
        go_enter Tryz.func86, Tryz.ntmps86
        go_wp2_with fail
        refine wp_region_quiet_grown mixed (by kernel_rfl) ?_
        repeat (go_big_quiet_step (fail))
        refine wpQuiet_nil ?_; intro _ hw'; obtain ⟨⟨nq, osq⟩, hw''⟩ := hw'; subst hw''
        go_wp2_with fail
        go_ret
        exact ⟨ret_d (decide_eq_false HN.out).symm, ⟨nq, osq, rfl⟩⟩
    · have e2 : (tx.toList == tx'.toList) = false := beqL_no h2
      have HN := Lib.hid (nd_ne (x := ⟨nm, tx, pa, ats⟩) (y := ⟨nm', tx', pa', ats'⟩) (Or.inr (Or.inl h2)))
      clear h1 h2 HE
      go_enter Tryz.func86, Tryz.ntmps86
      go_wp2_with fail
      refine wp_region_quiet_grown mixed (by kernel_rfl) ?_
      repeat (go_big_quiet_step (fail))
      refine wpQuiet_nil ?_; intro _ hw'; obtain ⟨⟨nq, osq⟩, hw''⟩ := hw'; subst hw''
      go_wp2_with fail
      go_ret
      exact ⟨ret_d (decide_eq_false HN.out).symm, ⟨nq, osq, rfl⟩⟩
  · have e1 : (nm.toList == nm'.toList) = false := beqL_no h1
    have HN := Lib.hid (nd_ne (x := ⟨nm, tx, pa, ats⟩) (y := ⟨nm', tx', pa', ats'⟩) (Or.inl h1))
    clear h1 HE
    go_enter Tryz.func86, Tryz.ntmps86
    go_wp2_with fail
    refine wp_region_quiet_grown mixed (by kernel_rfl) ?_
    repeat (go_big_quiet_step (fail))
    refine wpQuiet_nil ?_; intro _ hw'; obtain ⟨⟨nq, osq⟩, hw''⟩ := hw'; subst hw''
    go_wp2_with fail
    go_ret
    exact ⟨ret_d (decide_eq_false HN.out).symm, ⟨nq, osq, rfl⟩⟩

/- EqS -/
open Go.ChangeShapes Go.WideShapes Go.ChangeAt Go.RowKit

set_option maxHeartbeats 2000000 in
theorem slicesEqU (v u : Value) (hi hi' : Nat) (xs ys : List Ru) (w : World) (hv : ReadsK encU 2 hi w v xs) (hu : ReadsK encU 2 hi' w u ys) (hh : hi ≤ w.heap.size) (hh' : hi' ≤ w.heap.size) :
    Calls Tryz.prog 120 #[v, u] w fun e w' => e = .returned (.bool (decide (xs = ys))) ∧ Grw w w' := by
  obtain ⟨a, cap, rfl, hc1, hc2, _, hcells⟩ := hv
  obtain ⟨a', cap', rfl, hc1', hc2', _, hcells'⟩ := hu
  have HC := Lib.hid hcells; have HC' := Lib.hid hcells'; clear hcells hcells'
  by_cases hn : xs.length = ys.length
  · obtain ⟨n, hxn⟩ : ∃ n, xs.length = n := ⟨_, rfl⟩
    have hyn : ys.length = n := by omega
    rw [hxn] at hc1 HC ⊢
    rw [hyn] at hc1' HC' ⊢
    have HXN := Lib.hid hxn; have HYN := Lib.hid hyn; clear hxn hyn hn
    go_enter Tryz.func120, Tryz.ntmps120
    go_wp2
    go_loopw [13] (fun i wr => ∃ (k : Nat), k ≤ n ∧ i = .int .i64 k ∧ PreL xs ys k ∧ Grw w wr)
      (fun i _ => n - (intOf i).toNat)
    case atStart => exact ⟨0, Nat.zero_le _, rfl, PreL.zero _ _, Grw.refl _⟩
    case round =>
      obtain ⟨k, hk, rfl, hp, hs⟩ := hrel
      have HS := Lib.hid hs; have HP := Lib.hid hp
      clear hs hp
      by_cases hlt : (k : Int) < (n : Int)
      · rcases HC.out with h0 | ⟨g, off, rfl, hg, hcells⟩
        · omega
        · rcases HC'.out with h0 | ⟨g', off', rfl, hg', hcells'⟩
          · omega
          · obtain ⟨x, y, hx⟩ := ru_at (xs := xs) (j := k) (by have := HXN.out; omega)
            obtain ⟨x', y', hx'⟩ := ru_at (xs := ys) (j := k) (by have := HYN.out; omega)
            have c1 : wr.cell? ⟨g, off + k * 2, none⟩ = some (.string x) := by rw [HS.out.below.cell (show g < _ by omega)]; exact hcells k _ hx 0 (by omega)
            have c2 : wr.cell? ⟨g, off + k * 2 + 1, none⟩ = some (.int .i64 y) := by rw [HS.out.below.cell (show g < _ by omega)]; exact hcells k _ hx 1 (by omega)
            have c3 : wr.cell? ⟨g', off' + k * 2, none⟩ = some (.string x') := by rw [HS.out.below.cell (show g' < _ by omega)]; exact hcells' k _ hx' 0 (by omega)
            have c4 : wr.cell? ⟨g', off' + k * 2 + 1, none⟩ = some (.int .i64 y') := by rw [HS.out.below.cell (show g' < _ by omega)]; exact hcells' k _ hx' 1 (by omega)
            have HX := Lib.hid hx; have HX' := Lib.hid hx'
            clear hcells hcells' hx hx'
            by_cases e1 : x = x'
            · have e3 : (x.toList == x'.toList) = true := beqL_yes e1
              by_cases e2 : y = y'
              · have e4 : (y == y') = true := beq_iff_eq.2 e2; have e5 : (y != y') = false := by rw [bne, e4]; rfl
                have HQ := Lib.hid (HP.out.step (by rw [HX.out, HX'.out, e1, e2]))
                clear e1 e2
                go_wp2
                go_quiet (fail)
                go_wp2
                go_roundw
                case rel => exact ⟨k + 1, by omega, by go_num, HQ.out, HS.out.drewN _⟩
                case measure => simp [intOf]; omega
              · have e4 : (y == y') = false := beq_eq_false_iff_ne.2 e2; have e5 : (y != y') = true := by rw [bne, e4]; rfl
                have HNE := Lib.hid (show xs ≠ ys from fun e => e2 (by have h := HX.out; rw [e, HX'.out] at h; exact (Prod.mk.inj (Option.some.inj h)).2.symm))
                clear e1 e2
                go_wp2
                go_quiet (fail)
                go_wp2
                go_ret
                exact ⟨ret_d (decide_eq_false HNE.out).symm, HS.out.drewN _⟩
            · have e3 : (x.toList == x'.toList) = false := beqL_no e1
              have HNE := Lib.hid (show xs ≠ ys from fun e => e1 (by have h := HX.out; rw [e, HX'.out] at h; exact (Prod.mk.inj (Option.some.inj h)).1.symm))
              clear e1
              go_wp2
              go_quiet (fail)
              go_wp2
              go_ret
              exact ⟨ret_d (decide_eq_false HNE.out).symm, HS.out.drewN _⟩
      · have hkn : k = n := by omega
        subst hkn
        have HE := Lib.hid (HP.out.full HXN.out HYN.out)
        go_wp2
        go_ret
        exact ⟨ret_d (decide_eq_true HE.out).symm, HS.out⟩
  · have HNE := Lib.hid (show xs ≠ ys from fun e => hn (by rw [e]))
    have hni : (xs.length : Int) ≠ (ys.length : Int) := by omega
    clear hn
    go_enter Tryz.func120, Tryz.ntmps120
    go_wp2
    go_ret
    exact ⟨ret_d (decide_eq_false HNE.out).symm, Grw.refl _⟩

set_option maxHeartbeats 2000000 in
theorem sameRules_any (v u : Value) (xs ys : List Ru) (w : World) (hv : ReadsK encU 2 w.heap.size w v xs) (hu : ReadsK encU 2 w.heap.size w u ys) :
    Calls Tryz.prog 67 #[.agg #[v], .agg #[u]] w fun e w' => e = .returned (.bool (decide (xs = ys))) ∧ Grw w w' := by
  have hg := ((Grw.refl w).alloc (.cells #[v] 27)).alloc (.cells #[u] 27)
  have hb := hg.below
  have HE := Lib.hid (slicesEqU v u _ _ xs ys ((w.alloc (.cells #[v] 27)).alloc (.cells #[u] 27)) (hv.below hb (Nat.le_refl _)) (hu.below hb (Nat.le_refl _)) hb.size hb.size)
  obtain ⟨a, cap, rfl, _⟩ := hv
  obtain ⟨a', cap', rfl, _⟩ := hu
  have HG := Lib.hid hg; clear hg hb
  obtain ⟨r, hr⟩ : ∃ r, decide (xs = ys) = r := ⟨_, rfl⟩
  rw [hr] at HE ⊢
  clear hr
  go_enter Tryz.func67, Tryz.ntmps67
  go_wp2_with (go_at_call 120; refine HE.out.mono ?_; rintro e w1 ⟨rfl, hg1⟩)
  go_ret
  exact ⟨rfl, HG.out.trans hg1⟩

theorem fst_at {ss : List Shv} {k : Nat} {p : Shv} (h : ss[k]? = some p) : (ss.map Prod.fst)[k]? = some p.1 := by rw [List.getElem?_map, h]; rfl

set_option maxRecDepth 100000 in
set_option maxHeartbeats 4000000 in
theorem eqFunc_any (v u : Value) (ss us : List Shv) (w : World) (hv : ReadH w.heap.size w v ss) (hu : ReadH w.heap.size w u us) :
    Calls Tryz.prog 66 #[v, u, .func (.func 67) #[] #[]] w fun e w' => e = .returned (.bool (decide (ss.map Prod.fst = us.map Prod.fst))) ∧ Grw w w' := by
  obtain ⟨a, cap, rfl, hc1, hc2⟩ := hv.form
  obtain ⟨a', cap', rfl, hc1', hc2'⟩ := hu.form
  obtain ⟨D, hD⟩ : ∃ D, decide (ss.map Prod.fst = us.map Prod.fst) = D := ⟨_, rfl⟩
  rw [hD]
  obtain ⟨n, hn⟩ : ∃ n, ss.length = n := ⟨_, rfl⟩
  obtain ⟨n', hn'⟩ : ∃ n, us.length = n := ⟨_, rfl⟩
  rw [hn] at hv hc1 ⊢; rw [hn'] at hu hc1' ⊢
  have HD := Lib.hid hD; have HV := Lib.hid hv; have HU := Lib.hid hu; have HN := Lib.hid hn; have HN' := Lib.hid hn'
  clear hD hv hu hn hn'
  by_cases h : n = n'
  · subst h
    have hnn : ((n : Int) != (n : Int)) = false := by rw [bne, beq_self_eq_true]; rfl
    go_enter Tryz.func66, Tryz.ntmps66
    go_wp2
    go_loopw [17] (fun i wr => ∃ (k : Nat), k ≤ n ∧ i = .int .i64 k ∧ PreL (ss.map Prod.fst) (us.map Prod.fst) k ∧ Grw w wr)
      (fun i _ => n - (intOf i).toNat)
    case atStart => exact ⟨0, Nat.zero_le _, rfl, PreL.zero _ _, Grw.refl _⟩
    case round =>
      obtain ⟨k, hk, rfl, hp, hs⟩ := hrel
      have HS := Lib.hid hs; have HP := Lib.hid hp
      clear hs hp
      by_cases hlt : (k : Int) < (n : Int)
      · obtain ⟨p, hp⟩ := sh_at (ss := ss) (j := k) (by rw [HN.out]; omega)
        obtain ⟨q, hq⟩ := sh_at (ss := us) (j := k) (by rw [HN'.out]; omega)
        obtain ⟨g, off, rfl, hg, c0⟩ := HV.out.at hp
        obtain ⟨g', off', rfl, hg', d0⟩ := HU.out.at hq
        have hpi := HV.out.sheet hp
        have hqi := HU.out.sheet hq
        have HPF := Lib.hid (fst_at hp); have HQF := Lib.hid (fst_at hq)
        obtain ⟨rs, ⟨sa, sn, sc⟩⟩ := p
        obtain ⟨rs', ⟨sa', sn', sc'⟩⟩ := q
        replace hpi : ReadsK encU 2 w.heap.size w (.slice sa sn sc) rs := hpi
        replace hqi : ReadsK encU 2 w.heap.size w (.slice sa' sn' sc') rs' := hqi
        replace c0 : wr.cell? ⟨g, off + k, none⟩ = some (.slice sa sn sc) := by rw [HS.out.below.cell (show g < _ by omega)]; exact c0
        replace d0 : wr.cell? ⟨g', off' + k, none⟩ = some (.slice sa' sn' sc') := by rw [HS.out.below.cell (show g' < _ by omega)]; exact d0
        replace d0 : (wr.alloc (.cells #[.slice sa sn sc] 27)).cell? ⟨g', off' + k, none⟩ = some (.slice sa' sn' sc') := by rw [((Below.refl _ wr).alloc (Nat.le_refl _) _).cell (show g' < _ by have := HS.out.below.size; omega)]; exact d0
        have hbw := HS.out.below
        have hg2 := ((Grw.refl wr).alloc (.cells #[.slice sa sn sc] 27)).alloc (.cells #[.slice sa' sn' sc'] 27)
        have hb2 := hbw.trans (hg2.below.mono hbw.size)
        have HE := Lib.hid (sameRules_any (.slice sa sn sc) (.slice sa' sn' sc') rs rs' ((wr.alloc (.cells #[.slice sa sn sc] 27)).alloc (.cells #[.slice sa' sn' sc'] 27)) ((hpi.below hb2 (Nat.le_refl _)).mono hb2.size) ((hqi.below hb2 (Nat.le_refl _)).mono hb2.size))
        have HG2 := Lib.hid (HS.out.trans hg2)
        clear hp hq hpi hqi hbw hg2 hb2
        obtain ⟨r, hr⟩ : ∃ r, decide (rs = rs') = r := ⟨_, rfl⟩
        rw [hr] at HE
        have HR := Lib.hid hr; clear hr
        cases r with
        | true =>
          have HQ := Lib.hid (HP.out.step (by rw [HPF.out, HQF.out]; exact congrArg some (of_decide_eq_true HR.out)))
          go_wp2_with (go_at_call 67; refine HE.out.mono ?_; rintro e w1 ⟨rfl, hg1⟩)
          have HG1 := Lib.hid (HG2.out.trans hg1); clear hg1
          go_roundw
          case rel => exact ⟨k + 1, by omega, by go_num, HQ.out, HG1.out⟩
          case measure => simp [intOf]; omega
        | false =>
          have HNE := Lib.hid (show ss.map Prod.fst ≠ us.map Prod.fst from fun e => of_decide_eq_false HR.out (by have h := HPF.out; rw [e, HQF.out] at h; exact (Option.some.inj h).symm))
          go_wp2_with (go_at_call 67; refine HE.out.mono ?_; rintro e w1 ⟨rfl, hg1⟩)
          have HG1 := Lib.hid (HG2.out.trans hg1); clear hg1
          go_ret
          exact ⟨ret_b (by rw [← HD.out]; exact (decide_eq_false HNE.out).symm), HG1.out⟩
      · have hkn : k = n := by omega
        subst hkn
        have HE := Lib.hid (HP.out.full (by rw [List.length_map]; exact HN.out) (by rw [List.length_map]; exact HN'.out))
        go_wp2
        go_ret
        exact ⟨ret_b (by rw [← HD.out]; exact (decide_eq_true HE.out).symm), HS.out⟩
  · have hnn : ((n : Int) != (n' : Int)) = true := by rw [bne, beq_eq_false_iff_ne.2 (show (n : Int) ≠ (n' : Int) by omega)]; rfl
    have HNE := Lib.hid (show ss.map Prod.fst ≠ us.map Prod.fst from fun e => h (by rw [← HN.out, ← HN'.out]; have := congrArg List.length e; simpa using this))
    clear h
    go_enter Tryz.func66, Tryz.ntmps66
    go_wp2
    go_ret
    exact ⟨ret_b (by rw [← HD.out]; exact (decide_eq_false HNE.out).symm), Grw.refl _⟩

set_option maxHeartbeats 2000000 in
theorem eqH_impl (v u : Value) (ss us : List Shv) (w : World) (hv : ReadH w.heap.size w v ss) (hu : ReadH w.heap.size w u us) :
    Calls Tryz.prog 11 #[v, u] w fun e w' => e = .returned (.bool (decide (ss.map Prod.fst = us.map Prod.fst))) ∧ Grw w w' := by
  have HE := Lib.hid (eqFunc_any v u ss us w hv hu)
  obtain ⟨a, cap, rfl, _⟩ := hv.form
  obtain ⟨a', cap', rfl, _⟩ := hu.form
  obtain ⟨D, hD⟩ : ∃ D, decide (ss.map Prod.fst = us.map Prod.fst) = D := ⟨_, rfl⟩
  rw [hD] at HE ⊢
  clear hv hu hD
  go_enter Tryz.func11, Tryz.ntmps11
  go_wp2_with (go_at_call 66; refine HE.out.mono ?_; rintro e w1 ⟨rfl, hg1⟩)
  go_ret
  exact ⟨rfl, hg1⟩

/- FsI -/
open Go.ChangeShapes Go.WideShapes Go.ChangeAt Go.RowKit

/-- append of one string to a slice of the call's own, at a step of a region that draws its order. -/
theorem step_appSt {w : World} {ops : Array Oper} {o : Oper} {a : Act} {K : Act → World → Prop} {Q : Exit → Act → World → Prop} {E : Prop} (hgd : o.guard = none) (s x : Operand)
    (ho : o.op = .call { callee := .builtin .append, args := #[s, x], argTypes := #[48, 48] })
    (B : Nat) (w0 : World) (v : Value) (xs : List ByteArray) (hs : a.eval s = v) (hM : MineK encS 1 9 B w0 w v xs) (ad : Addr) (top : Nat) (y : ByteArray) (hx : a.eval x = .slice (some ad) 1 1) (hr : ReadsK encS 1 top w (.slice (some ad) 1 1) [y])
    (hlen : xs.length + 1 ≤ 137438953472) (n : Nat) (hn : xs.length = n)
    (h : ∀ g cap w', MineK encS 1 9 B w0 w' (.slice (some ⟨g, 0, none⟩) (n + 1) cap) (xs ++ [y]) → (∀ (b : Nat) (cs : Array Value) (T : TypeId), 9 ≠ T → w.heap[b]? = some (.cells cs T (0, 0)) → w'.heap[b]? = some (.cells cs T (0, 0))) → K (a.put o.dst (.slice (some ⟨g, 0, none⟩) (n + 1) cap)) w') :
    if Region.wanted o (yielded ops a.tmps) = true then Oper.wp Tryz.prog o a w K Q else E := by
  obtain ⟨i, hi, hz, hsize, hby⟩ := info_parts infoStr
  subst hn
  refine step_append_lies w hgd s x _ ho B _ i _ 1 16 Tryz.underlying48 hi hz hsize hby (by rfl) (by decide) v xs.length _ hs hM.row ad 1 1 ([y].flatMap encS) hx (flat_len encS_len [y]) (hr.news encS_len) ?_ (by omega) ?_ ?_ hM.size w.heap.size rfl ?_
  · intro u hu
    obtain ⟨z, _, hz⟩ := List.mem_flatMap.1 hu
    exact encS_one z u hz
  · unfold maxLen; omega
  · omega
  · intro g cap w' hown hgr _ _
    exact h g cap w' (hM.grow (ys := [y]) hown hgr) fun b cs T hT hb => (hgr.block b (heap_lt hb) (row_ne_box hM.row hb hT)).trans hb
theorem readsS_blk {w : World} {g : Nat} (y : ByteArray) (hg : w.heap[g]? = some (.cells #[.string y] 9 (0, 0))) : ReadsK encS 1 (g + 1) w (.slice (some ⟨g, 0, none⟩) 1 1) [y] := by
  refine ⟨_, 1, rfl, by simp, by omega, (fun h => by cases h), Or.inr ⟨_, 0, rfl, by omega, fun j z hz i hi' => ?_⟩⟩
  have hj : j = 0 := by have := (List.getElem?_eq_some_iff.1 hz).1; simp at this; omega
  subst hj
  simp only [List.getElem?_cons_zero, Option.some.injEq] at hz
  subst hz
  obtain rfl : i = 0 := by omega
  exact box_cell hg (j := 0) rfl
theorem ru_ne_str : 9 ≠ 36 := by decide
theorem own_strs {lo hi g n c : Nat} {w : World} {xs : List ByteArray} (h : OwnK encS 1 9 lo hi w (.slice (some ⟨g, 0, none⟩) n c) xs) (hn : xs.length = n) : g < w.heap.size ∧ n ≤ c ∧ ∀ (j : Nat) x, xs[j]? = some x → w.cell? ⟨g, 0 + j, none⟩ = some (.string x) := by
  have hr := h.reads encS_len
  rcases h.1.2 with ⟨e, _⟩ | ⟨g', cap, cur, e, hg, hh, hc, hm, _⟩
  · cases e
  · cases e
    refine ⟨heap_lt hh, by omega, fun j x hj => ?_⟩
    have := hr.news encS_len j (.string x) (by
      have := flat_at encS_len hj (show 0 < 1 by decide)
      simpa [encS] using this)
    rwa [add_off] at this

set_option maxRecDepth 100000 in
set_option maxHeartbeats 4000000 in
theorem fsheet_impl (v : Value) (rs : List Ru) (w : World) (h : ReadsK encU 2 w.heap.size w v rs) (hok : ∀ r ∈ rs, RuOk r) (hl : rs.length ≤ 1048576) (hz : sumN rs ≤ 1048576) (htab : Lib.TabIs Tryz.prog w "internal/strconv.uint64pow10" .u64 Lib.pow10Tab) :
    Calls Tryz.prog 13 #[.agg #[v]] w fun e w' => e = .returned (.string (fmtSh rs)) ∧ Below w.heap.size w w' := by
  obtain ⟨a, cap, rfl, hc1, hc2, _⟩ := id h
  obtain ⟨n, hn⟩ : ∃ n, rs.length = n := ⟨_, rfl⟩
  have hT := Lib.tabBelow_of_tabIs htab
  have hJL := fmtSh_size hok
  rw [hn] at h hc1 hl hJL ⊢
  obtain ⟨W0, hW0⟩ : ∃ W, (w.alloc (.cells #[.slice a n cap] 27)).alloc (.cells #[] 9) = W := ⟨_, rfl⟩
  have hb1 : Below w.heap.size w (w.alloc (.cells #[.slice a n cap] 27)) := (Below.refl _ _).alloc (Nat.le_refl _) _
  have hx0 : W0.heap[w.heap.size]? = some (.cells #[.slice a n cap] 27 (0, 0)) := by
    rw [← hW0]; exact below_heap ((Below.refl _ _).alloc (Nat.le_refl _) _) (by rw [size_alloc]; omega) (MapKept.heap_alloc w _).1
  have hm0 : MineK encS 1 9 w.heap.size w W0 (.slice (some ⟨w.heap.size + 1, 0, none⟩) 0 0) ((rs.take 0).map ruF) := by
    rw [← hW0, ← size_alloc w (.cells #[.slice a n cap] 27)]
    exact MineK.empty encS 1 _ w _ _ hb1 (by rw [size_alloc]; omega)
  have q0 := box_cell hx0 (j := 0) rfl
  have H := Lib.hid h; have HN := Lib.hid hn; have HOK := Lib.hid hok; have HZ := Lib.hid hz; have HM0 := Lib.hid hm0; have HW0 := Lib.hid hW0; have HT := Lib.hid hT; have HJL := Lib.hid hJL
  clear h hn hok hz hx0 hm0 hW0 hT hb1 htab hJL
  go_enter Tryz.func13, Tryz.ntmps13
  go_upto_region 2 with (fail)
  rw [HW0.out]
  go_wp2_with fail
  go_loopw [10, 3] (fun i q wr => ∃ (k g c : Nat), k ≤ n ∧ i = .int .i64 k ∧ q = .slice (some ⟨g, 0, none⟩) k c ∧ MineK encS 1 9 w.heap.size w wr (.slice (some ⟨g, 0, none⟩) k c) ((rs.take k).map ruF))
    (fun i _ _ => n - (intOf i).toNat)
  case atStart => exact ⟨0, _, _, Nat.zero_le _, rfl, rfl, HM0.out⟩
  case round =>
    obtain ⟨k, g, c, hk, rfl, rfl, hM⟩ := hrel
    clear HM0 q0
    have HM := Lib.hid hM; clear hM
    by_cases hlt : (k : Int) < (n : Int)
    · obtain ⟨nm, cl, hr⟩ := ru_at (xs := rs) (j := k) (by rw [HN.out]; omega)
      obtain ⟨gr, off, rfl, hg, d0, d1⟩ := H.out.rule hr
      replace d0 : wr.cell? ⟨gr, off + k * 2, none⟩ = some (.string nm) := by rw [HM.out.below.cell (show gr < _ from hg)]; exact d0
      replace d1 : wr.cell? ⟨gr, off + k * 2 + 1, none⟩ = some (.int .i64 cl) := by rw [HM.out.below.cell (show gr < _ from hg)]; exact d1
      obtain ⟨ok0, ok1, ok2⟩ := HOK.out _ (List.mem_of_getElem? hr)
      have hnm := sumN_at hr
      have hy2 : nm.size ≤ 1048576 := by have := HZ.out; simp only at hnm; omega
      have hfc := itoa_len cl ok1 ok2
      have h58 : (⟨#[58]⟩ : ByteArray).size = 1 := rfl
      obtain ⟨F, hF⟩ : ∃ F, fmtS cl = F := ⟨_, rfl⟩
      obtain ⟨X1, hX1⟩ : ∃ Y, nm ++ ⟨#[58]⟩ = Y := ⟨_, rfl⟩
      obtain ⟨X2, hX2⟩ : ∃ Y, X1 ++ F = Y := ⟨_, rfl⟩
      have hz1 : X1.size ≤ 1048577 := by rw [← hX1, ByteArray.size_append, h58]; omega
      rw [hF] at hfc
      have a1 : ∀ W, (Op.stringOp .add nm ⟨#[58]⟩).run Tryz.prog W = .ok (.string X1) W := fun W => by rw [← hX1]; exact run_string_add_sum _ _ _ (by omega)
      have a2 : ∀ W, (Op.stringOp .add X1 F).run Tryz.prog W = .ok (.string X2) W := fun W => by rw [← hX2]; exact run_string_add_sum _ _ _ (by omega)
      have HFM := Lib.hid (show (rs.take (k + 1)).map ruF = (rs.take k).map ruF ++ [X2] by
        rw [take_snoc hr, List.map_append, ← hX2, ← hX1, ← hF]; rfl)
      obtain ⟨W1, hW1⟩ : ∃ W, wr.alloc (.cells #[.string nm, .int .i64 cl] 36) = W := ⟨_, rfl⟩
      have hb1 : Below wr.heap.size wr W1 := by rw [← hW1]; exact (Below.refl _ _).alloc (Nat.le_refl _) _
      have hbx : W1.heap[wr.heap.size]? = some (.cells #[.string nm, .int .i64 cl] 36 (0, 0)) := by rw [← hW1]; exact (MapKept.heap_alloc wr _).1
      have e0 := box_cell hbx (j := 0) rfl
      have e1 := box_cell hbx (j := 1) rfl
      have hbl := heap_lt hbx
      have HM1 := Lib.hid (HM.out.later hb1)
      have HFI := Lib.hid (fun (W : World) (hb : Below W1.heap.size W1 W) => show Calls Tryz.prog 72 #[.int .i64 cl] W fun e w' => e = .returned (.string F) ∧ Below W.heap.size W w' from by rw [← hF]; exact fmt_impl cl ok1 ok2 W (HT.out W (HM1.out.below.trans (hb.mono HM1.out.size))))
      have KEEP := Lib.hid (fun (w' : World) (h : Below W1.heap.size W1 w') => show w'.cell? ⟨wr.heap.size, 0, none⟩ = some (.string nm) ∧ w'.cell? ⟨wr.heap.size, 1, none⟩ = some (.int .i64 cl) from ⟨(h.cell hbl).trans e0, (h.cell hbl).trans e1⟩)
      have HLK := Lib.hid (show ((rs.take k).map ruF).length = k by rw [List.length_map, List.length_take, HN.out]; omega)
      have HLA := Lib.hid (show ((rs.take k).map ruF).length + 1 ≤ 137438953472 by rw [HLK.out]; omega)
      have HW1 := Lib.hid hW1; have HBX := Lib.hid hbx
      clear hr hF hX1 hX2 hnm hW1 hb1 hbx
      go_upto_region 5 with (fail)
      rw [HW1.out]
      go_region_held3 (fun w' => w'.cell? ⟨wr.heap.size, 0, none⟩ = some (.string nm) ∧ w'.cell? ⟨wr.heap.size, 1, none⟩ = some (.int .i64 cl)) (first | exact ⟨kB0, kB1⟩ | exact KEEP.out _ (by repeat' (first | (with_reducible exact Below.refl _ _) | (with_reducible exact hPA) | (with_reducible refine bl_dw ?_) | (with_reducible refine bl_aw ?_ _)))) (first
        | (go_at_call 72; refine (HFI.out _ (by repeat' (first | (with_reducible exact Below.refl _ _) | (with_reducible refine bl_dw ?_) | (with_reducible refine bl_aw ?_ _)))).mono ?_; rintro e wA ⟨rfl, hbA⟩; have hPA := bl_tr (show Below W1.heap.size W1 _ from (by repeat' (first | (with_reducible exact Below.refl _ _) | (with_reducible refine bl_dw ?_) | (with_reducible refine bl_aw ?_ _)))) hbA)
        | (refine step_appSt (by rfl) _ _ (by rfl) w.heap.size w _ ((rs.take k).map ruF) (by rfl) (HM1.out.later (show Below W1.heap.size W1 _ from (by repeat' (first | (with_reducible exact Below.refl _ _) | (with_reducible exact hPA) | (with_reducible refine bl_dw ?_) | (with_reducible refine bl_aw ?_ _))))) _ _ X2 (by rfl) (readsS_blk _ (by repeat' (first | (with_reducible refine hq_dr ?_) | ((with_reducible refine hq_nw ?_); (first | (with_reducible rfl) | (simp only [size_alloc]; done)))))) HLA.out k HLK.out ?_; intro gB cB wB hmB hkB; have hkX := hkB _ _ _ ru_ne_str (below_heap (show Below W1.heap.size W1 _ from (by repeat' (first | (with_reducible exact Below.refl _ _) | (with_reducible exact hPA) | (with_reducible refine bl_dw ?_) | (with_reducible refine bl_aw ?_ _)))) (heap_lt HBX.out) HBX.out); have kB0 := box_cell hkX (j := 0) rfl; have kB1 := box_cell hkX (j := 1) rfl))
      all_goals
        have HMB := Lib.hid (show MineK encS 1 9 w.heap.size w wB (.slice (some ⟨gB, 0, none⟩) (k + 1) cB) ((rs.take (k + 1)).map ruF) by rw [HFM.out]; exact hmB)
        clear hmB hkB hkX kB0 kB1
        go_wp2_with fail
        go_roundw
        case rel => exact ⟨k + 1, _, _, by omega, by go_num, rfl, HMB.out⟩
        case measure => simp [intOf] <;> omega
    · have hkn : k = n := by omega
      subst hkn
      have hM := HM.out
      rw [List.take_of_length_le (show rs.length ≤ k by rw [HN.out]; exact Nat.le_refl _)] at hM
      have hlm : (rs.map ruF).length = k := by rw [List.length_map]; exact HN.out
      obtain ⟨hbw, hcp, hcl⟩ := own_strs hM.own hlm
      have hmm : (rs.map ruF).map (·.data.toList) = rs.map fun r => (ruF r).data.toList := by rw [List.map_map]; rfl
      have hJ := Tryz.strings_Join g 0 c (rs.map ruF) ⟨#[59]⟩ wr hcl hbw (by rw [hlm]; omega) (by rw [hlm]; exact hcp) (by
        have h1 := HJL.out; have h2 := HZ.out
        have h3 := fmtSh_list rs
        rw [hmm, show (⟨#[59]⟩ : ByteArray).data.toList = [59] from rfl, ← h3, size_list]; omega)
      rw [hlm, hmm, show (⟨#[59]⟩ : ByteArray).data.toList = [59] from rfl] at hJ
      have HJ := Lib.hid hJ
      clear hJ hcl hM hlm hmm
      go_wp2_with fail
      refine HJ.out.mono ?_
      rintro e w2 ⟨rfl, hb2⟩
      have HB2 := Lib.hid (HM.out.below.trans (hb2.mono HM.out.size))
      clear hb2
      go_wp2_with fail
      go_ret
      exact ⟨rfl, HB2.out⟩

/- Shs7 -/
open Go.ChangeShapes Go.WideShapes Go.ChangeAt Go.RowKit

theorem readsH_blk {w : World} {g : Nat} {p : Shv} {u : Value} (h : sv p.2 = u) (hg : w.heap[g]? = some (.cells #[u] 27 (0, 0))) : ReadsK encH 1 (g + 1) w (.slice (some ⟨g, 0, none⟩) 1 1) [p] := by
  subst h
  refine ⟨_, 1, rfl, by simp, by omega, (fun h => by cases h), Or.inr ⟨_, 0, rfl, by omega, fun j y hy i hi' => ?_⟩⟩
  have hj : j = 0 := by have := (List.getElem?_eq_some_iff.1 hy).1; simp at this; omega
  subst hj
  simp only [List.getElem?_cons_zero, Option.some.injEq] at hy
  subst hy
  obtain rfl : i = 0 := by omega
  exact box_cell hg (j := 0) rfl
/-- A slice of one sheet, built around rules that lie there. -/
theorem readH_one {w : World} {g : Nat} {rs : List Ru} {a : Option Addr} {n c : Nat} (hg : w.heap[g]? = some (.cells #[.slice a n c] 27 (0, 0))) (hr : ReadsK encU 2 w.heap.size w (.slice a n c) rs) : ReadH w.heap.size w (.slice (some ⟨g, 0, none⟩) 1 1) [((rs, (a, n, c)) : Shv)] :=
  ⟨(readsH_blk rfl hg).mono (heap_lt hg), fun p hp => by rw [List.mem_singleton] at hp; subst hp; exact hr⟩
theorem eqH_yes {v u : Value} {ss us : List Shv} {w : World} (hv : ReadH w.heap.size w v ss) (hu : ReadH w.heap.size w u us) (he : ss.map Prod.fst = us.map Prod.fst) :
    Calls Tryz.prog 11 #[v, u] w fun e w' => e = .returned (.bool true) ∧ Grw w w' :=
  (eqH_impl v u ss us w hv hu).mono fun _ _ h => ⟨by rw [h.1, decide_eq_true he], h.2⟩
theorem fs_val {v : Value} {rs : List Ru} {w : World} (h : ReadsK encU 2 w.heap.size w v rs) (hv : ∀ r ∈ rs, RuV r) (hl : rs.length ≤ 8) (htab : Lib.TabIs Tryz.prog w "internal/strconv.uint64pow10" .u64 Lib.pow10Tab) :
    Calls Tryz.prog 13 #[.agg #[v]] w fun e w' => e = .returned (.string (fmtSh rs)) ∧ Below w.heap.size w w' :=
  fsheet_impl v rs w h (fun r hr => (hv r hr).ok) (by omega) (by have := sumN_val rs hv; omega) htab
theorem fmt_short {rs : List Ru} (hv : ∀ r ∈ rs, RuV r) (hl : rs.length ≤ 8) : (fmtSh rs).size ≤ 1048576 := by
  have h1 := fmtSh_size fun r hr => (hv r hr).ok
  have h2 := sumN_val rs hv
  omega
theorem shsIs_ok {ss : List Shv} (h : ShsIs ss) : ShsOk ss := by
  refine ⟨by have := h.1; omega, ?_, fun p hp r hr => ?_⟩
  · have h2 : ∀ (us : List Shv), (∀ p ∈ us, ∃ s : ByteArray, s.size ≤ 1000 ∧ p.1 = prsS s) → (flatR us).length ≤ 8 * us.length := by
      intro us
      induction us with
      | nil => intro _; exact Nat.le_refl _
      | cons p us ih =>
        intro hu
        obtain ⟨s, _, e⟩ := hu p List.mem_cons_self
        have h3 := ih fun q hq => hu q (List.mem_cons_of_mem _ hq)
        have h4 := prsS_len s
        unfold flatR at h3 ⊢
        rw [List.flatMap_cons, List.length_append, List.length_cons, e]; omega
    have h5 := h2 ss h.2
    have := h.1; omega
  · obtain ⟨s, _, e⟩ := h.2 p hp
    rw [e] at hr
    exact (prsS_val r hr).ok
end Go.Proofs.YtgcdfkpidcdicaaGreatDoor
