/- 2 texts in one. -/
import Derived.Test.YtgcdfkpidcdicaaGreatDoorShA
import Derived.Test.YtgcdfkpidcdicaaGreatDoorBasA
import Derived.Maps.Own
import Derived.Maps.OwnOps
import Derived.Maps.Views
namespace Go.Proofs.YtgcdfkpidcdicaaGreatDoor
/- ColS -/
open Go.ChangeShapes Go.WideShapes Go.ChangeAt Go.RowKit

/-- The rules at the places before k of sheet i, and all of the sheets before it. -/
def preR (ss : List Shv) (i : Nat) (rs : List Ru) (k : Nat) : List Ru := flatR (ss.take i) ++ rs.take k
theorem preR_zero (ss : List Shv) (i : Nat) (rs : List Ru) : preR ss i rs 0 = flatR (ss.take i) := by simp [preR]
theorem preR_full {ss : List Shv} {i k : Nat} {p : Shv} (h : ss[i]? = some p) (hk : k = p.1.length) : preR ss i p.1 k = flatR (ss.take (i + 1)) := by
  rw [flatR_take h, preR, hk, List.take_length]
theorem preR_snoc {ss : List Shv} {i k : Nat} {rs : List Ru} {r : Ru} (h : rs[k]? = some r) : preR ss i rs (k + 1) = preR ss i rs k ++ [r] := by
  rw [preR, preR, take_snoc h, List.append_assoc]

set_option maxRecDepth 100000 in
set_option maxHeartbeats 4000000 in
theorem colorOf_spec (v : Value) (ss : List Shv) (nm : ByteArray) (w : World) (h : ReadH w.heap.size w v ss) (hn : ss.length ≤ 1099511627776) (hr : ∀ p ∈ ss, p.1.length ≤ 1099511627776) :
    Calls Tryz.prog 81 #[v, .string nm] w fun e w' => e = .returned (.int .i64 (colOf (flatR ss) nm)) ∧ w = w' := by
  obtain ⟨a, cap, rfl, hc1, hc2⟩ := h.form
  obtain ⟨n, hnn⟩ : ∃ n, ss.length = n := ⟨_, rfl⟩
  rw [hnn] at h hc1 hn ⊢
  obtain ⟨C, hC⟩ : ∃ C, colOf (flatR ss) nm = C := ⟨_, rfl⟩
  rw [hC]
  have H := Lib.hid h; have HN := Lib.hid hnn; have HR := Lib.hid hr; have HC := Lib.hid hC
  clear h hnn hr hC
  go_enter Tryz.func81, Tryz.ntmps81
  go_wp2
  go_loopw [5] (fun i wr => ∃ (j : Nat), j ≤ n ∧ i = .int .i64 ((j : Int) - 1) ∧ colOf (flatR (ss.take j)) nm = C ∧ w = wr)
    (fun i _ => ((intOf i) + 1).toNat)
  case atStart => exact ⟨n, Nat.le_refl _, by go_num, by rw [flatR_full HN.out.symm]; exact HC.out, rfl⟩
  case round =>
    obtain ⟨j, hj, rfl, hcj, rfl⟩ := hrel
    have HCJ := Lib.hid hcj; clear hcj
    by_cases hlt : (0 : Int) ≤ (j : Int) - 1
    · obtain ⟨i, rfl⟩ : ∃ i, j = i + 1 := ⟨j - 1, by omega⟩
      have e1 : (((i + 1 : Nat) : Int) - 1) = (i : Int) := by omega
      rw [e1]
      have hi : i < n := by omega
      obtain ⟨p, hp⟩ := sh_at (ss := ss) (j := i) (by rw [HN.out]; omega)
      obtain ⟨g, off, rfl, hg, c0⟩ := H.out.at hp
      have hin := H.out.sheet hp
      have hpl := HR.out p (List.mem_of_getElem? hp)
      obtain ⟨rs, ⟨sa, sn, sc⟩⟩ := p
      replace c0 : w.cell? ⟨g, off + i, none⟩ = some (.slice sa sn sc) := c0
      replace hin : ReadsK encU 2 w.heap.size w (.slice sa sn sc) rs := hin
      replace hpl : rs.length ≤ 1099511627776 := hpl
      obtain ⟨_, _, e, hd1, hd2, _⟩ := id hin
      injection e with e2 e3 e4; subst e2; subst e4
      obtain ⟨m, hm⟩ : ∃ m, rs.length = m := ⟨_, rfl⟩
      rw [hm] at hpl hd1 e3
      subst e3
      have HIN := Lib.hid hin; have HM := Lib.hid hm; have HP := Lib.hid hp
      replace HCJ := Lib.hid (show colOf (preR ss i rs sn) nm = C by rw [preR_full hp hm.symm]; exact HCJ.out)
      clear hin hm hp hlt e1
      go_wp2
      go_loopw [6] (fun q wr => ∃ (k : Nat), k ≤ sn ∧ q = .int .i64 ((k : Int) - 1) ∧ colOf (preR ss i rs k) nm = C ∧ w = wr)
        (fun q _ => ((intOf q) + 1).toNat)
      case atStart => exact ⟨sn, Nat.le_refl _, by go_num, HCJ.out, rfl⟩
      case round =>
        obtain ⟨k', hk, rfl, hck, rfl⟩ := hrel
        have HCK := Lib.hid hck; clear hck
        by_cases hlt : (0 : Int) ≤ (k' : Int) - 1
        · obtain ⟨k, rfl⟩ : ∃ k, k' = k + 1 := ⟨k' - 1, by omega⟩
          have e1 : (((k + 1 : Nat) : Int) - 1) = (k : Int) := by omega
          rw [e1]
          have hk2 : k < sn := by omega
          obtain ⟨x, y, hx⟩ := ru_at (xs := rs) (j := k) (by rw [HM.out]; omega)
          obtain ⟨g', off', rfl, hg', d0, d1⟩ := HIN.out.rule hx
          replace d0 : w.cell? ⟨g', off' + k * 2, none⟩ = some (.string x) := d0
          replace d1 : w.cell? ⟨g', off' + k * 2 + 1, none⟩ = some (.int .i64 y) := d1
          have HX := Lib.hid (show (if x = nm then y else colOf (preR ss i rs k) nm) = C by have := HCK.out; rw [preR_snoc hx, colOf_snoc] at this; exact this)
          clear hx hlt e1
          by_cases e : x = nm
          · have e2 : (x.toList == nm.toList) = true := beqL_yes e
            have HY := Lib.hid (show y = C by have := HX.out; rwa [if_pos e] at this)
            clear e
            go_wp2
            go_ret
            exact ⟨by rw [HY.out]; rfl, rfl⟩
          · have e2 : (x.toList == nm.toList) = false := beqL_no e
            have HY := Lib.hid (show colOf (preR ss i rs k) nm = C by have := HX.out; rwa [if_neg e] at this)
            clear e
            go_wp2
            go_roundw
            case rel => exact ⟨k, by omega, by go_num, HY.out, by first | trivial | rfl⟩
            case measure => simp [intOf]
        · have hk0 : k' = 0 := by omega
          subst hk0
          have HY := Lib.hid (show colOf (flatR (ss.take i)) nm = C by have := HCK.out; rwa [preR_zero] at this)
          go_wp2
          go_roundw
          case rel => exact ⟨i, by omega, by go_num, HY.out, by first | trivial | rfl⟩
          case measure => simp [intOf]
    · have hj0 : j = 0 := by omega
      subst hj0
      have HY := Lib.hid (show (0 : Int) = C by have := HCJ.out; simpa [flatR, colOf] using this)
      go_wp2
      go_ret
      exact ⟨by rw [HY.out]; rfl, rfl⟩

/- ColM -/
open Go.ChangeShapes Go.WideShapes Go.ChangeAt Go.RowKit Go.Maps Go.WideMaps

theorem lawStr : Keyed Tryz.prog 9 := string_keyed Tryz.underlying9
theorem zeroInt (w : World) : (zeroValue 3).run Tryz.prog w = .ok (.int .i64 0) w := by kernel_rfl
def keyS (s : ByteArray) : Lit := .string s.data.toList
theorem keyS_of {s : ByteArray} (h : s.size ≤ 9223372036854775807) : keyOf Tryz.prog 9 (.string s) = some (keyS s) := keyOf_string_mk Tryz.underlying9 (by unfold maxLen; omega)
theorem keyS_ne {s t : ByteArray} (h : s ≠ t) : keyS s ≠ keyS t := fun e => h (bytesEq (Lit.string.inj e))
def numS (n : Int) : DataW Unit := .lit (.int .i64 n)
/-- What the map holds behind these rules. -/
def colD (rs : List Ru) : DataW Unit := rs.foldl (fun m r => m.put (keyS r.1) (numS r.2)) (.map [])
theorem colD_nil : colD [] = .map [] := rfl
theorem colD_snoc (rs : List Ru) (r : Ru) : colD (rs ++ [r]) = (colD rs).put (keyS r.1) (numS r.2) := by rw [colD, List.foldl_append]; rfl
theorem colF_map : ∀ (rs : List Ru) (m : DataW Unit), IsMap m → IsMap (rs.foldl (fun m r => m.put (keyS r.1) (numS r.2)) m)
  | [], _, h => h
  | _ :: rs, _, h => colF_map rs _ (h.put _ _)
theorem colD_map (rs : List Ru) : IsMap (colD rs) := colF_map rs _ isMap_empty
theorem colF_at (nm : ByteArray) : ∀ (rs : List Ru) (m : DataW Unit) (c : Int), IsMap m → m.atKey (keyS nm) (numS 0) = numS c →
    (rs.foldl (fun m r => m.put (keyS r.1) (numS r.2)) m).atKey (keyS nm) (numS 0) = numS (rs.foldl (fun c r => if r.1 = nm then r.2 else c) c)
  | [], _, _, _, h => h
  | r :: rs, m, c, hm, h => by
    rw [List.foldl_cons, List.foldl_cons]
    refine colF_at nm rs _ _ (hm.put _ _) ?_
    by_cases e : r.1 = nm
    · rw [if_pos e, e]; exact atKey_put_same hm (by unfold keyS WideAt.IsKeyLit; trivial) _ _
    · rw [if_neg e, atKey_put_other (keyS_ne (Ne.symm e))]; exact h
theorem colD_at (rs : List Ru) (nm : ByteArray) : (colD rs).atKey (keyS nm) (numS 0) = numS (colOf rs nm) := colF_at nm rs _ 0 isMap_empty rfl
theorem numS_inj {a b : Int} (h : numS a = numS b) : a = b := by
  unfold numS at h
  injection h with h
  injection h

theorem wf_int {n : Int} (h1 : -9223372036854775808 ≤ n) (h2 : n ≤ 9223372036854775807) : (Lit.int .i64 n).wf = true := by
  simp only [Lit.wf, IntKind.min, IntKind.max, IntKind.signed, IntKind.bits, Bool.and_eq_true, decide_eq_true_eq, if_true]; omega

/-- The map of these rules' colors. -/
def IsCol (w : World) (b : Nat) (rs : List Ru) : Prop := w.ownsMap Tryz.prog 9 (plainElem Tryz.prog 3) b rs.length (colD rs)
theorem IsCol.kept {w w' : World} {b : Nat} {rs : List Ru} (h : IsCol w b rs) (hb : Below w.heap.size w w') : IsCol w' b rs := by
  have hlt := World.ownsMap.lt h
  obtain ⟨es, clock, h1, h2, h3, h4⟩ := h
  exact ⟨es, clock, by rw [hb.block b hlt]; exact h1, h2, h3, h4⟩

set_option maxRecDepth 100000 in
set_option maxHeartbeats 4000000 in
theorem colors_any (v : Value) (ss : List Shv) (w : World) (h : ReadH w.heap.size w v ss) (hn : ss.length ≤ 1099511627776) (hr : ∀ p ∈ ss, p.1.length ≤ 1099511627776) (hok : ∀ p ∈ ss, ∀ r ∈ p.1, RuOk r) (htot : (flatR ss).length ≤ 1099511627776) :
    Calls Tryz.prog 75 #[v] w fun e w' => e = .returned (.map (some w.heap.size)) ∧ IsCol w' w.heap.size (flatR ss) ∧ Below w.heap.size w w' := by
  have hmm := @run_makeMap Tryz.prog
  obtain ⟨a, cap, rfl, hc1, hc2⟩ := h.form
  obtain ⟨n, hnn⟩ : ∃ n, ss.length = n := ⟨_, rfl⟩
  rw [hnn] at h hc1 hn ⊢
  have H := Lib.hid h; have HN := Lib.hid hnn; have HR := Lib.hid hr; have HOK := Lib.hid hok; have HT := Lib.hid htot
  clear h hnn hr hok htot
  go_enter Tryz.func75, Tryz.ntmps75
  go_wp2
  go_loopw [11] (fun i wr => ∃ (j : Nat), j ≤ n ∧ i = .int .i64 j ∧ IsCol wr w.heap.size (flatR (ss.take j)) ∧ Below w.heap.size w wr)
    (fun i _ => n - (intOf i).toNat)
  case atStart => exact ⟨0, Nat.zero_le _, rfl, World.ownsMap_made _ _ _ _, (Below.refl _ _).alloc (Nat.le_refl _) _⟩
  case round =>
    obtain ⟨i, hj, rfl, hown, hb⟩ := hrel
    have HO := Lib.hid hown; have HB := Lib.hid hb; clear hown hb
    by_cases hlt : (i : Int) < (n : Int)
    · obtain ⟨p, hp⟩ := sh_at (ss := ss) (j := i) (by rw [HN.out]; omega)
      obtain ⟨g, off, rfl, hg, c0⟩ := H.out.at hp
      have hin := H.out.sheet hp
      have hpl := HR.out p (List.mem_of_getElem? hp)
      have hpo := HOK.out p (List.mem_of_getElem? hp)
      obtain ⟨rs, ⟨sa, sn, sc⟩⟩ := p
      replace c0 : wr.cell? ⟨g, off + i, none⟩ = some (.slice sa sn sc) := by rw [HB.out.cell (show g < _ by omega)]; exact c0
      replace hin : ReadsK encU 2 w.heap.size w (.slice sa sn sc) rs := hin
      replace hpl : rs.length ≤ 1099511627776 := hpl
      obtain ⟨_, _, e, hd1, hd2, _⟩ := id hin
      injection e with e2 e3 e4; subst e2; subst e4
      obtain ⟨m, hm⟩ : ∃ m, rs.length = m := ⟨_, rfl⟩
      rw [hm] at hpl hd1 e3
      subst e3
      have HIN := Lib.hid hin; have HM := Lib.hid hm; have HP := Lib.hid hp; have HPO := Lib.hid hpo
      clear hin hm hp hpo
      have HTI := Lib.hid (show ∀ k, (preR ss i rs k).length ≤ 1099511627776 from fun k => by
        refine Nat.le_trans ?_ HT.out
        have h1 := flatR_take HP.out
        have h2 : (flatR (ss.take (i + 1))).length ≤ (flatR ss).length := by
          conv => rhs; rw [← List.take_append_drop (i + 1) ss, flatR, List.flatMap_append]
          rw [List.length_append]; exact Nat.le_add_right _ _
        rw [h1, List.length_append] at h2
        have h3 := List.length_take_le' k rs
        rw [preR, List.length_append]
        exact Nat.le_trans (Nat.add_le_add_left h3 _) h2)
      replace HO := Lib.hid (show IsCol wr w.heap.size (preR ss i rs 0) by rw [preR_zero]; exact HO.out)
      go_wp2
      go_loopw [18] (fun q wr => ∃ (k : Nat), k ≤ sn ∧ q = .int .i64 k ∧ IsCol wr w.heap.size (preR ss i rs k) ∧ Below w.heap.size w wr)
        (fun q _ => sn - (intOf q).toNat)
      case atStart => exact ⟨0, Nat.zero_le _, rfl, HO.out.kept ((Below.refl _ _).alloc (Nat.le_refl _) _), HB.out.alloc HB.out.size _⟩
      case round =>
        obtain ⟨k, hk, rfl, hown, hb⟩ := hrel
        clear HO HB
        have HO := Lib.hid hown; have HB := Lib.hid hb; clear hown hb
        by_cases hlt2 : (k : Int) < (sn : Int)
        · obtain ⟨x, y, hx⟩ := ru_at (xs := rs) (j := k) (by rw [HM.out]; omega)
          obtain ⟨g', off', rfl, hg', d0, d1⟩ := HIN.out.rule hx
          replace d0 : wr.cell? ⟨g', off' + k * 2, none⟩ = some (.string x) := by rw [HB.out.cell (show g' < _ by omega)]; exact d0
          replace d1 : wr.cell? ⟨g', off' + k * 2 + 1, none⟩ = some (.int .i64 y) := by rw [HB.out.cell (show g' < _ by omega)]; exact d1
          have hro := HPO.out (x, y) (List.mem_of_getElem? hx)
          have hkey : keyOf Tryz.prog 9 (.string x) = some (keyS x) := keyS_of hro.1
          have hwf := wf_int hro.2.1 hro.2.2
          have htk := HTI.out k
          have HX := Lib.hid (preR_snoc (ss := ss) (i := i) hx)
          clear hx hro
          have hownA := World.ownsMap.alloc HO.out (.cells #[.string x, .int .i64 y] 36)
          go_wp2_with (first
            | (at_mapUpdate; refine wpList_mapUpdate_own _ rfl _ _ _ 112 rfl 9 3 lawStr Tryz.underlying112 _ w.heap.size _ _ rfl hownA (by unfold maxLen; omega) _ _ _ rfl rfl hkey _ [] (plainElem_int Tryz.underlying3 hwf) ?_)
            | go_in)
          intro w1 hown1 hgrow1
          have R1 := Lib.hid (show IsCol w1 w.heap.size (preR ss i rs (k + 1)) by rw [HX.out, IsCol, colD_snoc, List.length_append]; exact hown1)
          have R2 := Lib.hid ((HB.out.alloc HB.out.size (.cells #[.string x, .int .i64 y] 36)).grown hgrow1 (Nat.le_trans HB.out.size (by rw [size_alloc]; omega)) (fun j hj => by cases hj; exact Nat.le_refl _))
          clear hown1 hgrow1 hownA hkey
          go_wp2
          go_roundw
          case rel => exact ⟨k + 1, by omega, by go_num, R1.out, R2.out⟩
          case measure => simp [intOf]; omega
        · have hkn : k = sn := by omega
          subst hkn
          have HY := Lib.hid (show IsCol wr w.heap.size (flatR (ss.take (i + 1))) by rw [← preR_full HP.out HM.out.symm]; exact HO.out)
          go_wp2
          go_roundw
          case rel => exact ⟨i + 1, by omega, by go_num, HY.out, HB.out⟩
          case measure => simp [intOf]; omega
    · have hjn : i = n := by omega
      subst hjn
      have HY := Lib.hid (show IsCol wr w.heap.size (flatR ss) by have := HO.out; rwa [flatR_full HN.out.symm] at this)
      go_wp2
      go_ret
      exact ⟨rfl, HY.out, HB.out⟩

set_option maxRecDepth 100000 in
set_option maxHeartbeats 4000000 in
theorem colorOf_impl (v : Value) (ss : List Shv) (nm : ByteArray) (hnm : nm.size ≤ 9223372036854775807) (w : World) (h : ReadH w.heap.size w v ss) (hn : ss.length ≤ 1099511627776) (hr : ∀ p ∈ ss, p.1.length ≤ 1099511627776) (hok : ∀ p ∈ ss, ∀ r ∈ p.1, RuOk r) (htot : (flatR ss).length ≤ 1099511627776) :
    Calls Tryz.prog 17 #[v, .string nm] w fun e w' => e = .returned (.int .i64 (colOf (flatR ss) nm)) ∧ Below w.heap.size w w' := by
  obtain ⟨a, cap, rfl, hc1, hc2⟩ := h.form
  have HCM := Lib.hid (colors_any _ ss w h hn hr hok htot)
  have hkey : keyOf Tryz.prog 9 (.string nm) = some (keyS nm) := keyS_of hnm
  clear h hr hok htot
  go_enter Tryz.func17, Tryz.ntmps17
  go_wp2_with (first
    | (go_at_call 75; refine HCM.out.mono ?_; rintro e w1 ⟨rfl, hcol, hb⟩)
    | (at_lookup; refine wpList_lookup_own_int _ rfl _ _ 112 rfl 9 3 .i64 lawStr Tryz.underlying112 Tryz.underlying3 (zeroInt _) _ _ _ rfl hcol _ _ rfl hkey ?_; intro c hat hwc))
  obtain rfl : colOf (flatR ss) nm = c := numS_inj ((colD_at _ _).symm.trans hat)
  go_ret
  exact ⟨rfl, hb⟩
end Go.Proofs.YtgcdfkpidcdicaaGreatDoor
