/- ParseSheet of the program: the first eight rules of the string. Asked: as for one rule. -/
import Derived.Test.YtmlmiclgledcpaaDoorPsI
import Derived.Test.YtmlmiclgledcpaaDoorAppU
namespace Go.Proofs.YtmlmiclgledcpaaDoor
open Go.ChangeShapes Go.WideShapes Go.ChangeAt Go.RowKit

/-- The rules of a sheet's form. -/
def prsS (s : ByteArray) : List Ru := ((splS 59 s.data.toList).filterMap prsR).take 8
theorem filter_take {ps : List ByteArray} {j : Nat} {p : ByteArray} (h : ps[j]? = some p) : (ps.take (j + 1)).filterMap prsR = (ps.take j).filterMap prsR ++ (prsR p).toList := by
  rw [show ps.take (j + 1) = ps.take j ++ [p] by rw [List.take_add_one, h]; rfl, List.filterMap_append]
  cases hp : prsR p <;> simp [hp]
theorem piece_size {c : UInt8} {s p : ByteArray} (h : p ∈ splS c s.data.toList) : p.size ≤ s.size := by
  unfold splS at h
  obtain ⟨l, hl, rfl⟩ := List.mem_map.1 h
  have := splitB_piece hl
  rw [size_list] at this
  rw [ofL_size]; exact this
/-- What ParseSheet answers. -/
def SheetForm (rs : List Ru) (X : World) (e : Ending) (w' : World) : Prop :=
  ∃ a n c, e = .returned (.agg #[.slice a n c]) ∧ MineK encU 2 42 X.heap.size X w' (.slice a n c) rs
/-- What stands in the program's loop. -/
structure PI (w wr : World) (v : Value) (xs : List Ru) (lo : Nat) (kv : Value) (N : List ByteArray) : Prop where
  m : MineK encU 2 42 w.heap.size w wr v xs
  k : OwnK encS 1 9 lo wr.heap.size wr kv N
  x : wr.heap[w.heap.size]? = some (.cells #[.slice none 0 0] 24 (0, 0))
theorem PI.later {w wr w' : World} {v kv : Value} {xs : List Ru} {lo : Nat} {N : List ByteArray} (h : PI w wr v xs lo kv N) (hb : Below wr.heap.size wr w') : PI w w' v xs lo kv N :=
  ⟨h.m.later hb, (h.k.later hb).mono (Nat.le_refl _) hb.size, below_heap hb (heap_lt h.x) h.x⟩
theorem PI.app {w w1 w' : World} {v v' kv : Value} {xs xs' : List Ru} {lo : Nat} {N : List ByteArray} (h : PI w w1 v xs lo kv N) (hm : MineK encU 2 42 w.heap.size w w' v' xs') (hg : w1.grownBy w' v.ownBlock) : PI w w' v' xs' lo kv N := by
  refine ⟨hm, ⟨h.k.1.kept hg ?_, fun g hb => Nat.lt_of_lt_of_le (h.k.2 g hb) hg.size⟩, (hg.block _ (heap_lt h.x) (row_ne_box h.m.row h.x ru_ne.1)).trans h.x⟩
  cases hv : kv.ownBlock with
  | none => exact Or.inl rfl
  | some g =>
    right
    intro e
    exact rows_ne h.m.row h.k.1 ru_ne.2 e.symm hv

set_option maxRecDepth 100000 in
set_option maxHeartbeats 4000000 in
theorem psheet_impl (s : ByteArray) (hs : s.size ≤ 1048576) (w : World) (hL : Laid w) :
    Calls Tryd.prog 6 #[.string s] w (SheetForm (prsS s) w) := by
  obtain ⟨W0, hW0⟩ : ∃ W, (w.alloc (.cells #[.slice none 0 0] 24)).alloc (.cells #[] 42) = W := ⟨_, rfl⟩
  have hb1 : Below w.heap.size w (w.alloc (.cells #[.slice none 0 0] 24)) := (Below.refl _ _).alloc (Nat.le_refl _) _
  have hb2 : Below (w.alloc (.cells #[.slice none 0 0] 24)).heap.size (w.alloc (.cells #[.slice none 0 0] 24)) W0 := by rw [← hW0]; exact (Below.refl _ _).alloc (Nat.le_refl _) _
  have hb0 : Below w.heap.size w W0 := hb1.trans (hb2.mono (by rw [size_alloc]; omega))
  have hx0 : W0.heap[w.heap.size]? = some (.cells #[.slice none 0 0] 24 (0, 0)) := below_heap hb2 (by rw [size_alloc]; omega) (MapKept.heap_alloc w _).1
  have hm0 : MineK encU 2 42 w.heap.size w W0 (.slice (some ⟨w.heap.size + 1, 0, none⟩) 0 0) [] := by
    rw [← hW0, ← size_alloc w (.cells #[.slice none 0 0] 24)]
    exact MineK.empty encU 2 _ w _ _ hb1 (by rw [size_alloc]; omega)
  obtain ⟨ps, hps⟩ : ∃ ps, splS 59 s.data.toList = ps := ⟨_, rfl⟩
  have hpz : ∀ p ∈ ps, p.size ≤ 1048576 := fun p hp => by rw [← hps] at hp; exact Nat.le_trans (piece_size hp) hs
  have hpl : ps.length ≤ 1048577 := by have := splS_len 59 s.data.toList; rw [hps, size_list] at this; omega
  have HSP := Lib.hid (show Calls Tryd.prog 18 #[.string s, .string ⟨#[59]⟩] W0 (NewK encS 1 9 ps W0) from by rw [← hps]; exact split_any s 59 (by omega) W0)
  have hgoal : prsS s = (ps.filterMap prsR).take 8 := by rw [prsS, hps]
  rw [hgoal]
  have HX0 := Lib.hid hx0; have HM0 := Lib.hid hm0; have HB0 := Lib.hid hb0; have HW0 := Lib.hid hW0; have HL := Lib.hid (fun (X : World) (hb : Below w.heap.size w X) => laid_on hL hb); have HPZ := Lib.hid hpz
  clear hb1 hb2 hb0 hx0 hm0 hps hpz hgoal hW0 hL hs
  go_enter Tryd.func6, Tryd.ntmps6
  go_wp2_with fail
  rw [HW0.out]
  refine HSP.out.mono ?_
  rintro e W1 ⟨kv, rfl, hk, hb⟩
  have hP : PI w W1 (.slice (some ⟨w.heap.size + 1, 0, none⟩) 0 0) (((ps.take 0).filterMap prsR).take 8) W0.heap.size kv ps := ⟨HM0.out.later hb, hk, below_heap hb (heap_lt HX0.out) HX0.out⟩
  obtain ⟨ka, kc, rfl, hkc1, hkc2⟩ : ∃ a c, kv = .slice a ps.length c ∧ ps.length ≤ c ∧ c ≤ 9223372036854775807 := by
    obtain ⟨a, c, e, h1, h2, _⟩ := hk.reads encS_len
    exact ⟨a, c, e, h1, h2⟩
  obtain ⟨n, hn⟩ : ∃ n, ps.length = n := ⟨_, rfl⟩
  rw [hn] at hP hkc1 hpl ⊢
  have HN := Lib.hid hn; have HP := Lib.hid hP
  clear hn hP hk hb HM0 HX0 HSP
  go_wp2_with fail
  go_loopw [12, 3] (fun i q wr => ∃ (j : Nat) (xa : Option Addr) (xn xc : Nat), j ≤ n ∧ i = .int .i64 j ∧ q = .slice xa xn xc ∧ PI w wr (.slice xa xn xc) (((ps.take j).filterMap prsR).take 8) W0.heap.size (.slice ka n kc) ps)
    (fun i _ _ => n - (intOf i).toNat)
  case atStart => exact ⟨0, _, _, _, Nat.zero_le _, rfl, rfl, HP.out⟩
  case round =>
    obtain ⟨j, xa, xn, xc, hj, rfl, rfl, hP⟩ := hrel
    clear HP
    have HP := Lib.hid hP; clear hP
    by_cases hlt : (j : Int) < (n : Int)
    · obtain ⟨p, hpj⟩ : ∃ p, ps[j]? = some p := ⟨_, List.getElem?_eq_getElem (by rw [HN.out]; omega)⟩
      obtain ⟨g, off, rfl, hg, c0⟩ := (HP.out.k.reads encS_len).str hpj
      have HF := Lib.hid (filter_take hpj)
      have HRU := Lib.hid (rule_impl p (by have := HPZ.out p (List.mem_of_getElem? hpj); omega) wr (HL.out wr HP.out.m.below))
      obtain ⟨fs, hfs⟩ : ∃ fs, (ps.take j).filterMap prsR = fs := ⟨_, rfl⟩
      rw [hfs] at HF HP
      obtain ⟨ya, yc, hv, hx1, hx2⟩ := mineU_form HP.out.m
      injection hv with e1 e2 e3
      clear e1 e3 hfs
      have HXL := Lib.hid (show xn = min 8 fs.length by rw [e2, List.length_take])
      clear e2 hpj
      obtain ⟨r, hr⟩ : ∃ r, prsR p = r := ⟨_, rfl⟩
      rw [hr] at HRU HF
      clear hr
      cases r with
      | none =>
        have HF2 := Lib.hid (show (((ps.take (j + 1)).filterMap prsR).take 8) = fs.take 8 by rw [HF.out]; simp)
        unfold ruleV at HRU
        go_wp2_with (go_at_call 19; refine HRU.out.mono ?_; rintro e w2 ⟨rfl, hb2⟩)
        have HP2 := Lib.hid (HP.out.later (hb2.alloc hb2.size (.cells #[.string ⟨#[]⟩, .int .i64 0] 42)))
        clear hb2
        go_roundw
        case rel => exact ⟨j + 1, _, _, _, by omega, by go_num, rfl, by rw [HF2.out]; exact HP2.out⟩
        case measure => simp [intOf]; omega
      | some r =>
        obtain ⟨nm, c⟩ := r
        unfold ruleV at HRU
        go_wp2_with fail
        refine HRU.out.mono ?_
        rintro e w2 ⟨rfl, hb2⟩
        have HP2 := Lib.hid (HP.out.later hb2)
        have HP3 := Lib.hid (HP2.out.later ((Below.refl _ _).alloc (Nat.le_refl _) (.cells #[.string nm, .int .i64 c] 42)))
        clear hb2
        by_cases hfull : fs.length < 8
        · have hx8 : (xn : Int) < 8 := by have := HXL.out; omega
          have hx8d : decide ((xn : Int) < 8) = true := decide_eq_true hx8
          have HF2 := Lib.hid (show (((ps.take (j + 1)).filterMap prsR).take 8) = fs.take 8 ++ [(nm, c)] by
            rw [HF.out, Option.toList_some, List.take_of_length_le (show (fs ++ [(nm, c)]).length ≤ 8 by rw [List.length_append, List.length_singleton]; omega), List.take_of_length_le (by omega)])
          have HA := Lib.hid (HP3.out.later ((Below.refl _ _).alloc (Nat.le_refl _) (.cells #[.string nm, .int .i64 c] 42)))
          have HR := Lib.hid (readsU_at (w2.alloc (.cells #[.string nm, .int .i64 c] 42)) (w2.heap.size + 1) (size_alloc _ _) nm c)
          go_wp2_with (at_builtin; refine wpList_appUG rfl _ _ rfl w.heap.size w _ _ rfl HA.out.m _ _ [(nm, c)] rfl HR.out ?cl ?_)
          case cl => rw [List.length_take, List.length_singleton]; omega
          intro v' w' hm hgr
          obtain ⟨ya, yn, yc, rfl⟩ : ∃ a n c, v' = .slice a n c := by
            obtain ⟨a, c, e, _⟩ := mineU_form hm
            exact ⟨a, _, c, e⟩
          rw [← HF2.out] at hm
          have HP4 := Lib.hid (HA.out.app hm hgr)
          clear hm hgr
          go_wp2_with fail
          go_roundw
          case rel => exact ⟨j + 1, _, _, _, by omega, by go_num, rfl, HP4.out⟩
          case measure => simp [intOf]; omega
        · have hx8 : ¬ (xn : Int) < 8 := by have := HXL.out; omega
          have hx8d : decide ((xn : Int) < 8) = false := decide_eq_false hx8
          have HF2 := Lib.hid (show (((ps.take (j + 1)).filterMap prsR).take 8) = fs.take 8 by
            rw [HF.out, List.take_append_of_le_length (by omega)])
          go_wp2_with fail
          go_roundw
          case rel => exact ⟨j + 1, _, _, _, by omega, by go_num, rfl, by rw [HF2.out]; exact HP3.out⟩
          case measure => simp [intOf]; omega
    · have hjn : j = n := by omega
      subst hjn
      have hx := HP.out.x
      have q0 := box_cell hx (j := 0) rfl
      have z0 := box_frz hx 0
      have hq := heap_one (o := 0) hx (.slice xa xn xc)
      have qf := box_cell hq (j := 0) rfl
      have HM := Lib.hid (show MineK encU 2 42 w.heap.size w (wr.setCell ⟨w.heap.size, 0, none⟩ (.slice xa xn xc)) (.slice xa xn xc) ((ps.filterMap prsR).take 8) by
        have hm := HP.out.m
        rw [List.take_of_length_le (show ps.length ≤ j by rw [HN.out]; exact Nat.le_refl _)] at hm
        exact ⟨(ownK_setT hm.own hx ru_ne.1).1, hm.below.setCell (Nat.le_refl _) _, Nat.le_trans hm.size (size_set _ _ _)⟩)
      clear hx hq
      go_wp2_with fail
      refine bodyPost_ret (v := .agg #[.slice xa xn xc]) (by simp [results, Tryd.results6, go_sem, qf]) rfl ?_
      exact ⟨_, _, _, rfl, HM.out⟩
end Go.Proofs.YtmlmiclgledcpaaDoor
