/- Helper contracts: CountName and TextOf of the program and of the model. Asked: the builder lies in memory as named. Helper contracts: EqualBuilders of the program and of the model answer alike: whether the builders are equal. Asked: they lie in memory as named. Helper contracts: FitsKind, SizeResponse and NotFound of the program and of the model answer alike. Helper contracts: findServer, findFile, AnswerTo of the program and of the model. Asked: the servers lie in memory as named, and are fewer than 2^40. Helper contract: IsServer of the program. Asked: the server lies in memory as named, its strings are no longer than 2^20; the library's MaxLen holds what its initialiser laid. Helper contract: AreServers of the program. Asked: the servers lie in memory as named, few and short; the library's MaxLen holds what its initialiser laid. Helper contract: IsServer of the model. Asked: the server lies in memory as named, its strings are no longer than 2^20. Helper contract: AreServers of the model. Asked: the servers lie in memory as named, few and short. IsServer and AreServers of model and program over copies that a law makes. Helper facts, no claim of its own. The walk of the law FnExactIsServer: it returns true, and writes nothing that was there. The walk of the law FnExactAreServers: it returns true, and writes nothing that was there. A row with listed variables whose call also leans on the shape of the world it begins in: both facts handed to the walk. Helper fact, no claim of its own. -/
import Derived.Test.YtpkicliimhflgaaDoorMb8
import Derived.Test.YtpkicliimhflgaaDoorMb4
import Derived.Shelf.SlSortCmp.QuietGrown
import Derived.Test.YtpkicliimhflgaaDoorMb1
import Derived.Deep.CutRange
import Derived.Test.YtpkicliimhflgaaDoorMb5
import Derived.Deep.RegionHeld3
import Derived.Deep.RegionWith
import Derived.Test.YtpkicliimhflgaaDoorRows
import Derived.Handed
import Derived.LaidMore
namespace Go.Proofs.YtpkicliimhflgaaDoor

open Go.ChangeShapes Go.WideShapes Go.ChangeAt Go.RowKit

theorem count_more {ns : List Nd} {s : ByteArray} {k : Nat} {x : Nd} (h : ns[k]? = some x) : countName (ns.take (k + 1)) s = countName (ns.take k) s + (if (x.name.toList == s.toList) = true then 1 else 0) := by
  induction ns generalizing k with
  | nil => simp at h
  | cons y ns ih =>
    cases k with
    | zero =>
      have : y = x := by simpa using h
      subst this
      simp [countName]
    | succ k =>
      rw [List.take_succ_cons, List.take_succ_cons, countName, countName, ih (by simpa using h)]; omega
theorem count_le : ∀ (ns : List Nd) (s : ByteArray), countName ns s ≤ ns.length
  | [], s => Nat.le_refl _
  | x :: ns, s => by
    have := count_le ns s
    rw [countName, List.length_cons]; split <;> omega
theorem map_fst_at {ns : List Nv} {l : List Nd} (h : ns.map Prod.fst = l) {k : Nat} {p : Nv} (hp : ns[k]? = some p) : l[k]? = some p.1 := by
  subst h; rw [List.getElem?_map, hp]; rfl

end Go.Proofs.YtpkicliimhflgaaDoor
namespace Go.Proofs.YtpkicliimhflgaaDoor
open Go.ChangeShapes Go.WideShapes Go.ChangeAt Go.RowKit

theorem eq_pre {xs ys : List Int} (hl : xs.length = ys.length) (h : ∀ j, j < xs.length → xs.getD j 0 = ys.getD j 0) : xs = ys := by
  apply List.ext_getElem?
  intro j
  by_cases hj : j < xs.length
  · rw [getD_at hj, getD_at (by omega), h j hj]
  · rw [List.getElem?_eq_none (by omega), List.getElem?_eq_none (by omega)]
def Pre (xs ys : List Int) (k : Nat) : Prop := ∀ j, j < k → xs.getD j 0 = ys.getD j 0
theorem Pre.step {xs ys : List Int} {k : Nat} (h : Pre xs ys k) (e : xs.getD k 0 = ys.getD k 0) : Pre xs ys (k + 1) := by
  intro j hj
  by_cases hjk : j = k
  · subst hjk; exact e
  · exact h j (by omega)
/-- The first k elements are equal. -/
def PreL {α : Type} (xs ys : List α) (k : Nat) : Prop := ∀ j, j < k → xs[j]? = ys[j]?
theorem PreL.zero {α : Type} (xs ys : List α) : PreL xs ys 0 := fun _ h => absurd h (Nat.not_lt_zero _)
theorem PreL.step {α : Type} {xs ys : List α} {k : Nat} (h : PreL xs ys k) (e : xs[k]? = ys[k]?) : PreL xs ys (k + 1) := by
  intro j hj
  by_cases hjk : j = k
  · subst hjk; exact e
  · exact h j (by omega)
theorem PreL.full {α : Type} {xs ys : List α} {k : Nat} (h : PreL xs ys k) (hx : xs.length = k) (hy : ys.length = k) : xs = ys := by
  apply List.ext_getElem?
  intro j
  by_cases hj : j < k
  · exact h j hj
  · rw [List.getElem?_eq_none (by omega), List.getElem?_eq_none (by omega)]
theorem ret_d {p : Prop} [Decidable p] {b : Bool} (h : b = decide p) : Ending.returned (.bool b) = .returned (.bool (decide p)) := by rw [h]

theorem nd_ne {x y : Nd} (h : x.name ≠ y.name ∨ x.text ≠ y.text ∨ x.parent ≠ y.parent ∨ x.attrs ≠ y.attrs) : x ≠ y := by
  rintro rfl
  rcases h with h | h | h | h <;> exact h rfl
theorem nd_eq {x y : Nd} (h1 : x.name = y.name) (h2 : x.text = y.text) (h3 : x.parent = y.parent) : decide (x = y) = decide (x.attrs = y.attrs) := by
  cases x; cases y
  simp only at h1 h2 h3
  subst h1; subst h2; subst h3
  exact decide_eq_decide.2 ⟨fun h => congrArg Nd.attrs h, fun h => by cases h; rfl⟩

end Go.Proofs.YtpkicliimhflgaaDoor
namespace Go.Proofs.YtpkicliimhflgaaDoor
open Go.ChangeShapes Go.WideShapes Go.ChangeAt Go.RowKit

def fitB (kd k : Int) : Bool := decide (kd = k) || (decide (k = 5) && decide (kd = 2))
theorem fit_eq {kd k : Int} (h : kd = k) : fitB kd k = true := by unfold fitB; rw [decide_eq_true h]; rfl
theorem fit_not {kd k : Int} (h : kd ≠ k) (h5 : k ≠ 5) : fitB kd k = false := by unfold fitB; rw [decide_eq_false h, decide_eq_false h5]; rfl
theorem fit_yes {kd k : Int} (h5 : k = 5) (h2 : kd = 2) : fitB kd k = true := by unfold fitB; rw [decide_eq_true h5, decide_eq_true h2]; simp
theorem fit_no {kd k : Int} (h : kd ≠ k) (h2 : kd ≠ 2) : fitB kd k = false := by unfold fitB; rw [decide_eq_false h, decide_eq_false h2]; simp

end Go.Proofs.YtpkicliimhflgaaDoor
namespace Go.Proofs.YtpkicliimhflgaaDoor
open Go.ChangeShapes Go.WideShapes Go.ChangeAt Go.RowKit

set_option maxRecDepth 100000 in
set_option maxHeartbeats 4000000 in
theorem host_clo (p_a : ByteArray) (sa : Option Addr) (sn sc : Nat) (h : ByteArray) (b : Nat) (w : World) (hc : w.cell? ⟨b, 0, none⟩ = some (.string h)) :
    Calls Tryd.prog 50 #[.agg #[.string p_a, .slice sa sn sc], .pointer (some ⟨b, 0, none⟩)] w fun e w' => e = .returned (.bool (decide (p_a = h))) ∧ Grw w w' := by
  have HG := Lib.hid ((Grw.refl w).alloc (.cells #[.string p_a, .slice sa sn sc] 29))
  have hc2 : (w.alloc (.cells #[.string p_a, .slice sa sn sc] 29)).cell? ⟨b, 0, none⟩ = some (.string h) := by rw [((Below.refl _ w).alloc (Nat.le_refl _) _).cell (World.block_lt_of_cell? _ _ hc)]; exact hc
  clear hc
  by_cases hh : p_a = h
  · have e1 : (p_a.toList == h.toList) = true := beqL_yes hh
    have HD := Lib.hid (decide_eq_true hh); clear hh
    go_enter Tryd.func50, Tryd.ntmps50
    go_wp2_with fail
    go_ret
    exact ⟨ret_b (by rw [HD.out]), HG.out⟩
  · have e1 : (p_a.toList == h.toList) = false := beqL_no hh
    have HD := Lib.hid (decide_eq_false hh); clear hh
    go_enter Tryd.func50, Tryd.ntmps50
    go_wp2_with fail
    go_ret
    exact ⟨ret_b (by rw [HD.out]), HG.out⟩

set_option maxRecDepth 100000 in
set_option maxHeartbeats 4000000 in
theorem path_clo (p_a : ByteArray) (f_s f_k : Int) (f_b : ByteArray) (f_a : Int) (f_h : Bool) (f_o : ByteArray) (h : ByteArray) (b : Nat) (w : World) (hc : w.cell? ⟨b, 0, none⟩ = some (.string h)) :
    Calls Tryd.prog 55 #[.agg #[.string p_a, .int .i64 f_s, .int .i64 f_k, .string f_b, .int .i64 f_a, .bool f_h, .string f_o], .pointer (some ⟨b, 0, none⟩)] w fun e w' => e = .returned (.bool (decide (p_a = h))) ∧ Grw w w' := by
  have HG := Lib.hid ((Grw.refl w).alloc (.cells #[.string p_a, .int .i64 f_s, .int .i64 f_k, .string f_b, .int .i64 f_a, .bool f_h, .string f_o] 57))
  have hc2 : (w.alloc (.cells #[.string p_a, .int .i64 f_s, .int .i64 f_k, .string f_b, .int .i64 f_a, .bool f_h, .string f_o] 57)).cell? ⟨b, 0, none⟩ = some (.string h) := by rw [((Below.refl _ w).alloc (Nat.le_refl _) _).cell (World.block_lt_of_cell? _ _ hc)]; exact hc
  clear hc
  by_cases hh : p_a = h
  · have e1 : (p_a.toList == h.toList) = true := beqL_yes hh
    have HD := Lib.hid (decide_eq_true hh); clear hh
    go_enter Tryd.func55, Tryd.ntmps55
    go_wp2_with fail
    go_ret
    exact ⟨ret_b (by rw [HD.out]), HG.out⟩
  · have e1 : (p_a.toList == h.toList) = false := beqL_no hh
    have HD := Lib.hid (decide_eq_false hh); clear hh
    go_enter Tryd.func55, Tryd.ntmps55
    go_wp2_with fail
    go_ret
    exact ⟨ret_b (by rw [HD.out]), HG.out⟩

set_option maxRecDepth 100000 in
set_option maxHeartbeats 4000000 in
theorem index_host (v : Value) (xs : List Se) (h : ByteArray) (b : Nat) (w : World) (hv : ReadV w.heap.size w v xs) (hc : w.cell? ⟨b, 0, none⟩ = some (.string h)) (hl : xs.length ≤ 1099511627776) :
    Calls Tryd.prog 49 #[v, .func (.func 50) #[] #[.pointer (some ⟨b, 0, none⟩)]] w fun e w' => e = .returned (.int .i64 (ixV (fdS (xs.map Prod.fst) h) xs.length)) ∧ Grw w w' := by
  obtain ⟨a, cap, rfl, hc1, hc2⟩ := hv.form
  obtain ⟨n, hn⟩ : ∃ n, xs.length = n := ⟨_, rfl⟩
  obtain ⟨R, hR⟩ : ∃ R, ixV (fdS (xs.map Prod.fst) h) n = R := ⟨_, rfl⟩
  rw [hn] at hv hc1 hl ⊢; rw [hR]
  have HV := Lib.hid hv; have HN := Lib.hid hn; have HR := Lib.hid hR; have HC := Lib.hid hc; have HBL := Lib.hid (World.block_lt_of_cell? _ _ hc)
  clear hv hn hR hc
  go_enter Tryd.func49, Tryd.ntmps49
  go_wp2
  go_loopw [8] (fun i wr => ∃ (k : Nat), k ≤ n ∧ i = .int .i64 k ∧ NoneTo (isHost h) (xs.map Prod.fst) k ∧ Grw w wr)
    (fun i _ => n - (intOf i).toNat)
  case atStart => exact ⟨0, Nat.zero_le _, rfl, NoneTo.zero _ _, Grw.refl _⟩
  case round =>
    obtain ⟨k, hk, rfl, hp, hs⟩ := hrel
    have HS := Lib.hid hs; have HP := Lib.hid hp
    clear hs hp
    by_cases hlt : (k : Int) < (n : Int)
    · obtain ⟨p, hp⟩ := se_at (ss := xs) (j := k) (by rw [HN.out]; omega)
      obtain ⟨g, off, rfl, hg, c0, c1⟩ := HV.out.at hp
      have HPF := Lib.hid (fd_mapS xs k p hp)
      obtain ⟨⟨p_a, fs⟩, ⟨sa, sn, sc⟩⟩ := p
      replace c0 : wr.cell? ⟨g, off + k * 2, none⟩ = some (.string p_a) := by rw [HS.out.below.cell (show g < _ by omega)]; exact c0
      replace c1 : wr.cell? ⟨g, off + k * 2 + 1, none⟩ = some (.slice sa sn sc) := by rw [HS.out.below.cell (show g < _ by omega)]; exact c1
      have HE := Lib.hid (host_clo p_a sa sn sc h b wr (by rw [HS.out.below.cell HBL.out]; exact HC.out))
      have HI := Lib.hid (show isHost h (p_a, fs) = decide (p_a = h) from rfl)
      clear hp
      obtain ⟨D, hD⟩ : ∃ D, decide (p_a = h) = D := ⟨_, rfl⟩
      rw [hD] at HE HI; clear hD
      cases D with
      | true =>
        have HQ := Lib.hid (HP.out.hit HPF.out HI.out)
        go_wp2_with (go_at_call 50; refine HE.out.mono ?_; rintro e w1 ⟨rfl, hg1⟩)
        have HG1 := Lib.hid (HS.out.trans hg1); clear hg1
        go_ret
        exact ⟨ret_ix (by rw [← HR.out]; unfold fdS; rw [HQ.out, ixV_hit (by omega)]), HG1.out⟩
      | false =>
        have HQ := Lib.hid (HP.out.step HPF.out HI.out)
        go_wp2_with (go_at_call 50; refine HE.out.mono ?_; rintro e w1 ⟨rfl, hg1⟩)
        have HG1 := Lib.hid (HS.out.trans hg1); clear hg1
        go_roundw
        case rel => exact ⟨k + 1, by omega, by go_num, HQ.out, HG1.out⟩
        case measure => simp [intOf]; omega
    · have hkn : k = n := by omega
      subst hkn
      have HE := Lib.hid (show fdS (xs.map Prod.fst) h = k from by have h1 := HP.out; have h2 := HN.out; rw [← List.length_map (f := Prod.fst)] at h2; subst h2; exact h1.full)
      go_wp2
      go_ret
      exact ⟨ret_ix (by rw [← HR.out, HE.out, ixV_no]), HS.out⟩

set_option maxRecDepth 100000 in
set_option maxHeartbeats 4000000 in
theorem index_path (v : Value) (xs : List Fl) (h : ByteArray) (b : Nat) (w : World) (hv : ReadsK encF 7 w.heap.size w v xs) (hc : w.cell? ⟨b, 0, none⟩ = some (.string h)) (hl : xs.length ≤ 1099511627776) :
    Calls Tryd.prog 54 #[v, .func (.func 55) #[] #[.pointer (some ⟨b, 0, none⟩)]] w fun e w' => e = .returned (.int .i64 (ixV (fdF xs h) xs.length)) ∧ Grw w w' := by
  obtain ⟨a, cap, rfl, hc1, hc2⟩ := hv.formF
  obtain ⟨n, hn⟩ : ∃ n, xs.length = n := ⟨_, rfl⟩
  obtain ⟨R, hR⟩ : ∃ R, ixV (fdF xs h) n = R := ⟨_, rfl⟩
  rw [hn] at hv hc1 hl ⊢; rw [hR]
  have HV := Lib.hid hv; have HN := Lib.hid hn; have HR := Lib.hid hR; have HC := Lib.hid hc; have HBL := Lib.hid (World.block_lt_of_cell? _ _ hc)
  clear hv hn hR hc
  go_enter Tryd.func54, Tryd.ntmps54
  go_wp2
  go_loopw [8] (fun i wr => ∃ (k : Nat), k ≤ n ∧ i = .int .i64 k ∧ NoneTo (isPath h) xs k ∧ Grw w wr)
    (fun i _ => n - (intOf i).toNat)
  case atStart => exact ⟨0, Nat.zero_le _, rfl, NoneTo.zero _ _, Grw.refl _⟩
  case round =>
    obtain ⟨k, hk, rfl, hp, hs⟩ := hrel
    have HS := Lib.hid hs; have HP := Lib.hid hp
    clear hs hp
    by_cases hlt : (k : Int) < (n : Int)
    · obtain ⟨p_a, f_s, f_k, f_b, f_a, f_h, f_o, hp⟩ := fl_at (xs := xs) (j := k) (by rw [HN.out]; omega)
      obtain ⟨g, off, rfl, hg, c0, c1, c2, c3, c4, c5, c6⟩ := HV.out.file hp
      have HPF := Lib.hid hp
      replace c0 : wr.cell? ⟨g, off + k * 7, none⟩ = some (.string p_a) := by rw [HS.out.below.cell (show g < _ by omega)]; exact c0
      replace c1 : wr.cell? ⟨g, off + k * 7 + 1, none⟩ = some (.int .i64 f_s) := by rw [HS.out.below.cell (show g < _ by omega)]; exact c1
      replace c2 : wr.cell? ⟨g, off + k * 7 + 2, none⟩ = some (.int .i64 f_k) := by rw [HS.out.below.cell (show g < _ by omega)]; exact c2
      replace c3 : wr.cell? ⟨g, off + k * 7 + 3, none⟩ = some (.string f_b) := by rw [HS.out.below.cell (show g < _ by omega)]; exact c3
      replace c4 : wr.cell? ⟨g, off + k * 7 + 4, none⟩ = some (.int .i64 f_a) := by rw [HS.out.below.cell (show g < _ by omega)]; exact c4
      replace c5 : wr.cell? ⟨g, off + k * 7 + 5, none⟩ = some (.bool f_h) := by rw [HS.out.below.cell (show g < _ by omega)]; exact c5
      replace c6 : wr.cell? ⟨g, off + k * 7 + 6, none⟩ = some (.string f_o) := by rw [HS.out.below.cell (show g < _ by omega)]; exact c6
      have HE := Lib.hid (path_clo p_a f_s f_k f_b f_a f_h f_o h b wr (by rw [HS.out.below.cell HBL.out]; exact HC.out))
      have HI := Lib.hid (show isPath h ⟨p_a, ⟨f_s, f_k, f_b, f_a, f_h, f_o⟩⟩ = decide (p_a = h) from rfl)
      clear hp
      obtain ⟨D, hD⟩ : ∃ D, decide (p_a = h) = D := ⟨_, rfl⟩
      rw [hD] at HE HI; clear hD
      cases D with
      | true =>
        have HQ := Lib.hid (HP.out.hit HPF.out HI.out)
        go_wp2_with (go_at_call 55; refine HE.out.mono ?_; rintro e w1 ⟨rfl, hg1⟩)
        have HG1 := Lib.hid (HS.out.trans hg1); clear hg1
        go_ret
        exact ⟨ret_ix (by rw [← HR.out]; unfold fdF; rw [HQ.out, ixV_hit (by omega)]), HG1.out⟩
      | false =>
        have HQ := Lib.hid (HP.out.step HPF.out HI.out)
        go_wp2_with (go_at_call 55; refine HE.out.mono ?_; rintro e w1 ⟨rfl, hg1⟩)
        have HG1 := Lib.hid (HS.out.trans hg1); clear hg1
        go_roundw
        case rel => exact ⟨k + 1, by omega, by go_num, HQ.out, HG1.out⟩
        case measure => simp [intOf]; omega
    · have hkn : k = n := by omega
      subst hkn
      have HE := Lib.hid (show fdF xs h = k from by have h1 := HP.out; have h2 := HN.out; subst h2; exact h1.full)
      go_wp2
      go_ret
      exact ⟨ret_ix (by rw [← HR.out, HE.out, ixV_no]), HS.out⟩

set_option maxRecDepth 100000 in
set_option maxHeartbeats 4000000 in
theorem findS_impl (v : Value) (xs : List Se) (h : ByteArray) (w : World) (hv : ReadV w.heap.size w v xs) (hl : xs.length ≤ 1099511627776) :
    Calls Tryd.prog 39 #[v, .string h] w fun e w' => e = .returned (.int .i64 (ixV (fdS (xs.map Prod.fst) h) xs.length)) ∧ Grw w w' := by
  have hmf : ∀ (fn : Fn) (first cap : Array Value) (w : World), (Instr.makeFunc fn first cap).run Tryd.prog w = .ok (.func fn first cap) w := fun _ _ _ _ => rfl
  obtain ⟨W, hW⟩ : ∃ W, w.alloc (.cells #[.string h] 9) = W := ⟨_, rfl⟩
  have HG := Lib.hid (show Grw w W by rw [← hW]; exact (Grw.refl w).alloc _)
  have HX := Lib.hid (index_host v xs h w.heap.size W (hv.up HG.out.below) (by rw [← hW]; simp) hl)
  obtain ⟨a, cap, rfl, _⟩ := hv.form
  obtain ⟨R, hR⟩ : ∃ R, ixV (fdS (xs.map Prod.fst) h) xs.length = R := ⟨_, rfl⟩
  rw [hR] at HX ⊢
  have HW := Lib.hid hW; clear hW hv hR
  go_enter Tryd.func39, Tryd.ntmps39
  go_wp2_with fail
  rw [HW.out]
  refine HX.out.mono ?_
  rintro e w1 ⟨rfl, hg1⟩
  go_wp2
  go_ret
  exact ⟨rfl, HG.out.trans hg1⟩

set_option maxRecDepth 100000 in
set_option maxHeartbeats 4000000 in
theorem findF_impl (v : Value) (xs : List Fl) (h : ByteArray) (w : World) (hv : ReadsK encF 7 w.heap.size w v xs) (hl : xs.length ≤ 1099511627776) :
    Calls Tryd.prog 46 #[v, .string h] w fun e w' => e = .returned (.int .i64 (ixV (fdF xs h) xs.length)) ∧ Grw w w' := by
  have hmf : ∀ (fn : Fn) (first cap : Array Value) (w : World), (Instr.makeFunc fn first cap).run Tryd.prog w = .ok (.func fn first cap) w := fun _ _ _ _ => rfl
  obtain ⟨W, hW⟩ : ∃ W, w.alloc (.cells #[.string h] 9) = W := ⟨_, rfl⟩
  have HG := Lib.hid (show Grw w W by rw [← hW]; exact (Grw.refl w).alloc _)
  have HX := Lib.hid (index_path v xs h w.heap.size W ((hv.below HG.out.below (Nat.le_refl _)).mono HG.out.below.size) (by rw [← hW]; simp) hl)
  obtain ⟨a, cap, rfl, _⟩ := hv.formF
  obtain ⟨R, hR⟩ : ∃ R, ixV (fdF xs h) xs.length = R := ⟨_, rfl⟩
  rw [hR] at HX ⊢
  have HW := Lib.hid hW; clear hW hv hR
  go_enter Tryd.func46, Tryd.ntmps46
  go_wp2_with fail
  rw [HW.out]
  refine HX.out.mono ?_
  rintro e w1 ⟨rfl, hg1⟩
  go_wp2
  go_ret
  exact ⟨rfl, HG.out.trans hg1⟩

set_option maxRecDepth 100000 in
set_option maxHeartbeats 4000000 in
theorem findS_spec (v : Value) (xs : List Se) (h : ByteArray) (w : World) (hv : ReadV w.heap.size w v xs) (hl : xs.length ≤ 1099511627776) :
    Calls Tryd.prog 32 #[v, .string h] w fun e w' => e = .returned (.int .i64 (ixV (fdS (xs.map Prod.fst) h) xs.length)) ∧ Grw w w' := by
  obtain ⟨a, cap, rfl, hc1, hc2⟩ := hv.form
  obtain ⟨n, hn⟩ : ∃ n, xs.length = n := ⟨_, rfl⟩
  obtain ⟨R, hR⟩ : ∃ R, ixV (fdS (xs.map Prod.fst) h) n = R := ⟨_, rfl⟩
  rw [hn] at hv hc1 hl ⊢; rw [hR]
  have HV := Lib.hid hv; have HN := Lib.hid hn; have HR := Lib.hid hR
  clear hv hn hR
  go_enter Tryd.func32, Tryd.ntmps32
  go_wp2
  go_loopw [5] (fun i wr => ∃ (k : Nat), k ≤ n ∧ i = .int .i64 k ∧ NoneTo (isHost h) (xs.map Prod.fst) k ∧ Grw w wr)
    (fun i _ => n - (intOf i).toNat)
  case atStart => exact ⟨0, Nat.zero_le _, rfl, NoneTo.zero _ _, Grw.refl _⟩
  case round =>
    obtain ⟨k, hk, rfl, hp, hs⟩ := hrel
    have HS := Lib.hid hs; have HP := Lib.hid hp
    clear hs hp
    by_cases hlt : (k : Int) < (n : Int)
    · obtain ⟨p, hp⟩ := se_at (ss := xs) (j := k) (by rw [HN.out]; omega)
      obtain ⟨g, off, rfl, hg, c0, c1⟩ := HV.out.at hp
      have HPF := Lib.hid (fd_mapS xs k p hp)
      obtain ⟨⟨p_a, fs⟩, ⟨sa, sn, sc⟩⟩ := p
      replace c0 : wr.cell? ⟨g, off + k * 2, none⟩ = some (.string p_a) := by rw [HS.out.below.cell (show g < _ by omega)]; exact c0
      clear c1
      have HI := Lib.hid (show isHost h (p_a, fs) = decide (p_a = h) from rfl)
      clear hp
      by_cases hh : p_a = h
      · have e1 : (p_a.toList == h.toList) = true := beqL_yes hh
        have HQ := Lib.hid (HP.out.hit HPF.out (HI.out.trans (decide_eq_true hh)))
        clear hh
        go_wp2
        go_ret
        exact ⟨ret_ix (by rw [← HR.out]; unfold fdS; rw [HQ.out, ixV_hit (by omega)]), HS.out⟩
      · have e1 : (p_a.toList == h.toList) = false := beqL_no hh
        have HQ := Lib.hid (HP.out.step HPF.out (HI.out.trans (decide_eq_false hh)))
        clear hh
        go_wp2
        go_roundw
        case rel => exact ⟨k + 1, by omega, by go_num, HQ.out, HS.out⟩
        case measure => simp [intOf]; omega
    · have hkn : k = n := by omega
      subst hkn
      have HE := Lib.hid (show fdS (xs.map Prod.fst) h = k from by have h1 := HP.out; have h2 := HN.out; rw [← List.length_map (f := Prod.fst)] at h2; subst h2; exact h1.full)
      go_wp2
      go_ret
      exact ⟨ret_ix (by rw [← HR.out, HE.out, ixV_no]), HS.out⟩

set_option maxRecDepth 100000 in
set_option maxHeartbeats 4000000 in
theorem findF_spec (h_n : ByteArray) (v : Value) (xs : List Fl) (h : ByteArray) (w : World) (hv : ReadsK encF 7 w.heap.size w v xs) (hl : xs.length ≤ 1099511627776) :
    Calls Tryd.prog 33 #[.agg #[.string h_n, v], .string h] w fun e w' => e = .returned (.int .i64 (ixV (fdF xs h) xs.length)) ∧ Grw w w' := by
  obtain ⟨a, cap, rfl, hc1, hc2⟩ := hv.formF
  obtain ⟨n, hn⟩ : ∃ n, xs.length = n := ⟨_, rfl⟩
  obtain ⟨R, hR⟩ : ∃ R, ixV (fdF xs h) n = R := ⟨_, rfl⟩
  rw [hn] at hv hc1 hl ⊢; rw [hR]
  obtain ⟨W, hW⟩ : ∃ W, w.alloc (.cells #[.string h_n, .slice a n cap] 29) = W := ⟨_, rfl⟩
  have hg0 : Grw w W := by rw [← hW]; exact (Grw.refl w).alloc _
  have hb1 : W.cell? ⟨w.heap.size, 1, none⟩ = some (.slice a n cap) := by rw [← hW]; simp
  have HG0 := Lib.hid hg0; have HW := Lib.hid hW; have HB1 := Lib.hid hb1; have HBS := Lib.hid (World.block_lt_of_cell? _ _ hb1); clear hg0 hW hb1
  have HV := Lib.hid hv; have HN := Lib.hid hn; have HR := Lib.hid hR
  clear hv hn hR
  go_enter Tryd.func33, Tryd.ntmps33
  go_wp2_with fail
  rw [HW.out]
  go_loopw [5] (fun i wr => ∃ (k : Nat), k ≤ n ∧ i = .int .i64 k ∧ NoneTo (isPath h) xs k ∧ Grw W wr)
    (fun i _ => n - (intOf i).toNat)
  case atStart => exact ⟨0, Nat.zero_le _, rfl, NoneTo.zero _ _, Grw.refl _⟩
  case round =>
    obtain ⟨k, hk, rfl, hp, hs⟩ := hrel
    have HS := Lib.hid (HG0.out.trans hs); have HP := Lib.hid hp
    have c8 : wr.cell? ⟨w.heap.size, 1, none⟩ = some (.slice a n cap) := by rw [hs.below.cell HBS.out]; exact HB1.out
    have HS0 := Lib.hid hs
    clear hs hp
    by_cases hlt : (k : Int) < (n : Int)
    · obtain ⟨p_a, f_s, f_k, f_b, f_a, f_h, f_o, hp⟩ := fl_at (xs := xs) (j := k) (by rw [HN.out]; omega)
      obtain ⟨g, off, rfl, hg, c0, _⟩ := HV.out.file hp
      have HPF := Lib.hid hp
      replace c0 : wr.cell? ⟨g, off + k * 7, none⟩ = some (.string p_a) := by rw [HS.out.below.cell (show g < _ by omega)]; exact c0
      have HI := Lib.hid (show isPath h ⟨p_a, ⟨f_s, f_k, f_b, f_a, f_h, f_o⟩⟩ = decide (p_a = h) from rfl)
      clear hp
      by_cases hh : p_a = h
      · have e1 : (p_a.toList == h.toList) = true := beqL_yes hh
        have HQ := Lib.hid (HP.out.hit HPF.out (HI.out.trans (decide_eq_true hh)))
        clear hh
        go_wp2
        go_ret
        exact ⟨ret_ix (by rw [← HR.out]; unfold fdF; rw [HQ.out, ixV_hit (by omega)]), HS.out⟩
      · have e1 : (p_a.toList == h.toList) = false := beqL_no hh
        have HQ := Lib.hid (HP.out.step HPF.out (HI.out.trans (decide_eq_false hh)))
        clear hh
        go_wp2
        go_roundw
        case rel => exact ⟨k + 1, by omega, by go_num, HQ.out, HS0.out⟩
        case measure => simp [intOf]; omega
    · have hkn : k = n := by omega
      subst hkn
      have HE := Lib.hid (show fdF xs h = k from by have h1 := HP.out; have h2 := HN.out; subst h2; exact h1.full)
      go_wp2
      go_ret
      exact ⟨ret_ix (by rw [← HR.out, HE.out, ixV_no]), HS.out⟩

end Go.Proofs.YtpkicliimhflgaaDoor
namespace Go.Proofs.YtpkicliimhflgaaDoor
open Go.ChangeShapes Go.WideShapes Go.ChangeAt Go.RowKit

set_option maxRecDepth 100000 in
set_option maxHeartbeats 4000000 in
theorem areF_impl (v : Value) (fs : List Fl) (w : World) (hv : ReadsK encF 7 w.heap.size w v fs) (hf : ∀ f ∈ fs, FlFew f) (hm : Max0 w) :
    Calls Tryd.prog 29 #[v] w fun e w' => e = .returned (.bool (decide (fs.length ≤ 10) && flsOk fs)) ∧ Below w.heap.size w w' := by
  have HM := Lib.hid hm; have HF := Lib.hid hf; clear hm hf
  obtain ⟨a, cap, rfl, hc1, hc2⟩ := hv.formF
  obtain ⟨n, hn⟩ : ∃ n, fs.length = n := ⟨_, rfl⟩
  obtain ⟨R, hR⟩ : ∃ R, (decide (n ≤ 10) && flsOk fs) = R := ⟨_, rfl⟩
  rw [hn] at hv hc1 ⊢; rw [hR]
  have HV := Lib.hid hv; have HN := Lib.hid hn; have HR := Lib.hid hR
  clear hv hn hR
  by_cases hl : (n : Int) ≤ 10
  · have hl2 : ¬ ((10 : Int) < (n : Int)) := by omega
    have hl3 : decide ((10 : Int) < (n : Int)) = false := decide_eq_false hl2
    have HL := Lib.hid (show decide (n ≤ 10) = true from decide_eq_true (by omega))
    go_enter Tryd.func29, Tryd.ntmps29
    go_wp2
    go_loopw [10] (fun i wr => ∃ (k : Nat), k ≤ n ∧ i = .int .i64 k ∧ (∀ i f, i < k → fs[i]? = some f → flGood fs f i = true) ∧ Below w.heap.size w wr)
      (fun i _ => n - (intOf i).toNat)
    case atStart => exact ⟨0, Nat.zero_le _, rfl, fun i f h => absurd h (Nat.not_lt_zero _), Below.refl _ _⟩
    case round =>
      obtain ⟨k, hk, rfl, hp, hs⟩ := hrel
      have HB := Lib.hid hs; have HP := Lib.hid hp
      clear hs hp
      by_cases hlt : (k : Int) < (n : Int)
      · obtain ⟨p_a, f_s, f_k, f_b, f_a, f_h, f_o, hp⟩ := fl_at (xs := fs) (j := k) (by rw [HN.out]; omega)
        obtain ⟨g, off, rfl, hg, c0, c1, c2, c3, c4, c5, c6⟩ := HV.out.file hp
        replace c0 : wr.cell? ⟨g, off + k * 7, none⟩ = some (.string p_a) := by rw [HB.out.cell (show g < _ by omega)]; exact c0
        replace c1 : wr.cell? ⟨g, off + k * 7 + 1, none⟩ = some (.int .i64 f_s) := by rw [HB.out.cell (show g < _ by omega)]; exact c1
        replace c2 : wr.cell? ⟨g, off + k * 7 + 2, none⟩ = some (.int .i64 f_k) := by rw [HB.out.cell (show g < _ by omega)]; exact c2
        replace c3 : wr.cell? ⟨g, off + k * 7 + 3, none⟩ = some (.string f_b) := by rw [HB.out.cell (show g < _ by omega)]; exact c3
        replace c4 : wr.cell? ⟨g, off + k * 7 + 4, none⟩ = some (.int .i64 f_a) := by rw [HB.out.cell (show g < _ by omega)]; exact c4
        replace c5 : wr.cell? ⟨g, off + k * 7 + 5, none⟩ = some (.bool f_h) := by rw [HB.out.cell (show g < _ by omega)]; exact c5
        replace c6 : wr.cell? ⟨g, off + k * 7 + 6, none⟩ = some (.string f_o) := by rw [HB.out.cell (show g < _ by omega)]; exact c6
        obtain ⟨z0, z3, z6⟩ := HF.out _ (List.mem_of_getElem? hp)
        replace z0 : p_a.size ≤ 1048576 := z0; replace z6 : f_o.size ≤ 1048576 := z6; clear z3
        have HPF := Lib.hid hp
        have hjk := fdF_le hp rfl
        replace hjk : fdF fs p_a ≤ k := hjk
        obtain ⟨j, hj⟩ : ∃ j, fdF fs p_a = j := ⟨_, rfl⟩
        rw [hj] at hjk
        have HJ := Lib.hid hj; clear hj hp
        have HIX := Lib.hid (show ixV (fdF fs p_a) fs.length = j by rw [HJ.out, HN.out]; exact ixV_hit (by omega))
        have HNM := Lib.hid (fun X => nm_impl p_a (by omega) X)
        have HRS := Lib.hid (fun X hx => isRs_impl f_s f_k f_b f_a f_h f_o z6 X hx)
        have HGD := Lib.hid (show flGood fs ⟨p_a, ⟨f_s, f_k, f_b, f_a, f_h, f_o⟩⟩ k = (isNm p_a && (isRs f_s f_k f_b f_a f_o && decide (k ≤ j))) by unfold flGood rsOk; rw [← HJ.out])
        clear z0 z6
        obtain ⟨W0, hW0⟩ : ∃ W, wr.alloc (.cells #[.string p_a, .int .i64 f_s, .int .i64 f_k, .string f_b, .int .i64 f_a, .bool f_h, .string f_o] 57) = W := ⟨_, rfl⟩
        have hb0 : Below wr.heap.size wr W0 := by rw [← hW0]; exact (Below.refl _ _).alloc (Nat.le_refl _) _
        have q0 : W0.cell? ⟨wr.heap.size, 0, none⟩ = some (.string p_a) := by rw [← hW0]; simp
        have q1 : W0.cell? ⟨wr.heap.size, 1, none⟩ = some (.int .i64 f_s) := by rw [← hW0]; simp
        have q2 : W0.cell? ⟨wr.heap.size, 2, none⟩ = some (.int .i64 f_k) := by rw [← hW0]; simp
        have q3 : W0.cell? ⟨wr.heap.size, 3, none⟩ = some (.string f_b) := by rw [← hW0]; simp
        have q4 : W0.cell? ⟨wr.heap.size, 4, none⟩ = some (.int .i64 f_a) := by rw [← hW0]; simp
        have q5 : W0.cell? ⟨wr.heap.size, 5, none⟩ = some (.bool f_h) := by rw [← hW0]; simp
        have q6 : W0.cell? ⟨wr.heap.size, 6, none⟩ = some (.string f_o) := by rw [← hW0]; simp
        replace HB := Lib.hid (HB.out.trans (hb0.mono HB.out.size))
        have HW0 := Lib.hid hW0; clear hW0 hb0
        go_wp2_with fail
        rw [HW0.out]
        refine (HNM.out _).mono ?_
        rintro e w1 ⟨rfl, rfl⟩
        cases e1 : isNm p_a with
        | false =>
          have HE1 := Lib.hid e1; clear e1
          go_wp2_with fail
          go_ret
          exact ⟨ret_b (by rw [← HR.out, flsOk_no HPF.out (by rw [HGD.out]; simp [HE1.out]), Bool.and_false]), HB.out⟩
        | true =>
          have HE1 := Lib.hid e1; clear e1
          go_wp2_with fail
          refine (HRS.out _ (HM.out.on HB.out)).mono ?_
          rintro e w2 ⟨rfl, hb2⟩
          replace q0 := (hb2.cell (World.block_lt_of_cell? _ _ q0)).trans q0; replace q1 := (hb2.cell (World.block_lt_of_cell? _ _ q1)).trans q1; replace q2 := (hb2.cell (World.block_lt_of_cell? _ _ q2)).trans q2; replace q3 := (hb2.cell (World.block_lt_of_cell? _ _ q3)).trans q3; replace q4 := (hb2.cell (World.block_lt_of_cell? _ _ q4)).trans q4; replace q5 := (hb2.cell (World.block_lt_of_cell? _ _ q5)).trans q5; replace q6 := (hb2.cell (World.block_lt_of_cell? _ _ q6)).trans q6; replace HB := Lib.hid (HB.out.trans (hb2.mono HB.out.size)); clear hb2
          cases e2 : isRs f_s f_k f_b f_a f_o with
          | false =>
            have HE2 := Lib.hid e2; clear e2
            go_wp2_with fail
            go_ret
            exact ⟨ret_b (by rw [← HR.out, flsOk_no HPF.out (by rw [HGD.out]; simp [HE1.out, HE2.out]), Bool.and_false]), HB.out⟩
          | true =>
            have HE2 := Lib.hid e2; clear e2
            go_wp2_with fail
            refine (findF_impl _ fs p_a _ ((HV.out.below HB.out (Nat.le_refl _)).mono HB.out.size) (by rw [HN.out]; omega)).mono ?_
            rintro e w3 ⟨rfl, hg3⟩
            rw [HIX.out]
            replace HB := Lib.hid (HB.out.trans (hg3.below.mono HB.out.size)); clear hg3
            by_cases hj2 : (j : Int) < (k : Int)
            · have HE3 := Lib.hid (show decide (k ≤ j) = false from decide_eq_false (by omega))
              go_wp2_with fail
              go_ret
              exact ⟨ret_b (by rw [← HR.out, flsOk_no HPF.out (by rw [HGD.out]; simp [HE1.out, HE2.out, HE3.out]), Bool.and_false]), HB.out⟩
            · have HQ := Lib.hid (show flGood fs ⟨p_a, ⟨f_s, f_k, f_b, f_a, f_h, f_o⟩⟩ k = true by rw [HGD.out, HE1.out, HE2.out]; exact decide_eq_true (by omega))
              have hj3 : decide ((j : Int) < (k : Int)) = false := decide_eq_false hj2
              go_wp2_with fail
              go_roundw
              case rel =>
                refine ⟨k + 1, by omega, by go_num, fun i f hi hf => ?_, HB.out⟩
                by_cases e : i = k
                · subst e; rw [HPF.out] at hf; cases hf; exact HQ.out
                · exact HP.out i f (by omega) hf
              case measure => simp [intOf]; omega
      · have hkn : k = n := by omega
        subst hkn
        have HE := Lib.hid (show flsOk fs = true from flsOk_yes fun i f hi hf => HP.out i f (by rw [← HN.out]; exact hi) hf)
        go_wp2
        go_ret
        exact ⟨ret_b (by rw [← HR.out, HL.out, HE.out]; rfl), HB.out⟩
  · have hl2 : (10 : Int) < (n : Int) := by omega
    have hl3 : decide ((10 : Int) < (n : Int)) = true := decide_eq_true hl2
    have HL := Lib.hid (show decide (n ≤ 10) = false from decide_eq_false (by omega))
    go_enter Tryd.func29, Tryd.ntmps29
    go_wp2
    go_ret
    exact ⟨ret_b (by rw [← HR.out, HL.out]; rfl), Below.refl _ _⟩

set_option maxRecDepth 100000 in
set_option maxHeartbeats 4000000 in
theorem isSv_impl (ho : ByteArray) (a : Option Addr) (n c : Nat) (fs : List Fl) (w : World) (hv : ReadsK encF 7 w.heap.size w (.slice a n c) fs) (hh : ho.size ≤ 1048576) (hf : ∀ f ∈ fs, FlFew f) (hm : Max0 w) :
    Calls Tryd.prog 9 #[.agg #[.string ho, .slice a n c]] w fun e w' => e = .returned (.bool (isSv ho fs)) ∧ Below w.heap.size w w' := by
  obtain ⟨W0, hW0⟩ : ∃ W, w.alloc (.cells #[.string ho, .slice a n c] 29) = W := ⟨_, rfl⟩
  have hb0 : Below w.heap.size w W0 := by rw [← hW0]; exact (Below.refl _ _).alloc (Nat.le_refl _) _
  have q0 : W0.cell? ⟨w.heap.size, 0, none⟩ = some (.string ho) := by rw [← hW0]; simp
  have q1 : W0.cell? ⟨w.heap.size, 1, none⟩ = some (.slice a n c) := by rw [← hW0]; simp
  have HX := Lib.hid (areF_impl _ fs W0 ((hv.below hb0 (Nat.le_refl _)).mono hb0.size) hf (hm.on hb0))
  have HNM := Lib.hid (fun X => nm_impl ho (by omega) X)
  have HB := Lib.hid hb0; have HW0 := Lib.hid hW0; clear hW0 hb0 hv hf hm
  obtain ⟨D, hD⟩ : ∃ D, (decide (fs.length ≤ 10) && flsOk fs) = D := ⟨_, rfl⟩
  rw [hD] at HX
  have HR := Lib.hid (show isSv ho fs = (isNm ho && D) by unfold isSv; rw [hD]); clear hD
  go_enter Tryd.func9, Tryd.ntmps9
  go_wp2_with fail
  rw [HW0.out]
  refine (HNM.out _).mono ?_
  rintro e w1 ⟨rfl, rfl⟩
  cases e1 : isNm ho with
  | false =>
    have HE1 := Lib.hid e1; clear e1
    go_wp2_with fail
    go_ret
    exact ⟨ret_b (by rw [HR.out, HE1.out]; rfl), HB.out⟩
  | true =>
    have HE1 := Lib.hid e1; clear e1
    go_wp2_with fail
    refine HX.out.mono ?_
    rintro e w2 ⟨rfl, hb2⟩
    go_wp2_with fail
    go_ret
    exact ⟨ret_b (by rw [HR.out, HE1.out]; rfl), HB.out.trans (hb2.mono HB.out.size)⟩

end Go.Proofs.YtpkicliimhflgaaDoor
namespace Go.Proofs.YtpkicliimhflgaaDoor
open Go.ChangeShapes Go.WideShapes Go.ChangeAt Go.RowKit

set_option maxRecDepth 100000 in
set_option maxHeartbeats 4000000 in
theorem arSv_impl (v : Value) (ss : List Se) (w : World) (hv : ReadV w.heap.size w v ss) (ok : SsOk ss) (hm : Max0 w) :
    Calls Tryd.prog 23 #[v] w fun e w' => e = .returned (.bool (arSv (ss.map Prod.fst))) ∧ Below w.heap.size w w' := by
  have HM := Lib.hid hm; clear hm
  obtain ⟨a, cap, rfl, hc1, hc2⟩ := hv.form
  have HO := Lib.hid ok
  have hln : ss.length ≤ 1048576 := ok.len
  obtain ⟨n, hn⟩ : ∃ n, ss.length = n := ⟨_, rfl⟩
  obtain ⟨R, hR⟩ : ∃ R, (decide (n ≤ 4) && svsOk (ss.map Prod.fst)) = R := ⟨_, rfl⟩
  have hAR : arSv (ss.map Prod.fst) = R := by unfold arSv; rw [List.length_map, hn]; exact hR
  rw [hn] at hv hc1 hln ⊢; rw [hAR]
  have HV := Lib.hid hv; have HN := Lib.hid hn; have HR := Lib.hid hR
  clear hv hn hR hAR ok
  by_cases hl : (n : Int) ≤ 4
  · have hl2 : ¬ ((4 : Int) < (n : Int)) := by omega
    have hl3 : decide ((4 : Int) < (n : Int)) = false := decide_eq_false hl2
    have HL := Lib.hid (show decide (n ≤ 4) = true from decide_eq_true (by omega))
    go_enter Tryd.func23, Tryd.ntmps23
    go_wp2
    go_loopw [10] (fun i wr => ∃ (k : Nat), k ≤ n ∧ i = .int .i64 k ∧ (∀ i f, i < k → (ss.map Prod.fst)[i]? = some f → svGood (ss.map Prod.fst) f i = true) ∧ Below w.heap.size w wr)
      (fun i _ => n - (intOf i).toNat)
    case atStart => exact ⟨0, Nat.zero_le _, rfl, fun i f h => absurd h (Nat.not_lt_zero _), Below.refl _ _⟩
    case round =>
      obtain ⟨k, hk, rfl, hp, hs⟩ := hrel
      have HB := Lib.hid hs; have HP := Lib.hid hp
      clear hs hp
      by_cases hlt : (k : Int) < (n : Int)
      · obtain ⟨p, hp⟩ := se_at (ss := ss) (j := k) (by rw [HN.out]; omega)
        obtain ⟨g, off, rfl, hg, c0, c1⟩ := HV.out.at hp
        have HFS := Lib.hid (HV.out.files hp)
        have HPF := Lib.hid (fd_mapS ss k p hp)
        have hz0 := HO.out.host p (List.mem_of_getElem? hp); have hz1 := HO.out.few p (List.mem_of_getElem? hp); have hz2 := HO.out.file p (List.mem_of_getElem? hp)
        obtain ⟨⟨p_a, fs⟩, ⟨sa, sn, sc⟩⟩ := p
        replace HFS := Lib.hid (show ReadsK encF 7 w.heap.size w (.slice sa sn sc) fs from HFS.out)
        replace hz0 : p_a.size ≤ 1048576 := hz0; replace hz1 : fs.length ≤ 1048576 := hz1; replace hz2 : ∀ f ∈ fs, FlFew f := hz2
        have HZ2 := Lib.hid hz2; clear hz2
        replace c0 : wr.cell? ⟨g, off + k * 2, none⟩ = some (.string p_a) := by rw [HB.out.cell (show g < _ by omega)]; exact c0
        replace c1 : wr.cell? ⟨g, off + k * 2 + 1, none⟩ = some (.slice sa sn sc) := by rw [HB.out.cell (show g < _ by omega)]; exact c1
        have hjk := fdS_le HPF.out (p := p_a) rfl
        obtain ⟨j, hj⟩ : ∃ j, fdS (ss.map Prod.fst) p_a = j := ⟨_, rfl⟩
        rw [hj] at hjk
        have HJ := Lib.hid hj; clear hj hp
        have HIX := Lib.hid (show ixV (fdS (ss.map Prod.fst) p_a) ss.length = j by rw [HJ.out, HN.out]; exact ixV_hit (by omega))
        have HGD := Lib.hid (show svGood (ss.map Prod.fst) (p_a, fs) k = (isSv p_a fs && decide (k ≤ j)) by unfold svGood; rw [← HJ.out])
        obtain ⟨W0, hW0⟩ : ∃ W, wr.alloc (.cells #[.string p_a, .slice sa sn sc] 29) = W := ⟨_, rfl⟩
        have hb0 : Below wr.heap.size wr W0 := by rw [← hW0]; exact (Below.refl _ _).alloc (Nat.le_refl _) _
        have q0 : W0.cell? ⟨wr.heap.size, 0, none⟩ = some (.string p_a) := by rw [← hW0]; simp
        have q1 : W0.cell? ⟨wr.heap.size, 1, none⟩ = some (.slice sa sn sc) := by rw [← hW0]; simp
        replace HB := Lib.hid (HB.out.trans (hb0.mono HB.out.size))
        have HW0 := Lib.hid hW0; clear hW0 hb0
        go_wp2_with fail
        rw [HW0.out]
        refine (isSv_impl p_a sa sn sc fs _ ((HFS.out.below HB.out (Nat.le_refl _)).mono HB.out.size) hz0 HZ2.out (HM.out.on HB.out)).mono ?_
        rintro e w1 ⟨rfl, hb1⟩
        replace q0 := (hb1.cell (World.block_lt_of_cell? _ _ q0)).trans q0; replace q1 := (hb1.cell (World.block_lt_of_cell? _ _ q1)).trans q1
        replace HB := Lib.hid (HB.out.trans (hb1.mono HB.out.size)); clear hb1
        cases e1 : isSv p_a fs with
        | false =>
          have HE1 := Lib.hid e1; clear e1
          go_wp2_with fail
          go_ret
          exact ⟨ret_b (by rw [← HR.out, svsOk_no HPF.out (by rw [HGD.out, HE1.out]; rfl), Bool.and_false]), HB.out⟩
        | true =>
          have HE1 := Lib.hid e1; clear e1
          go_wp2_with fail
          refine (findS_impl _ ss p_a _ ((HV.out.below HB.out (Nat.le_refl _)).mono HB.out.size) (by rw [HN.out]; omega)).mono ?_
          rintro e w3 ⟨rfl, hg3⟩
          rw [HIX.out]
          replace HB := Lib.hid (HB.out.trans (hg3.below.mono HB.out.size)); clear hg3
          by_cases hj2 : (j : Int) < (k : Int)
          · have HE3 := Lib.hid (show decide (k ≤ j) = false from decide_eq_false (by omega))
            go_wp2_with fail
            go_ret
            exact ⟨ret_b (by rw [← HR.out, svsOk_no HPF.out (by rw [HGD.out, HE1.out, HE3.out]; rfl), Bool.and_false]), HB.out⟩
          · have HQ := Lib.hid (show svGood (ss.map Prod.fst) (p_a, fs) k = true by rw [HGD.out, HE1.out]; exact decide_eq_true (by omega))
            have hj3 : decide ((j : Int) < (k : Int)) = false := decide_eq_false hj2
            go_wp2_with fail
            go_roundw
            case rel =>
              refine ⟨k + 1, by omega, by go_num, fun i f hi hf => ?_, HB.out⟩
              by_cases e : i = k
              · subst e; rw [HPF.out] at hf; cases hf; exact HQ.out
              · exact HP.out i f (by omega) hf
            case measure => simp [intOf]; omega
      · have hkn : k = n := by omega
        subst hkn
        have HE := Lib.hid (show svsOk (ss.map Prod.fst) = true from svsOk_yes fun i f hi hf => HP.out i f (by rw [← HN.out, ← List.length_map (f := Prod.fst)]; exact hi) hf)
        go_wp2
        go_ret
        exact ⟨ret_b (by rw [← HR.out, HL.out, HE.out]; rfl), HB.out⟩
  · have hl2 : (4 : Int) < (n : Int) := by omega
    have hl3 : decide ((4 : Int) < (n : Int)) = true := decide_eq_true hl2
    have HL := Lib.hid (show decide (n ≤ 4) = false from decide_eq_false (by omega))
    go_enter Tryd.func23, Tryd.ntmps23
    go_wp2
    go_ret
    exact ⟨ret_b (by rw [← HR.out, HL.out]; rfl), Below.refl _ _⟩

end Go.Proofs.YtpkicliimhflgaaDoor
namespace Go.Proofs.YtpkicliimhflgaaDoor
open Go.ChangeShapes Go.WideShapes Go.ChangeAt Go.RowKit

set_option maxRecDepth 100000 in
set_option maxHeartbeats 4000000 in
theorem isSv_spec (ho : ByteArray) (a : Option Addr) (n c : Nat) (fs : List Fl) (w : World) (hv : ReadsK encF 7 w.heap.size w (.slice a n c) fs) (hh : ho.size ≤ 1048576) (hf : ∀ f ∈ fs, FlFew f) (hz : fs.length ≤ 1099511627776) :
    Calls Tryd.prog 7 #[.agg #[.string ho, .slice a n c]] w fun e w' => e = .returned (.bool (isSv ho fs)) ∧ Below w.heap.size w w' := by
  have HF := Lib.hid hf; clear hf
  obtain ⟨W0, hW0⟩ : ∃ W, w.alloc (.cells #[.string ho, .slice a n c] 29) = W := ⟨_, rfl⟩
  have hb0 : Below w.heap.size w W0 := by rw [← hW0]; exact (Below.refl _ _).alloc (Nat.le_refl _) _
  have q0 : W0.cell? ⟨w.heap.size, 0, none⟩ = some (.string ho) := by rw [← hW0]; simp
  have q1 : W0.cell? ⟨w.heap.size, 1, none⟩ = some (.slice a n c) := by rw [← hW0]; simp
  have HQ0 := Lib.hid q0; have HQ1 := Lib.hid q1; have HLT := Lib.hid (World.block_lt_of_cell? _ _ q1); clear q0 q1
  have HB0 := Lib.hid hb0; have HW0 := Lib.hid hW0; clear hW0 hb0
  have HNH := Lib.hid (fun X => nm_spec ho (by omega) X)
  have hn : n = fs.length := by obtain ⟨_, _, e, _⟩ := hv; injection e
  obtain ⟨hc1, hc2⟩ : n ≤ c ∧ c ≤ 9223372036854775807 := by obtain ⟨_, _, e, h1, h2, _⟩ := hv; injection e with e1 e2 e3; subst e3; exact ⟨by omega, h2⟩
  have hz2 : n ≤ 1099511627776 := by omega
  have HN := Lib.hid hn.symm; have HV := Lib.hid hv; clear hv hn hz hh
  have HR := Lib.hid (show isSv ho fs = (isNm ho && (decide (n ≤ 10) && flsOk fs)) by unfold isSv; rw [HN.out])
  go_enter Tryd.func7, Tryd.ntmps7
  go_wp2_with fail
  rw [HW0.out]
  go_loopw [3] (fun i wr => ∃ (k : Nat), k ≤ n ∧ i = .int .i64 k ∧ (∀ i f, i < k → fs[i]? = some f → flGood fs f i = true) ∧ Below W0.heap.size W0 wr)
    (fun i _ => n - (intOf i).toNat)
  case atStart => exact ⟨0, Nat.zero_le _, rfl, fun i f h => absurd h (Nat.not_lt_zero _), Below.refl _ _⟩
  case round =>
    obtain ⟨k, hk, rfl, hp, hs⟩ := hrel
    have HBW := Lib.hid hs; have HP := Lib.hid hp; have HB := Lib.hid (HB0.out.trans (hs.mono HB0.out.size))
    clear hs hp
    have d1 : wr.cell? ⟨w.heap.size, 1, none⟩ = some (.slice a n c) := (HBW.out.cell HLT.out).trans HQ1.out
    by_cases hlt : (k : Int) < (n : Int)
    · obtain ⟨p_a, f_s, f_k, f_b, f_a, f_h, f_o, hp⟩ := fl_at (xs := fs) (j := k) (by rw [HN.out]; omega)
      obtain ⟨g, off, rfl, hg, c0, c1, c2, c3, c4, c5, c6⟩ := HV.out.file hp
      have HC0 := Lib.hid (show w.cell? ⟨g, off + k * 7, none⟩ = some (.string p_a) from c0)
      have HC1 := Lib.hid (show w.cell? ⟨g, off + k * 7 + 1, none⟩ = some (.int .i64 f_s) from c1)
      have HC2 := Lib.hid (show w.cell? ⟨g, off + k * 7 + 2, none⟩ = some (.int .i64 f_k) from c2)
      have HC3 := Lib.hid (show w.cell? ⟨g, off + k * 7 + 3, none⟩ = some (.string f_b) from c3)
      have HC4 := Lib.hid (show w.cell? ⟨g, off + k * 7 + 4, none⟩ = some (.int .i64 f_a) from c4)
      have HC5 := Lib.hid (show w.cell? ⟨g, off + k * 7 + 5, none⟩ = some (.bool f_h) from c5)
      have HC6 := Lib.hid (show w.cell? ⟨g, off + k * 7 + 6, none⟩ = some (.string f_o) from c6)
      clear c0 c1 c2 c3 c4 c5 c6
      have c0 : wr.cell? ⟨g, off + k * 7, none⟩ = some (.string p_a) := by rw [HB.out.cell (show g < _ by omega)]; exact HC0.out
      have c1 : wr.cell? ⟨g, off + k * 7 + 1, none⟩ = some (.int .i64 f_s) := by rw [HB.out.cell (show g < _ by omega)]; exact HC1.out
      have c2 : wr.cell? ⟨g, off + k * 7 + 2, none⟩ = some (.int .i64 f_k) := by rw [HB.out.cell (show g < _ by omega)]; exact HC2.out
      have c3 : wr.cell? ⟨g, off + k * 7 + 3, none⟩ = some (.string f_b) := by rw [HB.out.cell (show g < _ by omega)]; exact HC3.out
      have c4 : wr.cell? ⟨g, off + k * 7 + 4, none⟩ = some (.int .i64 f_a) := by rw [HB.out.cell (show g < _ by omega)]; exact HC4.out
      have c5 : wr.cell? ⟨g, off + k * 7 + 5, none⟩ = some (.bool f_h) := by rw [HB.out.cell (show g < _ by omega)]; exact HC5.out
      have c6 : wr.cell? ⟨g, off + k * 7 + 6, none⟩ = some (.string f_o) := by rw [HB.out.cell (show g < _ by omega)]; exact HC6.out
      obtain ⟨z0, z3, z6⟩ := HF.out _ (List.mem_of_getElem? hp)
      replace z0 : p_a.size ≤ 1048576 := z0; replace z6 : f_o.size ≤ 1048576 := z6; clear z3
      have HPF := Lib.hid hp; clear hp
      have HNM := Lib.hid (fun X => nm_spec p_a (by omega) X)
      have HRS := Lib.hid (fun X => isRs_spec f_s f_k f_b f_a f_h f_o z6 X)
      have HGD := Lib.hid (show flGood fs ⟨p_a, ⟨f_s, f_k, f_b, f_a, f_h, f_o⟩⟩ k = (isNm p_a && (isRs f_s f_k f_b f_a f_o && decide (k ≤ fdF fs p_a))) from rfl)
      clear z0 z6
      go_wp2_with fail
      refine (HNM.out _).mono ?_
      rintro e w1 ⟨rfl, rfl⟩
      cases e1 : isNm p_a with
      | false =>
        have HE1 := Lib.hid e1; clear e1
        go_wp2_with fail
        go_ret
        exact ⟨ret_b (by rw [HR.out, flsOk_no HPF.out (by rw [HGD.out]; simp [HE1.out]), Bool.and_false, Bool.and_false]), HB.out⟩
      | true =>
        have HE1 := Lib.hid e1; clear e1
        go_wp2_with fail
        refine (HRS.out _).mono ?_
        rintro e w2 ⟨rfl, hb2⟩
        clear d1 c0 c1 c2 c3 c4 c5 c6
        replace HBW := Lib.hid (HBW.out.trans (hb2.mono HBW.out.size)); replace HB := Lib.hid (HB.out.trans (hb2.mono HB.out.size)); clear hb2
        have d1 : w2.cell? ⟨w.heap.size, 1, none⟩ = some (.slice (some ⟨g, off, none⟩) n c) := (HBW.out.cell HLT.out).trans HQ1.out
        cases e2 : isRs f_s f_k f_b f_a f_o with
        | false =>
          have HE2 := Lib.hid e2; clear e2
          go_wp2_with fail
          go_ret
          exact ⟨ret_b (by rw [HR.out, flsOk_no HPF.out (by rw [HGD.out]; simp [HE1.out, HE2.out]), Bool.and_false, Bool.and_false]), HB.out⟩
        | true =>
          have HE2 := Lib.hid e2; clear e2
          go_wp2_with fail
          go_loopw [4] (fun i wr => ∃ (q : Nat), q ≤ k ∧ i = .int .i64 q ∧ NoneTo (isPath p_a) fs q ∧ Below w2.heap.size w2 wr)
            (fun i _ => k - (intOf i).toNat)
          case atStart => exact ⟨0, Nat.zero_le _, rfl, NoneTo.zero _ _, Below.refl _ _⟩
          case round =>
            obtain ⟨q, hqk, rfl, hp, hs⟩ := hrel
            clear d1
            have HNT := Lib.hid hp; have HBI := Lib.hid hs
            clear hp
            replace HBW := Lib.hid (HBW.out.trans (hs.mono HBW.out.size)); replace HB := Lib.hid (HB.out.trans (hs.mono HB.out.size)); clear hs
            have d1 : wr.cell? ⟨w.heap.size, 1, none⟩ = some (.slice (some ⟨g, off, none⟩) n c) := (HBW.out.cell HLT.out).trans HQ1.out
            have c0 : wr.cell? ⟨g, off + k * 7, none⟩ = some (.string p_a) := by rw [HB.out.cell (show g < _ by omega)]; exact HC0.out
            have c1 : wr.cell? ⟨g, off + k * 7 + 1, none⟩ = some (.int .i64 f_s) := by rw [HB.out.cell (show g < _ by omega)]; exact HC1.out
            have c2 : wr.cell? ⟨g, off + k * 7 + 2, none⟩ = some (.int .i64 f_k) := by rw [HB.out.cell (show g < _ by omega)]; exact HC2.out
            have c3 : wr.cell? ⟨g, off + k * 7 + 3, none⟩ = some (.string f_b) := by rw [HB.out.cell (show g < _ by omega)]; exact HC3.out
            have c4 : wr.cell? ⟨g, off + k * 7 + 4, none⟩ = some (.int .i64 f_a) := by rw [HB.out.cell (show g < _ by omega)]; exact HC4.out
            have c5 : wr.cell? ⟨g, off + k * 7 + 5, none⟩ = some (.bool f_h) := by rw [HB.out.cell (show g < _ by omega)]; exact HC5.out
            have c6 : wr.cell? ⟨g, off + k * 7 + 6, none⟩ = some (.string f_o) := by rw [HB.out.cell (show g < _ by omega)]; exact HC6.out
            by_cases hq2 : (q : Int) < (k : Int)
            · obtain ⟨p_b, g_s, g_k, g_b, g_a, g_h, g_o, hx⟩ := fl_at (xs := fs) (j := q) (by rw [HN.out]; omega)
              obtain ⟨g2, off2, e, hg2, u0, _⟩ := HV.out.file hx
              cases e
              replace u0 : wr.cell? ⟨g, off + q * 7, none⟩ = some (.string p_b) := by rw [HB.out.cell (show g < _ by omega)]; exact u0
              have HXF := Lib.hid hx; clear hx
              by_cases hh : p_b = p_a
              · have y1 : (p_b.toList == p_a.toList) = true := beqL_yes hh
                have HFD := Lib.hid (show fdF fs p_a = q from HNT.out.hit HXF.out (decide_eq_true hh))
                have HE3 := Lib.hid (show decide (k ≤ fdF fs p_a) = false from decide_eq_false (by rw [HFD.out]; omega))
                clear hh
                go_wp2
                go_quiet (fail)
                go_wp2
                go_ret
                exact ⟨ret_b (by rw [HR.out, flsOk_no HPF.out (by rw [HGD.out]; simp [HE1.out, HE2.out, HE3.out]), Bool.and_false, Bool.and_false]), bl_dwN HB.out _⟩
              · have y1 : (p_b.toList == p_a.toList) = false := beqL_no hh
                have HQN := Lib.hid (HNT.out.step HXF.out (decide_eq_false hh))
                clear hh
                go_wp2
                go_quiet (fail)
                go_wp2
                go_roundw
                case rel => exact ⟨q + 1, by omega, by go_num, HQN.out, bl_dwN HBI.out _⟩
                case measure => simp [intOf]; omega
            · have hqn : q = k := by omega
              subst hqn
              have HFD := Lib.hid (show fdF fs p_a = q from HNT.out.hit HPF.out (decide_eq_true rfl))
              have HQ := Lib.hid (show flGood fs ⟨p_a, ⟨f_s, f_k, f_b, f_a, f_h, f_o⟩⟩ q = true by rw [HGD.out, HE1.out, HE2.out]; exact decide_eq_true (by rw [HFD.out]; exact Nat.le_refl _))
              go_wp2
              go_roundw
              case rel =>
                refine ⟨q + 1, by omega, by go_num, fun i f hi hf => ?_, HBW.out⟩
                by_cases e : i = q
                · subst e; rw [HPF.out] at hf; cases hf; exact HQ.out
                · exact HP.out i f (by omega) hf
              case measure => simp [intOf]; omega
    · have hkn : k = n := by omega
      subst hkn
      have HE := Lib.hid (show flsOk fs = true from flsOk_yes fun i f hi hf => HP.out i f (by rw [← HN.out]; exact hi) hf)
      have d0 : wr.cell? ⟨w.heap.size, 0, none⟩ = some (.string ho) := (HBW.out.cell (World.block_lt_of_cell? _ _ HQ0.out)).trans HQ0.out
      go_wp2_with fail
      refine (HNH.out _).mono ?_
      rintro e w1 ⟨rfl, rfl⟩
      cases e1 : isNm ho with
      | false =>
        have HE1 := Lib.hid e1; clear e1
        go_wp2_with fail
        go_ret
        exact ⟨ret_b (by rw [HR.out, HE1.out]; rfl), HB.out⟩
      | true =>
        have HE1 := Lib.hid e1; clear e1
        by_cases hl : (k : Int) ≤ 10
        · have hl3 : decide ((k : Int) ≤ 10) = true := decide_eq_true hl
          have HL := Lib.hid (show decide (k ≤ 10) = true from decide_eq_true (by omega))
          go_wp2_with fail
          go_ret
          exact ⟨ret_b (by rw [HR.out, HE1.out, HE.out, HL.out]; rfl), HB.out⟩
        · have hl3 : decide ((k : Int) ≤ 10) = false := decide_eq_false hl
          have HL := Lib.hid (show decide (k ≤ 10) = false from decide_eq_false (by omega))
          go_wp2_with fail
          go_ret
          exact ⟨ret_b (by rw [HR.out, HE1.out, HE.out, HL.out]; rfl), HB.out⟩

end Go.Proofs.YtpkicliimhflgaaDoor
namespace Go.Proofs.YtpkicliimhflgaaDoor
open Go.ChangeShapes Go.WideShapes Go.ChangeAt Go.RowKit

set_option maxRecDepth 100000 in
set_option maxHeartbeats 4000000 in
theorem arSv_spec (v : Value) (ss : List Se) (w : World) (hv : ReadV w.heap.size w v ss) (ok : SsOk ss) :
    Calls Tryd.prog 22 #[v] w fun e w' => e = .returned (.bool (arSv (ss.map Prod.fst))) ∧ Below w.heap.size w w' := by
  obtain ⟨a, cap, rfl, hc1, hc2⟩ := hv.form
  have HO := Lib.hid ok
  have hln : ss.length ≤ 1048576 := ok.len
  obtain ⟨n, hn⟩ : ∃ n, ss.length = n := ⟨_, rfl⟩
  obtain ⟨R, hR⟩ : ∃ R, (decide (n ≤ 4) && svsOk (ss.map Prod.fst)) = R := ⟨_, rfl⟩
  have hAR : arSv (ss.map Prod.fst) = R := by unfold arSv; rw [List.length_map, hn]; exact hR
  rw [hn] at hv hc1 hln ⊢; rw [hAR]
  have HV := Lib.hid hv; have HN := Lib.hid hn; have HR := Lib.hid hR
  clear hv hn hR hAR ok
  go_enter Tryd.func22, Tryd.ntmps22
  go_wp2
  go_loopw [3] (fun i wr => ∃ (k : Nat), k ≤ n ∧ i = .int .i64 k ∧ (∀ i f, i < k → (ss.map Prod.fst)[i]? = some f → svGood (ss.map Prod.fst) f i = true) ∧ Below w.heap.size w wr)
    (fun i _ => n - (intOf i).toNat)
  case atStart => exact ⟨0, Nat.zero_le _, rfl, fun i f h => absurd h (Nat.not_lt_zero _), Below.refl _ _⟩
  case round =>
    obtain ⟨k, hk, rfl, hp, hs⟩ := hrel
    have HB := Lib.hid hs; have HP := Lib.hid hp
    clear hs hp
    by_cases hlt : (k : Int) < (n : Int)
    · obtain ⟨p, hp⟩ := se_at (ss := ss) (j := k) (by rw [HN.out]; omega)
      obtain ⟨g, off, rfl, hg, c0, c1⟩ := HV.out.at hp
      have HFS := Lib.hid (HV.out.files hp)
      have HPF := Lib.hid (fd_mapS ss k p hp)
      have hz0 := HO.out.host p (List.mem_of_getElem? hp); have hz1 := HO.out.few p (List.mem_of_getElem? hp); have hz2 := HO.out.file p (List.mem_of_getElem? hp)
      obtain ⟨⟨p_a, fs⟩, ⟨sa, sn, sc⟩⟩ := p
      replace HFS := Lib.hid (show ReadsK encF 7 w.heap.size w (.slice sa sn sc) fs from HFS.out)
      replace hz0 : p_a.size ≤ 1048576 := hz0; replace hz1 : fs.length ≤ 1048576 := hz1; replace hz2 : ∀ f ∈ fs, FlFew f := hz2
      have HZ2 := Lib.hid hz2; clear hz2
      replace c0 : wr.cell? ⟨g, off + k * 2, none⟩ = some (.string p_a) := by rw [HB.out.cell (show g < _ by omega)]; exact c0
      replace c1 : wr.cell? ⟨g, off + k * 2 + 1, none⟩ = some (.slice sa sn sc) := by rw [HB.out.cell (show g < _ by omega)]; exact c1
      have hjk := fdS_le HPF.out (p := p_a) rfl
      obtain ⟨j, hj⟩ : ∃ j, fdS (ss.map Prod.fst) p_a = j := ⟨_, rfl⟩
      rw [hj] at hjk
      have HJ := Lib.hid hj; clear hj hp
      have HIX := Lib.hid (show ixV (fdS (ss.map Prod.fst) p_a) ss.length = j by rw [HJ.out, HN.out]; exact ixV_hit (by omega))
      have HGD := Lib.hid (show svGood (ss.map Prod.fst) (p_a, fs) k = (isSv p_a fs && decide (k ≤ j)) by unfold svGood; rw [← HJ.out])
      go_wp2_with fail
      refine (isSv_spec p_a sa sn sc fs _ ((HFS.out.below HB.out (Nat.le_refl _)).mono HB.out.size) hz0 HZ2.out (by omega)).mono ?_
      rintro e w1 ⟨rfl, hb1⟩
      replace c0 := (hb1.cell (World.block_lt_of_cell? _ _ c0)).trans c0; replace c1 := (hb1.cell (World.block_lt_of_cell? _ _ c1)).trans c1
      replace HB := Lib.hid (HB.out.trans (hb1.mono HB.out.size)); clear hb1
      cases e1 : isSv p_a fs with
      | false =>
        have HE1 := Lib.hid e1; clear e1
        go_wp2_with fail
        go_ret
        exact ⟨ret_b (by rw [← HR.out, svsOk_no HPF.out (by rw [HGD.out, HE1.out]; rfl), Bool.and_false]), HB.out⟩
      | true =>
        have HE1 := Lib.hid e1; clear e1
        go_wp2_with fail
        refine (findS_spec _ ss p_a _ ((HV.out.below HB.out (Nat.le_refl _)).mono HB.out.size) (by rw [HN.out]; omega)).mono ?_
        rintro e w3 ⟨rfl, hg3⟩
        rw [HIX.out]
        replace HB := Lib.hid (HB.out.trans (hg3.below.mono HB.out.size)); clear hg3
        by_cases hj2 : j = k
        · have hj3 : ((j : Int) != (k : Int)) = false := by rw [bne, beq_iff_eq.2 (show (j : Int) = (k : Int) by omega)]; rfl
          have HQ := Lib.hid (show svGood (ss.map Prod.fst) (p_a, fs) k = true by rw [HGD.out, HE1.out]; exact decide_eq_true (by omega))
          clear hj2
          go_wp2_with fail
          go_roundw
          case rel =>
            refine ⟨k + 1, by omega, by go_num, fun i f hi hf => ?_, HB.out⟩
            by_cases e : i = k
            · subst e; rw [HPF.out] at hf; cases hf; exact HQ.out
            · exact HP.out i f (by omega) hf
          case measure => simp [intOf]; omega
        · have hj3 : ((j : Int) != (k : Int)) = true := by rw [bne, beq_eq_false_iff_ne.2 (show (j : Int) ≠ (k : Int) by omega)]; rfl
          have HE3 := Lib.hid (show decide (k ≤ j) = false from decide_eq_false (by omega))
          clear hj2
          go_wp2_with fail
          go_ret
          exact ⟨ret_b (by rw [← HR.out, svsOk_no HPF.out (by rw [HGD.out, HE1.out, HE3.out]; rfl), Bool.and_false]), HB.out⟩
    · have hkn : k = n := by omega
      subst hkn
      have HE := Lib.hid (show svsOk (ss.map Prod.fst) = true from svsOk_yes fun i f hi hf => HP.out i f (by rw [← HN.out, ← List.length_map (f := Prod.fst)]; exact hi) hf)
      by_cases hl : (k : Int) ≤ 4
      · have hl3 : decide ((k : Int) ≤ 4) = true := decide_eq_true hl
        have HL := Lib.hid (show decide (k ≤ 4) = true from decide_eq_true (by omega))
        go_wp2
        go_ret
        exact ⟨ret_b (by rw [← HR.out, HL.out, HE.out]; rfl), HB.out⟩
      · have hl3 : decide ((k : Int) ≤ 4) = false := decide_eq_false hl
        have HL := Lib.hid (show decide (k ≤ 4) = false from decide_eq_false (by omega))
        go_wp2
        go_ret
        exact ⟨ret_b (by rw [← HR.out, HL.out]; rfl), HB.out⟩

end Go.Proofs.YtpkicliimhflgaaDoor
namespace Go.Proofs.YtpkicliimhflgaaDoor
open Go.ChangeShapes Go.WideShapes Go.ChangeAt Go.RowKit

theorem eqV_Server (a0 : ByteArray) (a1 b1 : Rw) (u v : Value) (e : a1.cell = u) (f : b1.cell = v) (w : World) (hx1 : IsFileS a1) (hy1 : IsFileS b1) (hd1 : a1.data = b1.data) (rx1 : a1.ReadR w.heap.size w) (ry1 : b1.ReadR w.heap.size w) :
    Calls Tryd.prog 10 #[.agg #[.string a0, u], .agg #[.string a0, v]] w fun e w' => e = .returned (.bool true) ∧ Grw w w' := by
  subst e; subst f
  exact eq_Server a0 a1 b1 w hx1 hy1 hd1 rx1 ry1
theorem isvS_data {x : Rw} {u : Value} {a : Option Addr} {n c : Nat} {fs : List Fl} {w : World} (ho : ByteArray) (h : x.data = (rwF u fs).data) (e : x.cell = .slice a n c) (hr : x.ReadR w.heap.size w) (hh : ho.size ≤ 1048576) (hf : fs.length ≤ 1048576 ∧ ∀ f ∈ fs, FlFew f) :
    Calls Tryd.prog 7 #[.agg #[.string ho, .slice a n c]] w fun e w' => e = .returned (.bool (isSv ho fs)) ∧ Below w.heap.size w w' := by
  have h2 := files_of_data h hr
  rw [e] at h2
  exact isSv_spec ho a n c fs w h2 hh hf.2 (Nat.le_trans hf.1 (by decide))
theorem isvI_data {x : Rw} {u : Value} {a : Option Addr} {n c : Nat} {fs : List Fl} {w : World} (ho : ByteArray) (h : x.data = (rwF u fs).data) (e : x.cell = .slice a n c) (hr : x.ReadR w.heap.size w) (hh : ho.size ≤ 1048576) (hf : fs.length ≤ 1048576 ∧ ∀ f ∈ fs, FlFew f) (hm : Max0 w) :
    Calls Tryd.prog 9 #[.agg #[.string ho, .slice a n c]] w fun e w' => e = .returned (.bool (isSv ho fs)) ∧ Below w.heap.size w w' := by
  have h2 := files_of_data h hr
  rw [e] at h2
  exact isSv_impl ho a n c fs w h2 hh hf.2 hm
theorem arsS_data {x : Rw} {u : Value} {ss : List Se} {w : World} (h : x.data = (rwV u ss).data) (hr : x.ReadR w.heap.size w) (ok : SsOk ss) :
    Calls Tryd.prog 22 #[x.cell] w fun e w' => e = .returned (.bool (arSv (ss.map Prod.fst))) ∧ Below w.heap.size w w' := by
  obtain ⟨us, e, hu⟩ := servers_of_data h hr
  rw [← e]
  exact arSv_spec _ us w hu (ok.of e)
theorem arsI_data {x : Rw} {u : Value} {ss : List Se} {w : World} (h : x.data = (rwV u ss).data) (hr : x.ReadR w.heap.size w) (ok : SsOk ss) (hm : Max0 w) :
    Calls Tryd.prog 23 #[x.cell] w fun e w' => e = .returned (.bool (arSv (ss.map Prod.fst))) ∧ Below w.heap.size w w' := by
  obtain ⟨us, e, hu⟩ := servers_of_data h hr
  rw [← e]
  exact arSv_impl _ us w hu (ok.of e) hm

end Go.Proofs.YtpkicliimhflgaaDoor
namespace Go.Proofs.YtpkicliimhflgaaDoor
open Go.ChangeShapes Go.WideShapes Go.ChangeAt Go.RowKit

set_option maxRecDepth 100000 in
set_option maxHeartbeats 4000000 in
theorem walkIsServer (ho_l : ByteArray) (va_l : Option Addr) (vn_l vc_l : Nat) (fs_l : List Fl) (w : World) (hmx : Max0 w) (rh_l : ho_l.size ≤ 9223372036854775807) (r_l : IsFls w (.slice va_l vn_l vc_l) fs_l) :
    Calls Tryd.prog 3 #[.agg #[.string ho_l, .slice va_l vn_l vc_l]] w fun e w' => e = .returned (.bool true) ∧ Below w.heap.size w w' := by
  have HMX := Lib.hid hmx; clear hmx
  obtain ⟨hrf, hof⟩ := r_l
  have HRF_l := Lib.hid hrf; have HSF_l := Lib.hid (rwF_small (v := .slice va_l vn_l vc_l) hof); clear hrf hof
  go_enter Tryd.func3, Tryd.ntmps3
  go_wp2_with fail
  obtain ⟨w_0, hw_0⟩ : ∃ x, (w.alloc (.cells #[.string ho_l, .slice va_l vn_l vc_l] 24)) = x := ⟨_, rfl⟩
  rw [hw_0]
  have HB := Lib.hid (show Below w.heap.size w w_0 by rw [← hw_0]; exact ((Below.refl w.heap.size w).alloc (by first | (simp; done) | (simp; omega)) _))
  have q_l0 : w_0.cell? ⟨w.heap.size, 0, none⟩ = some (.string ho_l) := by rw [← hw_0]; simp
  have q_l1 : w_0.cell? ⟨w.heap.size, 1, none⟩ = some (.slice va_l vn_l vc_l) := by rw [← hw_0]; simp
  have b_l : w.heap.size < w_0.heap.size := World.block_lt_of_cell? _ _ q_l0
  have HS0 := Lib.hid (show w.heap.size + 1 ≤ w_0.heap.size by rw [← hw_0]; simp)
  clear hw_0
  go_wp2_with fail
  refine (sz_Server ho_l (rwF (.slice va_l vn_l vc_l) fs_l) 1048576 (by omega) (by omega) _ rh_l (rwF_is _ _) (rwF_reads ((HRF_l.out.below HB.out (Nat.le_refl _)).mono HB.out.size)) HSF_l.out).mono ?_
  rintro e w_1 ⟨r, rfl, lo_r, hi_r, hg⟩
  have hB := hg.below
  replace q_l0 := (hB.cell (show (⟨w.heap.size, 0, none⟩ : Addr).block < _ from World.block_lt_of_cell? _ _ q_l0)).trans q_l0
  replace q_l1 := (hB.cell (show (⟨w.heap.size, 1, none⟩ : Addr).block < _ from World.block_lt_of_cell? _ _ q_l1)).trans q_l1
  replace b_l : w.heap.size < w_1.heap.size := World.block_lt_of_cell? _ _ q_l0
  have HS1 := Lib.hid hB.size
  replace HB := Lib.hid (HB.out.trans (hB.mono HB.out.size))
  clear hB hg
  by_cases neg_r : r < 0
  · go_wp2_with fail
    go_ret
    exact ⟨rfl, HB.out⟩
  replace hi_r := hi_r (by omega)
  have HHZ := Lib.hid (show ho_l.size ≤ 1048576 by omega); have HWF_l := Lib.hid (show (rwF (.slice va_l vn_l vc_l) fs_l).weight ≤ 1048576 by omega); clear hi_r
  have HFF := Lib.hid (flFew_of HWF_l.out)
  obtain ⟨D, hD⟩ : ∃ D, isSv ho_l fs_l = D := ⟨_, rfl⟩
  have HD := Lib.hid hD; clear hD
  have hDD : (D == D) = true := beq_self_eq_true _; have hDN : (D != D) = false := by rw [bne, hDD]; rfl
  go_wp2_with fail
  refine (toL_Server ho_l (rwF (.slice va_l vn_l vc_l) fs_l) _ (rwF_is _ _) (rwF_reads ((HRF_l.out.below HB.out (Nat.le_refl _)).mono HB.out.size)) (by have := HWF_l.out; omega)).mono ?_
  rintro e w_2 ⟨y_x, rfl, i_x, d_x, ho, hn, hb⟩
  have hB := hb
  replace q_l0 := (hB.cell (show (⟨w.heap.size, 0, none⟩ : Addr).block < _ from World.block_lt_of_cell? _ _ q_l0)).trans q_l0
  replace q_l1 := (hB.cell (show (⟨w.heap.size, 1, none⟩ : Addr).block < _ from World.block_lt_of_cell? _ _ q_l1)).trans q_l1
  replace b_l : w.heap.size < w_2.heap.size := World.block_lt_of_cell? _ _ q_l0
  have Hx := Lib.hid (ho)
  have HS2 := Lib.hid hB.size
  replace HB := Lib.hid (HB.out.trans (hB.mono HB.out.size))
  have HI_x := Lib.hid i_x; have HD_x := Lib.hid d_x
  obtain ⟨va_x, vn_x, vc_x, e_x⟩ := sl_form (is_sl_FileS i_x) (rd_of (ownL_one.1 ho))
  rw [e_x]
  have HE_x := Lib.hid e_x
  clear hB ho hn hb i_x d_x e_x
  go_wp2_with fail
  refine ((HD.out ▸ isvS_data ho_l HD_x.out HE_x.out (rd_of (ownL_one.1 Hx.out)) HHZ.out HFF.out)).mono ?_
  rintro e w_3 ⟨rfl, hb⟩
  have hB := hb
  replace q_l0 := (hB.cell (show (⟨w.heap.size, 0, none⟩ : Addr).block < _ from World.block_lt_of_cell? _ _ q_l0)).trans q_l0
  replace q_l1 := (hB.cell (show (⟨w.heap.size, 1, none⟩ : Addr).block < _ from World.block_lt_of_cell? _ _ q_l1)).trans q_l1
  replace b_l : w.heap.size < w_3.heap.size := World.block_lt_of_cell? _ _ q_l0
  replace Hx := Lib.hid (ownL_later Hx.out hB)
  have HS3 := Lib.hid hB.size
  replace HB := Lib.hid (HB.out.trans (hB.mono HB.out.size))
  clear hB hb
  go_wp2_with fail
  refine (toL_Server ho_l (rwF (.slice va_l vn_l vc_l) fs_l) _ (rwF_is _ _) (rwF_reads ((HRF_l.out.below HB.out (Nat.le_refl _)).mono HB.out.size)) (by have := HWF_l.out; omega)).mono ?_
  rintro e w_4 ⟨y_y, rfl, i_y, d_y, ho, hn, hb⟩
  have hB := hb
  replace q_l0 := (hB.cell (show (⟨w.heap.size, 0, none⟩ : Addr).block < _ from World.block_lt_of_cell? _ _ q_l0)).trans q_l0
  replace q_l1 := (hB.cell (show (⟨w.heap.size, 1, none⟩ : Addr).block < _ from World.block_lt_of_cell? _ _ q_l1)).trans q_l1
  replace b_l : w.heap.size < w_4.heap.size := World.block_lt_of_cell? _ _ q_l0
  replace Hx := Lib.hid (ownL_later Hx.out hB)
  have Hy := Lib.hid (ho)
  have HS4 := Lib.hid hB.size
  replace HB := Lib.hid (HB.out.trans (hB.mono HB.out.size))
  have HI_y := Lib.hid i_y; have HD_y := Lib.hid d_y
  obtain ⟨va_y, vn_y, vc_y, e_y⟩ := sl_form (is_sl_FileS i_y) (rd_of (ownL_one.1 ho))
  rw [e_y]
  have HE_y := Lib.hid e_y
  clear hB ho hn hb i_y d_y e_y
  go_wp2_with fail
  obtain ⟨w_5, hw⟩ : ∃ x, w_4.alloc (.cells #[.string ho_l, .slice va_y vn_y vc_y] 29) = x := ⟨_, rfl⟩
  rw [hw]
  have hB : Below w_4.heap.size w_4 w_5 := by rw [← hw]; exact (Below.refl _ _).alloc (Nat.le_refl _) _
  have q_y0 : w_5.cell? ⟨w_4.heap.size, 0, none⟩ = some (.string ho_l) := by rw [← hw]; simp
  have q_y1 : w_5.cell? ⟨w_4.heap.size, 1, none⟩ = some (.slice va_y vn_y vc_y) := by rw [← hw]; simp
  have b_y : w_4.heap.size < w_5.heap.size := World.block_lt_of_cell? _ _ q_y0
  replace q_l0 := (hB.cell (show (⟨w.heap.size, 0, none⟩ : Addr).block < _ from World.block_lt_of_cell? _ _ q_l0)).trans q_l0
  replace q_l1 := (hB.cell (show (⟨w.heap.size, 1, none⟩ : Addr).block < _ from World.block_lt_of_cell? _ _ q_l1)).trans q_l1
  replace b_l : w.heap.size < w_5.heap.size := World.block_lt_of_cell? _ _ q_l0
  replace Hx := Lib.hid (ownL_later Hx.out hB)
  replace Hy := Lib.hid (ownL_later Hy.out hB)
  have HS5 := Lib.hid hB.size
  replace HB := Lib.hid (HB.out.trans (hB.mono HB.out.size))
  clear hB hw
  have HSb_y := Lib.hid b_y
  go_wp2_with fail
  refine ((HD.out ▸ isvI_data ho_l HD_y.out HE_y.out (rd_of (ownL_one.1 Hy.out)) HHZ.out HFF.out (HMX.out.on HB.out))).mono ?_
  rintro e w_6 ⟨rfl, hb⟩
  have hB := hb
  replace q_l0 := (hB.cell (show (⟨w.heap.size, 0, none⟩ : Addr).block < _ from World.block_lt_of_cell? _ _ q_l0)).trans q_l0
  replace q_l1 := (hB.cell (show (⟨w.heap.size, 1, none⟩ : Addr).block < _ from World.block_lt_of_cell? _ _ q_l1)).trans q_l1
  replace b_l : w.heap.size < w_6.heap.size := World.block_lt_of_cell? _ _ q_l0
  replace q_y0 := (hB.cell (show (⟨w_4.heap.size, 0, none⟩ : Addr).block < _ from World.block_lt_of_cell? _ _ q_y0)).trans q_y0
  replace q_y1 := (hB.cell (show (⟨w_4.heap.size, 1, none⟩ : Addr).block < _ from World.block_lt_of_cell? _ _ q_y1)).trans q_y1
  replace b_y : w_4.heap.size < w_6.heap.size := World.block_lt_of_cell? _ _ q_y0
  replace Hx := Lib.hid (ownL_later Hx.out hB)
  replace Hy := Lib.hid (ownL_later Hy.out hB)
  have HS6 := Lib.hid hB.size
  replace HB := Lib.hid (HB.out.trans (hB.mono HB.out.size))
  clear hB hb
  go_upto_region 10 with (fail)
  go_cut [26] from 22 to 26 (fun c wx => c = .bool false ∧ Below w_6.heap.size w_6 wx)
  case first =>
    have hreadF := (rwF_reads ((HRF_l.out.below HB.out (Nat.le_refl _)).mono HB.out.size)).up (Grw.refl _).drew
    go_region_with (first | (go_at_call 8; refine (toL_Server ho_l (rwF (.slice va_l vn_l vc_l) fs_l) _ (rwF_is _ _) ?_ (by have := HWF_l.out; omega)).mono ?_; (exact hreadF); rintro e w_A ⟨y_w, rfl, i_w, d_w, ho_w, hn_w, hb_w⟩; obtain ⟨va_w, vn_w, vc_w, e_w⟩ := sl_form (is_sl_FileS i_w) (rd_of (ownL_one.1 ho_w)); rw [e_w]; have hO := ownL_later Hy.out (below_undrew hb_w); have hsA := (below_undrew hb_w).size; (first | have qA_l0 := (hb_w.cell (p := ⟨w.heap.size, 0, none⟩) b_l).trans q_l0 | skip); (first | have qA_l1 := (hb_w.cell (p := ⟨w.heap.size, 1, none⟩) b_l).trans q_l1 | skip); (first | have qA_y0 := (hb_w.cell (p := ⟨w_4.heap.size, 0, none⟩) b_y).trans q_y0 | skip); (first | have qA_y1 := (hb_w.cell (p := ⟨w_4.heap.size, 1, none⟩) b_y).trans q_y1 | skip)) | (go_at_call 10; refine (eqV_Server ho_l y_y y_w _ _ HE_y.out e_w _ HI_y.out i_w (HD_y.out.trans d_w.symm) (rd_of (ownL_one.1 hO)) (rd_of (ownL_one.1 ho_w))).mono ?_; rintro e w_C ⟨rfl, hgC⟩))
    all_goals
      have hB := (below_undrew hb_w).trans (hgC.below.mono hsA)
      go_wp2_with fail
      go_meet
      exact ⟨rfl, hB⟩
  obtain ⟨rfl, hB⟩ := hcut
  rename World => w_7
  replace q_l0 := (hB.cell (show (⟨w.heap.size, 0, none⟩ : Addr).block < _ from World.block_lt_of_cell? _ _ q_l0)).trans q_l0
  replace q_l1 := (hB.cell (show (⟨w.heap.size, 1, none⟩ : Addr).block < _ from World.block_lt_of_cell? _ _ q_l1)).trans q_l1
  replace b_l : w.heap.size < w_7.heap.size := World.block_lt_of_cell? _ _ q_l0
  replace q_y0 := (hB.cell (show (⟨w_4.heap.size, 0, none⟩ : Addr).block < _ from World.block_lt_of_cell? _ _ q_y0)).trans q_y0
  replace q_y1 := (hB.cell (show (⟨w_4.heap.size, 1, none⟩ : Addr).block < _ from World.block_lt_of_cell? _ _ q_y1)).trans q_y1
  replace b_y : w_4.heap.size < w_7.heap.size := World.block_lt_of_cell? _ _ q_y0
  replace Hx := Lib.hid (ownL_later Hx.out hB)
  replace Hy := Lib.hid (ownL_later Hy.out hB)
  have HS7 := Lib.hid hB.size
  replace HB := Lib.hid (HB.out.trans (hB.mono HB.out.size))
  clear hB
  go_wp2_with fail
  go_ret
  exact ⟨rfl, HB.out⟩

end Go.Proofs.YtpkicliimhflgaaDoor
namespace Go.Proofs.YtpkicliimhflgaaDoor
open Go.ChangeShapes Go.WideShapes Go.ChangeAt Go.RowKit

set_option maxRecDepth 100000 in
set_option maxHeartbeats 4000000 in
theorem walkAreServers (va_l : Option Addr) (vn_l vc_l : Nat) (sv_l : List Se) (w : World) (hmx : Max0 w) (r_l : IsSvs w (.slice va_l vn_l vc_l) sv_l) :
    Calls Tryd.prog 5 #[.slice va_l vn_l vc_l] w fun e w' => e = .returned (.bool true) ∧ Below w.heap.size w w' := by
  have HMX := Lib.hid hmx; clear hmx
  obtain ⟨hrh_l, hoh_l⟩ := r_l
  have HRH_l := Lib.hid hrh_l; have HOH_l := Lib.hid hoh_l; have HSM_l := Lib.hid (rwV_small (v := .slice va_l vn_l vc_l) hoh_l); clear hrh_l hoh_l
  go_enter Tryd.func5, Tryd.ntmps5
  have HB := Lib.hid (Below.refl w.heap.size w)
  go_wp2_with fail
  refine (sz_ServerS (rwV (.slice va_l vn_l vc_l) sv_l) (rwV_is _ _) 1048576 (by omega) (by omega) _ (rwV_reads ((HRH_l.out.below HB.out (Nat.le_refl _)).mono HB.out.size)) HSM_l.out).mono ?_
  rintro e w_1 ⟨r, rfl, lo_r, hi_r, hg⟩
  have hB := hg.below
  have HS1 := Lib.hid hB.size
  replace HB := Lib.hid (HB.out.trans (hB.mono HB.out.size))
  clear hB hg
  by_cases neg_r : r < 0
  · go_wp2_with fail
    go_ret
    exact ⟨rfl, HB.out⟩
  replace hi_r := hi_r (by omega)
  have hu_r : r ≤ 1048576 := by omega
  have HWH_l := Lib.hid (show (rwV (.slice va_l vn_l vc_l) sv_l).weight ≤ 1048576 by omega); clear hi_r
  have HSO_l := Lib.hid (ssOk_of HWH_l.out)
  obtain ⟨D, hD⟩ : ∃ D, arSv (sv_l.map Prod.fst) = D := ⟨_, rfl⟩
  have HD := Lib.hid hD; clear hD
  have hDD : (D == D) = true := beq_self_eq_true _; have hDN : (D != D) = false := by rw [bne, hDD]; rfl
  go_wp2_with fail
  refine (toV_one _ sv_l _ (rwV_reads ((HRH_l.out.below HB.out (Nat.le_refl _)).mono HB.out.size)) HWH_l.out).mono ?_
  rintro e w_2 ⟨y_x, rfl, i_x, d_x, ho, hn, hb⟩
  have hB := hb
  have Hx := Lib.hid (ho)
  have HS2 := Lib.hid hB.size
  replace HB := Lib.hid (HB.out.trans (hB.mono HB.out.size))
  have HI_x := Lib.hid i_x; have HD_x := Lib.hid d_x; have HN_x := Lib.hid hn
  obtain ⟨c_x, hc_x⟩ : ∃ c, y_x.cell = c := ⟨_, rfl⟩
  rw [hc_x]
  have HC_x := Lib.hid hc_x
  clear hB ho hn hb i_x d_x hc_x
  go_wp2_with fail
  refine ((HC_x.out ▸ HD.out ▸ arsS_data HD_x.out (rd_of (ownL_one.1 Hx.out)) HSO_l.out)).mono ?_
  rintro e w_3 ⟨rfl, hb⟩
  have hB := hb
  replace Hx := Lib.hid (ownL_later Hx.out hB)
  have HS3 := Lib.hid hB.size
  replace HB := Lib.hid (HB.out.trans (hB.mono HB.out.size))
  clear hB hb
  go_wp2_with fail
  refine (toV_one _ sv_l _ (rwV_reads ((HRH_l.out.below HB.out (Nat.le_refl _)).mono HB.out.size)) HWH_l.out).mono ?_
  rintro e w_4 ⟨y_y, rfl, i_y, d_y, ho, hn, hb⟩
  have hB := hb
  replace Hx := Lib.hid (ownL_later Hx.out hB)
  have Hy := Lib.hid (ho)
  have HS4 := Lib.hid hB.size
  replace HB := Lib.hid (HB.out.trans (hB.mono HB.out.size))
  have HI_y := Lib.hid i_y; have HD_y := Lib.hid d_y; have HN_y := Lib.hid hn
  obtain ⟨c_y, hc_y⟩ : ∃ c, y_y.cell = c := ⟨_, rfl⟩
  rw [hc_y]
  have HC_y := Lib.hid hc_y
  clear hB ho hn hb i_y d_y hc_y
  go_wp2_with fail
  refine ((HC_y.out ▸ HD.out ▸ arsI_data HD_y.out (rd_of (ownL_one.1 Hy.out)) HSO_l.out (HMX.out.on HB.out))).mono ?_
  rintro e w_5 ⟨rfl, hb⟩
  have hB := hb
  replace Hx := Lib.hid (ownL_later Hx.out hB)
  replace Hy := Lib.hid (ownL_later Hy.out hB)
  have HS5 := Lib.hid hB.size
  replace HB := Lib.hid (HB.out.trans (hB.mono HB.out.size))
  clear hB hb
  go_wp2_with fail
  refine (toV_one _ sv_l _ (rwV_reads ((HRH_l.out.below HB.out (Nat.le_refl _)).mono HB.out.size)) HWH_l.out).mono ?_
  rintro e w_6 ⟨y_z, rfl, i_z, d_z, ho, hn, hb⟩
  have hB := hb
  replace Hx := Lib.hid (ownL_later Hx.out hB)
  replace Hy := Lib.hid (ownL_later Hy.out hB)
  have Hz := Lib.hid (ho)
  have HS6 := Lib.hid hB.size
  replace HB := Lib.hid (HB.out.trans (hB.mono HB.out.size))
  have HI_z := Lib.hid i_z; have HD_z := Lib.hid d_z; have HN_z := Lib.hid hn
  obtain ⟨c_z, hc_z⟩ : ∃ c, y_z.cell = c := ⟨_, rfl⟩
  rw [hc_z]
  have HC_z := Lib.hid hc_z
  clear hB ho hn hb i_z d_z hc_z
  go_wp2_with fail
  refine ((HC_y.out ▸ HC_z.out ▸ eq_ServerS y_y y_z HI_y.out HI_z.out (HD_y.out.trans HD_z.out.symm) _ (rd_of (ownL_one.1 Hy.out)) (rd_of (ownL_one.1 Hz.out)))).mono ?_
  rintro e w_7 ⟨rfl, hg⟩
  have hB := hg.below
  replace Hx := Lib.hid (ownL_later Hx.out hB)
  replace Hy := Lib.hid (ownL_later Hy.out hB)
  replace Hz := Lib.hid (ownL_later Hz.out hB)
  have HS7 := Lib.hid hB.size
  replace HB := Lib.hid (HB.out.trans (hB.mono HB.out.size))
  clear hB hg
  go_wp2_with fail
  go_ret
  exact ⟨rfl, HB.out⟩

end Go.Proofs.YtpkicliimhflgaaDoor
namespace Go.Proofs.YtpkicliimhflgaaDoor
theorem handed_both {H : Type} {enc : TypeId × Value → H} {a : Assume} {C : Checked} {os : Os} {f : FuncId} {fn : Func} {s : ChangeSpec} {conds : List PathCond} {apart fresh handsOn again : Bool} {X : World → Array Value → Prop}
    (keepX : ∀ (u v : World) (xs : Array Value), u.heap = v.heap → X u xs → X v xs) (hown : ownKnob C.prog.godebug = none) (hst : os.Started) (hni : C.prog.inits.idxOf? f = none) (hf : C.prog.funcs[f]? = some fn)
    (some_fits : ∃ (w : World) (tape : Tape) (i : Input), w.os = os ∧ (w.forCall tape i).Shaped C.prog ∧ i.vars = [] ∧ Input.okWide C.prog (w.forCall tape i) .any w.heap.size f i ∧
      ((s.pre enc C.prog fn conds apart (w.forCall tape i).memory i.args ∧ X (w.forCall tape i).memory i.args) ∧ sizedMet enc C.prog fn (OpenSpec.ofChange s) apart (w.forCall tape i).memory i.args) ∧ a.holds C.prog (lone (Frame.enter C.prog f i.args .normal) [] (w.forCall tape i)))
    (walk : ∀ (W : World) (base : Nat) (args : Array Value) (ds gs : List (DataW H)) (before : List MemPlace),
      (∀ (j : Nat) t v, fn.params[j]? = some t → args[j]? = some v → Value.okWide C.prog W .any base t v) →
      DataW.Whole enc C.prog fn.params.toList s.vars apart W args.toList ds gs before → X W args → W.ShapedOpen C.prog →
      Calls C.prog f args W fun e W' => ∃ v, e = .returned v ∧ s.post enc C.prog fn apart fresh handsOn again W args v W') :
    ReturnsInHanded a C os f .any (fun w args => (s.pre enc C.prog fn conds apart w args ∧ X w args) ∧ sizedMet enc C.prog fn (OpenSpec.ofChange s) apart w args) (s.post enc C.prog fn apart fresh handsOn again) := by
  refine returnsInHanded_of_calls hown hst hni some_fits fun w tape i _ shape _ fits met _ => ?_
  obtain ⟨_, _, _, g, hg, _, _, _, _, each⟩ := fits
  obtain rfl : g = fn := Option.some.inj (hg.symm.trans hf)
  obtain ⟨⟨⟨ds, gs, before, whole, _⟩, x0⟩, _⟩ := met
  refine (walk (w.forCall tape i) w.heap.size i.args ds gs before each (DataW.Whole.of_heap (w' := w.forCall tape i) (by rfl) whole) (keepX _ _ _ (by rfl) x0) shape).mono ?_
  rintro e W' ⟨v, rfl, hp⟩
  exact ChangeSpec.post_blind hp

end Go.Proofs.YtpkicliimhflgaaDoor
