/- Helper contracts: CountName and TextOf of the program and of the model. Asked: the builder lies in memory as named. -/
import Derived.Test.YtgcdfkpidcdicaaGreatDoorTr
namespace Go.Proofs.YtgcdfkpidcdicaaGreatDoor
open Go.ChangeShapes Go.WideShapes Go.ChangeAt Go.RowKit

theorem count_more {ns : List Nd} {s : ByteArray} {k : Nat} {x : Nd} (h : ns[k]? = some x) : countName (ns.take (k + 1)) s = countName (ns.take k) s + (if (x.name.toList == s.toList) = true then 1 else 0) := by
  induction ns generalizing k with
  | nil => simp at h
  | cons y ns ih =>
    cases k with
    | zero =>
      have : y = x := by simpa using h
      subst this
      simp [countName]
    | succ k =>
      rw [List.take_succ_cons, List.take_succ_cons, countName, countName, ih (by simpa using h)]; omega
theorem count_le : ∀ (ns : List Nd) (s : ByteArray), countName ns s ≤ ns.length
  | [], s => Nat.le_refl _
  | x :: ns, s => by
    have := count_le ns s
    rw [countName, List.length_cons]; split <;> omega
theorem map_fst_at {ns : List Nv} {l : List Nd} (h : ns.map Prod.fst = l) {k : Nat} {p : Nv} (hp : ns[k]? = some p) : l[k]? = some p.1 := by
  subst h; rw [List.getElem?_map, hp]; rfl

set_option maxRecDepth 100000 in
set_option maxHeartbeats 2000000 in
theorem count_spec (nv ov : Value) (b : Bd) (s : ByteArray) (w : World) (hb : BdIn w.heap.size w nv ov b) :
    Calls Tryz.prog 89 #[.agg #[nv, ov], .string s] w fun e w' => e = .returned (.int .i64 (countName b.nodes s : Int)) ∧ Grw w w' := by
  obtain ⟨ns, hns, hrn, hro⟩ := hb
  obtain ⟨oa, oc, rfl, _⟩ := reads_form hro
  obtain ⟨on, hon⟩ : ∃ n, b.opn.length = n := ⟨_, rfl⟩
  rw [hon]; clear hro hon
  obtain ⟨a, cap, rfl, hc1, hc2⟩ := hrn.form
  obtain ⟨n, hn⟩ : ∃ n, ns.length = n := ⟨_, rfl⟩
  rw [hn] at hc1 hrn ⊢
  have hnl : b.nodes.length = n := by rw [← hns, List.length_map, hn]
  have hg0 := (Grw.refl w).alloc (.cells #[.slice a n cap, .slice oa on oc] 40)
  have HR := Lib.hid (hrn.below hg0.below (Nat.le_refl _)); have HN := Lib.hid hn; have HNS := Lib.hid hns; have HNL := Lib.hid hnl
  obtain ⟨cn, hcn⟩ : ∃ f : Nat → Nat, f = fun m => countName (b.nodes.take m) s := ⟨_, rfl⟩
  have HCN := Lib.hid hcn
  have HCL := Lib.hid (fun m => show cn m ≤ m by rw [hcn]; have h1 := count_le (b.nodes.take m) s; rw [List.length_take] at h1; show countName (b.nodes.take m) s ≤ m; omega)
  have q0 : (w.alloc (.cells #[.slice a n cap, .slice oa on oc] 40)).cell? ⟨w.heap.size, 0, none⟩ = some (.slice a n cap) := by simp
  have HQ := Lib.hid q0; have HG0 := Lib.hid hg0
  clear hrn hn hns hnl hcn q0 hg0
  go_enter Tryz.func89, Tryz.ntmps89
  go_wp2
  go_loopw [5, 6] (fun c i wr => ∃ (k : Nat), k ≤ n ∧ i = .int .i64 k ∧ c = .int .i64 (cn k : Int) ∧ wr = w.alloc (.cells #[.slice a n cap, .slice oa on oc] 40))
    (fun _ i _ => n - (intOf i).toNat)
  case atStart => exact ⟨0, Nat.zero_le _, rfl, by rw [HCN.out]; rfl, rfl⟩
  case round =>
    obtain ⟨k, hk, rfl, rfl, rfl⟩ := hrel
    have q0 := HQ.out
    by_cases hlt : (k : Int) < (n : Int)
    · obtain ⟨p, hp⟩ := nd_at (ns := ns) (k := k) (by have := HN.out; omega)
      obtain ⟨g, off, rfl, hg, c0, _⟩ := HR.out.at hp
      have hm := count_more (s := s) (map_fst_at HNS.out hp)
      have HM := Lib.hid (show cn (k + 1) = cn k + _ by rw [HCN.out]; exact hm)
      have hcl := HCL.out k
      clear hm hp
      obtain ⟨⟨nd, sl⟩, rfl⟩ : ∃ q : Nv, p = q := ⟨p, rfl⟩
      obtain ⟨x, hx⟩ : ∃ x, nd.name = x := ⟨_, rfl⟩
      replace c0 : _ = some (Value.string nd.name) := c0
      replace HM := Lib.hid (show cn (k + 1) = cn k + (if (nd.name.toList == s.toList) = true then 1 else 0) from HM.out)
      rw [hx] at c0 HM
      clear hx
      cases he : (x.toList == s.toList) with
      | true =>
        rw [he, if_pos rfl] at HM
        go_wp2
        go_roundw
        case rel => exact ⟨k + 1, by omega, by go_num, by rw [HM.out]; go_num, by first | trivial | rfl⟩
        case measure => simp [intOf]; omega
      | false =>
        rw [he, if_neg (by decide)] at HM
        go_wp2
        go_roundw
        case rel => exact ⟨k + 1, by omega, by go_num, by rw [HM.out]; rfl, by first | trivial | rfl⟩
        case measure => simp [intOf]; omega
    · have hkn : k = n := by omega
      subst hkn
      have HF := Lib.hid (show cn k = countName b.nodes s by rw [HCN.out]; show countName (b.nodes.take k) s = _; rw [List.take_of_length_le (by rw [HNL.out]; exact Nat.le_refl _)])
      go_wp2
      go_ret
      exact ⟨by rw [HF.out]; rfl, HG0.out⟩
set_option maxRecDepth 100000 in
set_option maxHeartbeats 2000000 in
theorem count_impl (nv ov : Value) (b : Bd) (s : ByteArray) (w : World) (hb : BdIn w.heap.size w nv ov b) :
    Calls Tryz.prog 262 #[.agg #[nv, ov], .string s] w fun e w' => e = .returned (.int .i64 (countName b.nodes s : Int)) ∧ Grw w w' := by
  obtain ⟨ns, hns, hrn, hro⟩ := hb
  obtain ⟨oa, oc, rfl, _⟩ := reads_form hro
  obtain ⟨on, hon⟩ : ∃ n, b.opn.length = n := ⟨_, rfl⟩
  rw [hon]; clear hro hon
  obtain ⟨a, cap, rfl, hc1, hc2⟩ := hrn.form
  obtain ⟨n, hn⟩ : ∃ n, ns.length = n := ⟨_, rfl⟩
  rw [hn] at hc1 hrn ⊢
  have hnl : b.nodes.length = n := by rw [← hns, List.length_map, hn]
  have hg0 := (Grw.refl w).alloc (.cells #[.slice a n cap, .slice oa on oc] 40)
  have HR := Lib.hid (hrn.below hg0.below (Nat.le_refl _)); have HN := Lib.hid hn; have HNS := Lib.hid hns; have HNL := Lib.hid hnl
  obtain ⟨cn, hcn⟩ : ∃ f : Nat → Nat, f = fun m => countName (b.nodes.take m) s := ⟨_, rfl⟩
  have HCN := Lib.hid hcn
  have HCL := Lib.hid (fun m => show cn m ≤ m by rw [hcn]; have h1 := count_le (b.nodes.take m) s; rw [List.length_take] at h1; show countName (b.nodes.take m) s ≤ m; omega)
  have q0 : (w.alloc (.cells #[.slice a n cap, .slice oa on oc] 40)).cell? ⟨w.heap.size, 0, none⟩ = some (.slice a n cap) := by simp
  have HQ := Lib.hid q0; have HG0 := Lib.hid hg0
  clear hrn hn hns hnl hcn q0 hg0
  go_enter Tryz.func262, Tryz.ntmps262
  go_wp2
  go_loopw [5, 10] (fun c i wr => ∃ (k : Nat), k ≤ n ∧ i = .int .i64 k ∧ c = .int .i64 (cn k : Int) ∧ wr = w.alloc (.cells #[.slice a n cap, .slice oa on oc] 40))
    (fun _ i _ => n - (intOf i).toNat)
  case atStart => exact ⟨0, Nat.zero_le _, rfl, by rw [HCN.out]; rfl, rfl⟩
  case round =>
    obtain ⟨k, hk, rfl, rfl, rfl⟩ := hrel
    have q0 := HQ.out
    by_cases hlt : (k : Int) < (n : Int)
    · obtain ⟨p, hp⟩ := nd_at (ns := ns) (k := k) (by have := HN.out; omega)
      obtain ⟨g, off, rfl, hg, c0, _⟩ := HR.out.at hp
      have hm := count_more (s := s) (map_fst_at HNS.out hp)
      have HM := Lib.hid (show cn (k + 1) = cn k + _ by rw [HCN.out]; exact hm)
      have hcl := HCL.out k
      clear hm hp
      obtain ⟨⟨nd, sl⟩, rfl⟩ : ∃ q : Nv, p = q := ⟨p, rfl⟩
      obtain ⟨x, hx⟩ : ∃ x, nd.name = x := ⟨_, rfl⟩
      replace c0 : _ = some (Value.string nd.name) := c0
      replace HM := Lib.hid (show cn (k + 1) = cn k + (if (nd.name.toList == s.toList) = true then 1 else 0) from HM.out)
      rw [hx] at c0 HM
      clear hx
      have HNA := Lib.hid (nodeAt_in w.heap.size g off n cap k _ q0 (by omega) (by omega))
      cases he : (x.toList == s.toList) with
      | true =>
        rw [he, if_pos rfl] at HM
        go_wp2_with (go_at_call 80; refine HNA.out.mono ?_; rintro e w' ⟨rfl, rfl⟩)
        go_roundw
        case rel => exact ⟨k + 1, by omega, by go_num, by rw [HM.out]; go_num, by first | trivial | rfl⟩
        case measure => simp [intOf]; omega
      | false =>
        rw [he, if_neg (by decide)] at HM
        go_wp2_with (go_at_call 80; refine HNA.out.mono ?_; rintro e w' ⟨rfl, rfl⟩)
        go_roundw
        case rel => exact ⟨k + 1, by omega, by go_num, by rw [HM.out]; rfl, by first | trivial | rfl⟩
        case measure => simp [intOf]; omega
    · have hkn : k = n := by omega
      subst hkn
      have HF := Lib.hid (show cn k = countName b.nodes s by rw [HCN.out]; show countName (b.nodes.take k) s = _; rw [List.take_of_length_le (by rw [HNL.out]; exact Nat.le_refl _)])
      go_wp2
      go_ret
      exact ⟨by rw [HF.out]; rfl, HG0.out⟩
end Go.Proofs.YtgcdfkpidcdicaaGreatDoor
