/- Facts for ParsePolicy: how long what is read is, what the call owns. No claim of its own. -/
import Derived.Test.YtkjjiinccljhjaaDoorPrsH
import Derived.Test.YtkjjiinccljhjaaDoorPolC
namespace Go.Proofs.YtkjjiinccljhjaaDoor
open Go.ChangeShapes Go.WideShapes Go.ChangeAt Go.RowKit

theorem join_len (c : UInt8) : ∀ (p : List UInt8) (ps : List (List UInt8)), (joinB c (p :: ps)).length = p.length + (ps.map List.length).sum + ps.length
  | p, [] => by show p.length = _; simp
  | p, q :: ps => by
    have ih := join_len c q ps
    show (p ++ c :: joinB c (q :: ps)).length = _
    rw [List.length_append, List.length_cons, ih, List.map_cons, List.sum_cons, List.length_cons]; omega
theorem sum_ofL (ps : List (List UInt8)) : sumSt (ps.map ofL) = (ps.map List.length).sum := by
  unfold sumSt
  rw [List.map_map]
  exact congrArg List.sum (List.map_congr_left fun p _ => ofL_size p)
theorem sp_small {c : UInt8} {l : List UInt8} : (splS c l).tail.length + sumSt (splS c l).tail ≤ l.length := by
  have hj := joinB_split c l
  cases hs : splitB c l with
  | nil => exact absurd hs (splitB_ne _ _)
  | cons p ps =>
    rw [hs] at hj
    have h := join_len c p ps
    rw [hj] at h
    have e : (splS c l).tail = ps.map ofL := by unfold splS; rw [hs]; rfl
    rw [e, sum_ofL, List.length_map]; omega
theorem sp_piece {c : UInt8} {l : List UInt8} {p : ByteArray} (h : p ∈ splS c l) : p.size ≤ l.length := by
  unfold splS at h
  obtain ⟨q, hq, rfl⟩ := List.mem_map.1 h
  rw [ofL_size]; exact splitB_piece hq
theorem cut_len (l m : List UInt8) : (Lib.cut l m).1.length ≤ l.length ∧ (Lib.cut l m).2.1.length ≤ l.length := by
  unfold Lib.cut
  split
  · exact ⟨by rw [List.length_take]; omega, by rw [List.length_drop]; omega⟩
  · exact ⟨Nat.le_refl _, Nat.zero_le _⟩
theorem hosts_small {s p : ByteArray} {c : UInt8} {l : List UInt8} (hl : l.length ≤ s.size) (hs : s.size ≤ 1048576) (h : p ∈ splS c l) : (splS 32 p.data.toList).tail.length + sumSt (splS 32 p.data.toList).tail ≤ 1048576 := by
  have h1 := sp_small (c := 32) (l := p.data.toList)
  have h2 := sp_piece h
  rw [size_list] at h1
  omega
theorem polZ_sm : PolSm polZ := ⟨by decide, by decide, by decide, by decide⟩
theorem rdI_sm {s : ByteArray} (hs : s.size ≤ 1048576) : PolSm (rdI s) := by
  have hc := cut_len s.data.toList kNon.data.toList
  rw [size_list] at hc
  unfold rdI
  split
  · rename_i a b c he
    refine ⟨hosts_small hc.1 hs (c := 59) (by rw [he]; simp), hosts_small hc.1 hs (c := 59) (by rw [he]; simp), hosts_small hc.1 hs (c := 59) (by rw [he]; simp), ?_⟩
    show (ofL _).size ≤ _
    rw [ofL_size]; omega
  · exact polZ_sm
theorem rdM_sm {s : ByteArray} {q : Pol} (hs : s.size ≤ 1048576) (h : rdM s = some q) : PolSm q := by
  have hl : s.data.toList.length ≤ s.size := by rw [size_list]; exact Nat.le_refl _
  unfold rdM at h
  split at h
  · rename_i a b c ds he
    injection h with h
    subst h
    refine ⟨hosts_small hl hs (c := 59) (by rw [he]; simp), hosts_small hl hs (c := 59) (by rw [he]; simp), hosts_small hl hs (c := 59) (by rw [he]; simp), ?_⟩
    cases ds with
    | nil => exact Nat.zero_le _
    | cons d ds =>
      have h1 := sp_piece (c := 59) (l := s.data.toList) (p := d) (by rw [he]; simp)
      show (if 6 < d.size then d.extract 6 d.size else ⟨#[]⟩).size ≤ _
      split
      · rw [ByteArray.size_extract]; omega
      · exact Nat.zero_le _
  · cases h
/-- The three lists of hosts of a policy that the call made, wherever they begin in their blocks. -/
def Own3O (lo : Nat) (w : World) (v1 v2 v3 : Value) (xs ys zs : List ByteArray) : Prop := OwnO lo w.heap.size w v1 xs ∧ OwnO lo w.heap.size w v2 ys ∧ OwnO lo w.heap.size w v3 zs ∧ (blkO v1 xs ++ (blkO v2 ys ++ blkO v3 zs)).Nodup
theorem Own3O.reads {lo : Nat} {w : World} {v1 v2 v3 : Value} {p : Pol} (h : Own3O lo w v1 v2 v3 p.scr p.sty p.img) : ReadP w.heap.size w v1 v2 v3 p := ⟨h.1.reads, h.2.1.reads, h.2.2.1.reads⟩
theorem Own3O.later {lo : Nat} {w w' : World} {v1 v2 v3 : Value} {xs ys zs : List ByteArray} (h : Own3O lo w v1 v2 v3 xs ys zs) (hb : Below w.heap.size w w') : Own3O lo w' v1 v2 v3 xs ys zs := ⟨(h.1.later hb).top, (h.2.1.later hb).top, (h.2.2.1.later hb).top, h.2.2.2⟩
theorem Own3O.low {lo lo' : Nat} {w : World} {v1 v2 v3 : Value} {xs ys zs : List ByteArray} (h : Own3O lo w v1 v2 v3 xs ys zs) (hl : lo' ≤ lo) : Own3O lo' w v1 v2 v3 xs ys zs := ⟨h.1.mono hl (Nat.le_refl _), h.2.1.mono hl (Nat.le_refl _), h.2.2.1.mono hl (Nat.le_refl _), h.2.2.2⟩
theorem Own3O.only {lo : Nat} {w w' : World} {bs : List Nat} {v1 v2 v3 : Value} {xs ys zs : List ByteArray} (h : Own3O lo w v1 v2 v3 xs ys zs) (hb : OnlyB bs w w') (hn : ∀ b ∈ bs, b < lo) : Own3O lo w' v1 v2 v3 xs ys zs := by
  have f : ∀ {v : Value} {us : List ByteArray}, OwnO lo w.heap.size w v us → OwnO lo w'.heap.size w' v us := fun o => (o.only hb fun b hv hm => by have := (o.blk b hv).1; have := hn b hm; omega).top
  exact ⟨f h.1, f h.2.1, f h.2.2.1, h.2.2.2⟩
theorem own3O_zero (lo : Nat) (w : World) : Own3O lo w (.slice none 0 0) (.slice none 0 0) (.slice none 0 0) [] [] [] := ⟨ownO_none _ _ _, ownO_none _ _ _, ownO_none _ _ _, by decide⟩
theorem own3O_of {B l1 h1 l2 h2 l3 h3 : Nat} {w : World} {v1 v2 v3 : Value} {xs ys zs : List ByteArray} (o1 : OwnO l1 h1 w v1 xs) (o2 : OwnO l2 h2 w v2 ys) (o3 : OwnO l3 h3 w v3 zs)
    (b1 : B ≤ l1) (b2 : B ≤ l2) (b3 : B ≤ l3) (d12 : h1 ≤ l2) (d13 : h1 ≤ l3) (d23 : h2 ≤ l3) : Own3O B w v1 v2 v3 xs ys zs := by
  have n : ∀ (v : Value) (us : List ByteArray), (blkO v us).Nodup := fun v us => by unfold blkO; split <;> (cases v.ownBlock <;> simp)
  refine ⟨(o1.mono b1 (Nat.le_refl _)).top, (o2.mono b2 (Nat.le_refl _)).top, (o3.mono b3 (Nat.le_refl _)).top, List.nodup_append.2 ⟨n _ _, List.nodup_append.2 ⟨n _ _, n _ _, fun a ha b hb e => ?_⟩, fun a ha b hb e => ?_⟩⟩
  · have k2 := (o2.blk a ha).2.1; have k3 := (o3.blk b hb).1; omega
  · have k1 := (o1.blk a ha).2.1
    rcases List.mem_append.1 hb with hb | hb
    · have k2 := (o2.blk b hb).1; omega
    · have k3 := (o3.blk b hb).1; omega
/-- A policy that the call made. -/
def RdNew (p : Pol) (w : World) (e : Ending) (w' : World) : Prop :=
  ∃ (a1 : Option Addr) (n1 c1 : Nat) (a2 : Option Addr) (n2 c2 : Nat) (a3 : Option Addr) (n3 c3 : Nat), e = .returned (.agg #[.bool p.set, .slice a1 n1 c1, .slice a2 n2 c2, .slice a3 n3 c3, .string p.non]) ∧ Own3O w.heap.size w' (.slice a1 n1 c1) (.slice a2 n2 c2) (.slice a3 n3 c3) p.scr p.sty p.img ∧ Below w.heap.size w w'
/-- A policy that the call made, and whether it is one. -/
def PrsNew (r : Pol × Bool) (w : World) (e : Ending) (w' : World) : Prop :=
  ∃ (a1 : Option Addr) (n1 c1 : Nat) (a2 : Option Addr) (n2 c2 : Nat) (a3 : Option Addr) (n3 c3 : Nat), e = .returned (.tuple #[.agg #[.bool r.1.set, .slice a1 n1 c1, .slice a2 n2 c2, .slice a3 n3 c3, .string r.1.non], .bool r.2]) ∧ Own3O w.heap.size w' (.slice a1 n1 c1) (.slice a2 n2 c2) (.slice a3 n3 c3) r.1.scr r.1.sty r.1.img ∧ Below w.heap.size w w'
theorem finO {w Wc W1 W2 W3 : World} {p B l1 h1 l2 h2 l3 h3 : Nat} {T : TypeId} {z0 z1 z2 z3 z4 u0 u4 v1 v2 v3 : Value} {xs ys zs : List ByteArray} (hp : Wc.heap[p]? = some (.cells #[z0, z1, z2, z3, z4] T (0, 0))) (hpB : B ≤ p) (hb : Below B w Wc) (hB : B ≤ w.heap.size)
    (o1 : OwnO l1 h1 W1 v1 xs) (k1 : Below W1.heap.size W1 Wc) (o2 : OwnO l2 h2 W2 v2 ys) (k2 : Below W2.heap.size W2 Wc) (o3 : OwnO l3 h3 W3 v3 zs) (k3 : Below W3.heap.size W3 Wc)
    (p1 : p < l1) (p2 : p < l2) (p3 : p < l3) (d12 : h1 ≤ l2) (d13 : h1 ≤ l3) (d23 : h2 ≤ l3) :
    (set5 Wc p u0 v1 v2 v3 u4).heap[p]? = some (.cells #[u0, v1, v2, v3, u4] T (0, 0)) ∧ Own3O (p + 1) (set5 Wc p u0 v1 v2 v3 u4) v1 v2 v3 xs ys zs ∧ Below B w (set5 Wc p u0 v1 v2 v3 u4) := by
  have ho := set5_only Wc p u0 v1 v2 v3 u4
  have f : ∀ {lo hi : Nat} {W : World} {v : Value} {us : List ByteArray}, OwnO lo hi W v us → Below W.heap.size W Wc → p < lo → OwnO lo hi (set5 Wc p u0 v1 v2 v3 u4) v us := fun o k hlt => (o.later k).only ho fun b hv hm => by
    rw [List.mem_singleton] at hm
    have := (o.blk b hv).1; omega
  exact ⟨set5_box hp _ _ _ _ _, own3O_of (f o1 k1 p1) (f o2 k2 p2) (f o3 k3 p3) p1 p2 p3 d12 d13 d23, hb.trans (ho.below (fun i hi => by rw [List.mem_singleton] at hi; omega) (Nat.le_trans hB hb.size))⟩
theorem ob_dw {bs : List Nat} {w w' : World} (h : OnlyB bs w w') : OnlyB bs w w'.drew := ⟨h.os, h.tape, h.output, h.size, h.block⟩
theorem ob_aw {bs : List Nat} {w w' : World} (h : OnlyB bs w w') (o : Obj) : OnlyB bs w (w'.alloc o) := h.trans (OnlyB.of_below ((Below.refl _ _).alloc (Nat.le_refl _) o) bs)
theorem ob_st {p o : Nat} {w w' : World} (h : OnlyB [p] w w') (v : Value) : OnlyB [p] w (w'.setCell ⟨p, o, none⟩ v) := h.set (by simp)
theorem below_dN (w : World) (n : Nat) : Below w.heap.size w (w.drewN n) := (Grw.refl w).drewN n |>.below
def rdL (L : List ByteArray) (n : ByteArray) : Pol := match L with
  | [a, b, c] => ⟨true, (splS 32 a.data.toList).tail, (splS 32 b.data.toList).tail, (splS 32 c.data.toList).tail, n⟩
  | _ => polZ
theorem rdI_eq {s : ByteArray} {F N : List UInt8} {B : Bool} {L : List ByteArray} (hc : Lib.cut s.data.toList kNon.data.toList = (F, N, B)) (hL : splS 59 F = L) : rdI s = rdL L (ofL N) := by
  subst hL
  unfold rdI rdL
  rw [hc]
  rfl
theorem rdL_no {L : List ByteArray} {n : ByteArray} (h : L.length ≠ 3) : rdL L n = polZ := by
  unfold rdL
  split
  · exact absurd rfl h
  · rfl
theorem three_of {l : List ByteArray} (h : l.length = 3) : ∃ a b c, l = [a, b, c] := by
  match l, h with
  | [a, b, c], _ => exact ⟨a, b, c, rfl⟩

end Go.Proofs.YtkjjiinccljhjaaDoor
