/- Closing facts for a policy of the call's own in a new box. Helper facts, no claim of its own. -/
import Derived.Test.YtgcdfkpidcdicaaPolM
namespace Go.Proofs.Ytgcdfkpidcdicaa
open Go.ChangeShapes Go.WideShapes Go.ChangeAt Go.RowKit

mutual
theorem count_dataN : ∀ (x y : Rw), x.data = y.data → x.count = y.count
  | .leaf v, .leaf u, _ => rfl
  | .leaf v, .sl u n k e cs, h => by rw [Rw.data, Rw.data] at h; cases h
  | .sl u n k e cs, .leaf v, h => by rw [Rw.data, Rw.data] at h; cases h
  | .sl v n k e cs, .sl u m j f ds, h => by
    rw [Rw.data, Rw.data] at h
    rw [Rw.count, Rw.count]
    exact countL_dataN cs ds (Dt.sl.inj h).2
theorem countL_dataN : ∀ (cs ds : List Rw), dataL cs = dataL ds → countL cs = countL ds
  | [], [], _ => rfl
  | [], d :: ds, h => by rw [dataL, dataL] at h; cases h
  | c :: cs, [], h => by rw [dataL, dataL] at h; cases h
  | c :: cs, d :: ds, h => by
    rw [dataL, dataL] at h
    obtain ⟨h1, h2⟩ := List.cons.inj h
    rw [countL, countL, count_dataN c d h1, countL_dataN cs ds h2]
end
theorem nr_len {a b : Pol} (ha : PolSm a) (hb : PolSm b) : (nrP a b).scr.length ≤ 1048576 ∧ (nrP a b).sty.length ≤ 1048576 ∧ (nrP a b).img.length ≤ 1048576 := by
  obtain ⟨a1, a2, a3, _⟩ := ha
  obtain ⟨b1, b2, b3, _⟩ := hb
  unfold nrP
  split
  · exact ⟨by omega, by omega, by omega⟩
  · split
    · exact ⟨by omega, by omega, by omega⟩
    · have h1 := bothS_len a.scr b.scr; have h2 := bothS_len a.sty b.sty; have h3 := bothS_len a.img b.img
      exact ⟨by show (bothS _ _).length ≤ _; omega, by show (bothS _ _).length ≤ _; omega, by show (bothS _ _).length ≤ _; omega⟩
theorem finQ1 {p wN : World} {lo : Nat} {T : TypeId} {u0 u4 v1 v2 v3 : Value} {xs ys zs : List ByteArray} (how : Own3 lo wN v1 v2 v3 xs ys zs) (hlo : p.heap.size ≤ lo) (hb : Below p.heap.size p wN) :
    p.heap.size ≤ wN.heap.size ∧ (wN.alloc (.cells #[u0, v1, v2, v3, u4] T (0, 0))).heap[wN.heap.size]? = some (.cells #[u0, v1, v2, v3, u4] T (0, 0)) ∧ wN.heap.size ∉ blocksL [rwSs v1 xs, rwSs v2 ys, rwSs v3 zs] ∧ Own3 p.heap.size (wN.alloc (.cells #[u0, v1, v2, v3, u4] T (0, 0))) v1 v2 v3 xs ys zs ∧ Below p.heap.size p (wN.alloc (.cells #[u0, v1, v2, v3, u4] T (0, 0))) := by
  have hbl := (Below.refl wN.heap.size wN).alloc (Nat.le_refl _) (.cells #[u0, v1, v2, v3, u4] T (0, 0))
  exact ⟨hb.size, hq_nw rfl, fun h => absurd (ownL_lt how.1 _ h).2.2 (Nat.lt_irrefl _), ⟨ownL_mono (ownL_later how.1 hbl) hlo hbl.size, how.2⟩, bl_tr hb hbl⟩
theorem finQ2 {p wN : World} {lo g : Nat} {T : TypeId} {z0 z1 z2 z3 z4 u0 u4 v1 v2 v3 : Value} {xs ys zs : List ByteArray} (hp : wN.heap[g]? = some (.cells #[z0, z1, z2, z3, z4] T (0, 0))) (hg : p.heap.size ≤ g) (hgl : g < lo) (how : Own3 lo wN v1 v2 v3 xs ys zs) (hb : Below p.heap.size p wN) :
    p.heap.size ≤ g ∧ (set5 wN g u0 v1 v2 v3 u4).heap[g]? = some (.cells #[u0, v1, v2, v3, u4] T (0, 0)) ∧ g ∉ blocksL [rwSs v1 xs, rwSs v2 ys, rwSs v3 zs] ∧ Own3 p.heap.size (set5 wN g u0 v1 v2 v3 u4) v1 v2 v3 xs ys zs ∧ Below p.heap.size p (set5 wN g u0 v1 v2 v3 u4) := by
  have ho := set5_only wN g u0 v1 v2 v3 u4
  have hn : ∀ b ∈ blocksL [rwSs v1 xs, rwSs v2 ys, rwSs v3 zs], b ≠ g := fun b h e => by have := (ownL_lt how.1 _ h).1; omega
  exact ⟨hg, set5_box hp _ _ _ _ _, fun h => hn _ h rfl, ⟨ownL_mono (ownL_only how.1 ho (fun b h hm => hn b h (by simpa using hm))) (by omega) ho.size, how.2⟩, hb.trans (ho.below (fun i hi => by rw [List.mem_singleton] at hi; omega) hb.size)⟩
end Go.Proofs.Ytgcdfkpidcdicaa
