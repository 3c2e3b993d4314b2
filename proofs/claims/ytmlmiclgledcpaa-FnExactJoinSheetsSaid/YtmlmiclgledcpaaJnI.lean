/- Helper contract: JoinSheets of the program: the names in order, each with its color. Asked: the sheets lie in memory as named. -/
import Derived.Test.YtmlmiclgledcpaaKeyL
import Derived.Test.YtmlmiclgledcpaaAdd0
import Derived.Test.YtmlmiclgledcpaaRowS
namespace Go.Proofs.Ytmlmiclgledcpaa
open Go.ChangeShapes Go.WideShapes Go.ChangeAt Go.RowKit Go.Maps Go.WideMaps

theorem ReadsK.str {hi n cap k : Nat} {w : World} {a : Option Addr} {xs : List ByteArray} {s : ByteArray} (h : ReadsK encS 1 hi w (.slice a n cap) xs) (hk : xs[k]? = some s) : ∃ g off, a = some ⟨g, off, none⟩ ∧ g < hi ∧ w.cell? ⟨g, off + k, none⟩ = some (.string s) := by
  obtain ⟨a', c', e, _, _, _, hc⟩ := h
  injection e with e1 e2 e3; subst e1
  rcases hc with h0 | ⟨g, off, rfl, hg, hc⟩
  · have := (List.getElem?_eq_some_iff.1 hk).1; omega
  · refine ⟨g, off, rfl, hg, ?_⟩
    have := hc k s hk 0 (by omega)
    rwa [Nat.mul_one] at this
/-- append to rules of the call's own; what else is written is told. -/
theorem wpList_appUG {w : World} {ops : Array Oper} {rest : List Oper} {o : Oper} {a : Act} {Q : Exit → Act → World → Prop} (hgd : o.guard = none) (s x : Operand)
    (ho : o.op = .call { callee := .builtin .append, args := #[s, x], argTypes := #[64, 64] })
    (B : Nat) (w0 : World) (v : Value) (rs : List Ru) (hs : a.eval s = v) (hM : MineK encU 2 104 B w0 w v rs) (vx : Value) (top : Nat) (us : List Ru) (hx : a.eval x = vx) (hr : ReadsK encU 2 top w vx us)
    (hlen : rs.length + us.length ≤ 137438953472)
    (h : ∀ v' w', MineK encU 2 104 B w0 w' v' (rs ++ us) → w.grownBy w' v.ownBlock → wpList Try.prog ops Q rest (a.put o.dst v') w') : wpList Try.prog ops Q (o :: rest) a w := by
  obtain ⟨i, hi, hz, hsize, hby⟩ := info_parts infoRu
  obtain ⟨ad, cap, rfl, h1, h2, h3, h4⟩ := id hr
  cases ad with
  | none =>
    obtain ⟨rfl, _, rfl⟩ := hr.nil
    refine wpList_append_own_none hgd s x _ ho B _ i 2 Try.underlying64 hi v rs.length _ hs hM.row hx ?_
    exact h v w (by simpa using hM) (grown_refl _ _)
  | some ad =>
    refine wpList_append_own _ hgd s x _ ho B _ i _ 2 24 Try.underlying64 hi hz hsize hby (by rfl) (by decide) v rs.length _ hs hM.row ad us.length cap (us.flatMap encU) hx (flat_len encU_len us) (hr.news encU_len) ?_ ?_ ?_ hM.size ?_
    · intro u hu
      obtain ⟨y, _, hy⟩ := List.mem_flatMap.1 hu
      exact encU_one y u hy
    · unfold maxLen; omega
    · omega
    · intro v' w' hown hgr _
      exact h v' w' (hM.grow hown hgr) hgr
theorem mineU_form {B : Nat} {w0 w : World} {v : Value} {rs : List Ru} (h : MineK encU 2 104 B w0 w v rs) : ∃ a c, v = .slice a rs.length c ∧ rs.length ≤ c ∧ c ≤ 9223372036854775807 := by
  obtain ⟨a, c, e, h1, h2, _⟩ := h.own.reads encU_len
  exact ⟨a, c, e, h1, h2⟩
theorem ru_ne : 104 ≠ 66 ∧ 104 ≠ 9 := by decide

/-- The names with their colors. -/
def withCol (rs : List Ru) (N : List ByteArray) : List Ru := N.map fun nm => (nm, colOf rs nm)
theorem withCol_len (rs : List Ru) (N : List ByteArray) : (withCol rs N).length = N.length := by rw [withCol, List.length_map]
theorem withCol_take {rs : List Ru} {N : List ByteArray} {j : Nat} {s : ByteArray} (h : N[j]? = some s) : withCol rs (N.take (j + 1)) = withCol rs (N.take j) ++ [(s, colOf rs s)] := by
  rw [withCol, take_snoc h, List.map_append]; rfl
/-- What JoinSheets answers. -/
def JoinForm (rs : List Ru) (X : World) (e : Ending) (w' : World) : Prop :=
  ∃ a n c N, e = .returned (.agg #[.slice a n c]) ∧ JN rs N ∧ MineK encU 2 104 X.heap.size X w' (.slice a n c) (withCol rs N)

/-- What stands in the loop over the keys. -/
structure JI (w wr : World) (v : Value) (xs : List Ru) (lo : Nat) (kv : Value) (N : List ByteArray) (b : Nat) (rs : List Ru) : Prop where
  m : MineK encU 2 104 w.heap.size w wr v xs
  k : OwnK encS 1 9 lo wr.heap.size wr kv N
  c : IsCol wr b rs
  x : wr.heap[w.heap.size]? = some (.cells #[.slice none 0 0] 66 (0, 0))
theorem JI.alloc {w wr : World} {v kv : Value} {xs : List Ru} {lo b : Nat} {N : List ByteArray} {rs : List Ru} (h : JI w wr v xs lo kv N b rs) (o : Obj) : JI w (wr.alloc o) v xs lo kv N b rs := by
  have hb : Below wr.heap.size wr (wr.alloc o) := (Below.refl _ _).alloc (Nat.le_refl _) _
  exact ⟨h.m.alloc o, (h.k.later hb).mono (Nat.le_refl _) hb.size, h.c.kept hb, below_heap hb (heap_lt h.x) h.x⟩
theorem JI.app {w w1 w' : World} {v v' kv : Value} {xs xs' : List Ru} {lo b : Nat} {N : List ByteArray} {rs : List Ru} (h : JI w w1 v xs lo kv N b rs) (hm : MineK encU 2 104 w.heap.size w w' v' xs') (hg : w1.grownBy w' v.ownBlock) : JI w w' v' xs' lo kv N b rs := by
  refine ⟨hm, ⟨h.k.1.kept hg ?_, fun g hb => Nat.lt_of_lt_of_le (h.k.2 g hb) hg.size⟩, ?_, (hg.block _ (heap_lt h.x) (row_ne_box h.m.row h.x ru_ne.1)).trans h.x⟩
  · cases hv : kv.ownBlock with
    | none => exact Or.inl rfl
    | some g =>
      right
      intro e
      exact rows_ne h.m.row h.k.1 ru_ne.2 e.symm hv
  · refine World.ownsMap.kept h.c hg ?_
    intro e
    obtain ⟨es, clock, hb, _⟩ := h.c
    rcases h.m.row.2 with ⟨rfl, _⟩ | ⟨g, cap, cur, rfl, _, h1, _⟩
    · cases e
    · obtain rfl : b = g := Option.some.inj e
      rw [hb] at h1; cases h1

set_option maxRecDepth 100000 in
set_option maxHeartbeats 4000000 in
theorem join_impl (v : Value) (ss : List Shv) (w : World) (h : ReadH w.heap.size w v ss) (hs : ShsOk ss) :
    Calls Try.prog 38 #[v] w (JoinForm (flatR ss) w) := by
  obtain ⟨a, cap, rfl, hc1, hc2⟩ := h.form
  obtain ⟨W0, hW0⟩ : ∃ W, w.alloc (.cells #[.slice none 0 0] 66) = W := ⟨_, rfl⟩
  have hb0 : Below w.heap.size w W0 := by rw [← hW0]; exact (Below.refl _ _).alloc (Nat.le_refl _) _
  have hz0 : W0.heap.size = w.heap.size + 1 := by rw [← hW0, size_alloc]
  have hx0 : W0.heap[w.heap.size]? = some (.cells #[.slice none 0 0] 66 (0, 0)) := by rw [← hW0]; exact (MapKept.heap_alloc w _).1
  have HCM := Lib.hid (colors_any _ ss W0 (h.up hb0) (Nat.le_trans hs.len (by decide)) hs.each hs.ok (Nat.le_trans hs.tot (by decide)))
  rw [hz0] at HCM
  obtain ⟨rs, hrs⟩ : ∃ rs, flatR ss = rs := ⟨_, rfl⟩
  have hok : ∀ r ∈ rs, RuOk r := fun r hr => by
    rw [← hrs, flatR, List.mem_flatMap] at hr
    obtain ⟨p, hp, hr⟩ := hr
    exact hs.ok p hp r hr
  have hrl : rs.length ≤ 1048576 := by rw [← hrs]; exact hs.tot
  rw [hrs] at HCM ⊢
  have HOK := Lib.hid hok; have HRL := Lib.hid hrl; have HB0 := Lib.hid hb0; have HX0 := Lib.hid hx0; have HZ0 := Lib.hid hz0; have HW0 := Lib.hid hW0
  clear hrs hok hrl hb0 hx0 hz0 hW0 hs h
  go_enter Try.func38, Try.ntmps38
  go_wp2_with fail
  rw [HW0.out]
  refine HCM.out.mono ?_
  rintro e W1 ⟨rfl, hcol, hb1⟩
  have hm0 := MineK.empty encU 2 104 w W1 w.heap.size (HB0.out.trans (hb1.mono (Nat.le_succ _))) (Nat.le_trans HB0.out.size hb1.size)
  obtain ⟨W2, hW2⟩ : ∃ W, W1.alloc (.cells #[] 104) = W := ⟨_, rfl⟩
  have hbw : Below W1.heap.size W1 W2 := by rw [← hW2]; exact (Below.refl _ _).alloc (Nat.le_refl _) _
  rw [hW2] at hm0
  have hcol2 := hcol.kept hbw
  have hx1 := below_heap (hb1.trans (hbw.mono (by have := HZ0.out; have := hb1.size; omega))) (by have := heap_lt HX0.out; have := HZ0.out; omega) HX0.out
  have HSO := Lib.hid (sorted_any (w.heap.size + 1) rs W2 hcol2 (by have := HRL.out; omega))
  have HM0 := Lib.hid hm0; have HCOL := Lib.hid hcol2; have HX1 := Lib.hid hx1; have HW2 := Lib.hid hW2
  clear hm0 hcol hcol2 hx1 hbw hb1 hW2
  go_wp2_with fail
  rw [HW2.out]
  refine (keys_any _ _).mono ?_
  rintro e w' ⟨rfl, rfl⟩
  go_wp2_with fail
  refine HSO.out.mono ?_
  rintro e W3 ⟨kv, N, rfl, hjn, hk, hb3⟩
  have hb4 : Below W2.heap.size W2 W3 := ((Below.refl W2.heap.size W2).alloc (Nat.le_refl _) _).trans (hb3.mono (Nat.le_succ _))
  have hJ : JI w W3 (.slice (some ⟨W1.heap.size, 0, none⟩) 0 0) (withCol rs (N.take 0)) (W2.heap.size + 1) kv N (w.heap.size + 1) rs :=
    ⟨HM0.out.later hb4, hk, HCOL.out.kept hb4, below_heap hb4 (heap_lt HX1.out) HX1.out⟩
  obtain ⟨ka, kc, hkv, hkc1, hkc2⟩ : ∃ a c, kv = .slice a N.length c ∧ N.length ≤ c ∧ c ≤ 9223372036854775807 := by
    obtain ⟨a, c, e, h1, h2, _⟩ := hk.reads encS_len
    exact ⟨a, c, e, h1, h2⟩
  subst hkv
  obtain ⟨n, hn⟩ : ∃ n, N.length = n := ⟨_, rfl⟩
  rw [hn] at hJ hkc1 ⊢
  have hnl : n ≤ 1048576 := by have := hjn.len; have := HRL.out; omega
  have HN := Lib.hid hn; have HJ := Lib.hid hJ; have HJN := Lib.hid hjn
  clear hn hJ hjn hk hb3 hb4 HM0 HCOL HX1
  go_wp2_with fail
  go_loopw [14, 4] (fun i q wr => ∃ (j : Nat) (xa : Option Addr) (xn xc : Nat), j ≤ n ∧ i = .int .i64 j ∧ q = .slice xa xn xc ∧ JI w wr (.slice xa xn xc) (withCol rs (N.take j)) (W2.heap.size + 1) (.slice ka n kc) N (w.heap.size + 1) rs)
    (fun i _ _ => n - (intOf i).toNat)
  case atStart => exact ⟨0, _, _, _, Nat.zero_le _, rfl, rfl, HJ.out⟩
  case round =>
    obtain ⟨j, xa, xn, xc, hj, rfl, rfl, hJ⟩ := hrel
    clear HJ
    have HJ := Lib.hid hJ; clear hJ
    by_cases hlt : (j : Int) < (n : Int)
    · obtain ⟨s, hsj⟩ : ∃ s, N[j]? = some s := ⟨_, List.getElem?_eq_getElem (by rw [HN.out]; omega)⟩
      obtain ⟨g, off, rfl, hg, c0⟩ := (HJ.out.k.reads encS_len).str hsj
      have hkey : keyOf Try.prog 9 (.string s) = some (keyS s) := keyS_of (by
        obtain ⟨r, hr, e⟩ := (HJN.out.mem s).1 (List.mem_of_getElem? hsj)
        rw [← e]; exact (HOK.out r hr).1)
      obtain ⟨c, hc⟩ : ∃ c, colOf rs s = c := ⟨_, rfl⟩
      have HAT := Lib.hid (show (colD rs).atKey (keyS s) (numS 0) = numS c by rw [← hc]; exact colD_at _ _)
      have HWC := Lib.hid (show withCol rs (N.take (j + 1)) = withCol rs (N.take j) ++ [(s, c)] by rw [← hc]; exact withCol_take hsj)
      have HCO := Lib.hid HJ.out.c
      have HA := Lib.hid (HJ.out.alloc (.cells #[.string s, .int .i64 c] 104))
      have HR := Lib.hid (readsK_one2 encU 104 wr (x := (s, c)) (u := .string s) (v := .int .i64 c) rfl)
      clear hsj hc
      go_wp2_with (first
        | (at_lookup; refine wpList_lookup_own_int _ rfl _ _ 106 rfl 9 3 .i64 lawStr Try.underlying106 Try.underlying3 (zeroInt _) _ _ _ rfl HCO.out _ _ rfl hkey ?_; intro c' hat hwc; obtain rfl := numS_inj (HAT.out.symm.trans hat))
        | (at_builtin; refine wpList_appUG rfl _ _ rfl w.heap.size w _ _ rfl HA.out.m _ _ [(s, c)] rfl HR.out ?cl ?_))
      case cl => rw [withCol_len, List.length_take]; simp; omega
      intro v' w' hm hgr
      obtain ⟨ya, yn, yc, rfl⟩ : ∃ a n c, v' = .slice a n c := by
        obtain ⟨a, c, e, _⟩ := mineU_form hm
        exact ⟨a, _, c, e⟩
      rw [← HWC.out] at hm
      have HJ2 := Lib.hid (HA.out.app hm hgr)
      clear hm hgr
      go_wp2
      go_roundw
      case rel => exact ⟨j + 1, _, _, _, by omega, by go_num, rfl, HJ2.out⟩
      case measure => simp [intOf]; omega
    · have hjn : j = n := by omega
      subst hjn
      have hx := HJ.out.x
      have q0 := box_cell hx (j := 0) rfl
      have z0 := box_frz hx 0
      have hq := heap_one (o := 0) hx (.slice xa xn xc)
      have qf := box_cell hq (j := 0) rfl
      have HM := Lib.hid (show MineK encU 2 104 w.heap.size w (wr.setCell ⟨w.heap.size, 0, none⟩ (.slice xa xn xc)) (.slice xa xn xc) (withCol rs N) by
        have hm := HJ.out.m
        rw [List.take_of_length_le (by rw [HN.out]; exact Nat.le_refl _)] at hm
        exact ⟨(ownK_setT hm.own hx ru_ne.1).1, hm.below.setCell (Nat.le_refl _) _, Nat.le_trans hm.size (size_set _ _ _)⟩)
      clear hx hq
      go_wp2
      refine bodyPost_ret (v := .agg #[.slice xa xn xc]) (by simp [results, Try.results38, go_sem, qf]) rfl ?_
      exact ⟨_, _, _, N, rfl, HJN.out, HM.out⟩
end Go.Proofs.Ytmlmiclgledcpaa
