/- FormatScript of the model. Asked: the lines lie in memory as named, and are not too long. -/
import Derived.Test.YtiginllbfjekeaaDoorFsL
namespace Go.Proofs.YtiginllbfjekeaaDoor
open Go.ChangeShapes Go.WideShapes Go.ChangeAt Go.RowKit

theorem wdCells_at {w : World} {b : Nat} {f : Nat × Nat} (h : w.heap[b]? = some (.cells wdCells 9 f)) {m : Nat} (h1 : 1 ≤ m) (h5 : m ≤ 5) : w.cell? ⟨b, m, none⟩ = some (.string (wd m ++ sp)) := by
  unfold World.cell?
  rw [h]
  rcases (show m = 1 ∨ m = 2 ∨ m = 3 ∨ m = 4 ∨ m = 5 by omega) with rfl | rfl | rfl | rfl | rfl <;> rfl
theorem words_wd (m : Nat) (h1 : 1 ≤ m) (h5 : m ≤ 5) (w : World) : Calls Tryd.prog 36 #[] w fun e w' => ∃ b, e = .returned (.slice (some ⟨b, 0, none⟩) 6 6) ∧ w'.cell? ⟨b, m, none⟩ = some (.string (wd m ++ sp)) ∧ b < w'.heap.size ∧ Below w.heap.size w w' := by
  refine (words_any w).mono ?_
  rintro e w' ⟨rfl, rfl⟩
  have hn := (MapKept.heap_alloc w (.cells wdCells 9)).1
  exact ⟨_, rfl, wdCells_at hn h1 h5, heap_lt hn, (Below.refl _ _).alloc (Nat.le_refl _) _⟩

set_option maxRecDepth 100000 in
set_option maxHeartbeats 8000000 in
theorem fscript_spec (v : Value) (ls : List Lnv) (w : World) (h : ReadsK encL 2 w.heap.size w v ls) (hl : ls.length ≤ 1048576) (hz : sumL ls ≤ 1048576) :
    Calls Tryd.prog 14 #[v] w fun e w' => e = .returned (.string (fmtSc ls)) ∧ Below w.heap.size w w' := by
  obtain ⟨a, cap, rfl, hc1, hc2, _⟩ := id h
  obtain ⟨n, hn⟩ : ∃ n, ls.length = n := ⟨_, rfl⟩
  rw [hn] at h hc1 hl ⊢
  obtain ⟨tx, htx⟩ : ∃ f : Nat → ByteArray, f = fun m => fmtSc (ls.take m) := ⟨_, rfl⟩
  have HTX := Lib.hid htx
  have HTS := Lib.hid (fun m => show (tx m).size ≤ 8388608 by
    rw [htx]
    have h1 := fmtSc_size (ls.take m)
    have h2 := sumL_take ls m
    have h3 := List.length_take_le' m ls
    show (fmtSc (ls.take m)).size ≤ _
    omega)
  have H := Lib.hid h; have HN := Lib.hid hn; have HZ := Lib.hid hz
  clear h hn hz htx
  go_enter Tryd.func14, Tryd.ntmps14
  go_wp2_with fail
  go_loopw [3, 4] (fun c i wr => ∃ (k : Nat), k ≤ n ∧ i = .int .i64 k ∧ c = .string (tx k) ∧ Below w.heap.size w wr)
    (fun _ i _ => n - (intOf i).toNat)
  case atStart => exact ⟨0, Nat.zero_le _, rfl, by rw [HTX.out]; rfl, Below.refl _ _⟩
  case round =>
    obtain ⟨k, hk, rfl, rfl, hb⟩ := hrel
    have HB := Lib.hid hb; clear hb
    by_cases hlt : (k : Int) < (n : Int)
    · have hltd : decide ((k : Int) < (n : Int)) = true := decide_eq_true hlt
      obtain ⟨op, t, hr⟩ := ln_at (xs := ls) (j := k) (by rw [HN.out]; omega)
      obtain ⟨gr, off, rfl, hg, d0, d1⟩ := (H.out.below HB.out (Nat.le_refl _)).line hr
      replace d0 : wr.cell? ⟨gr, off + k * 2, none⟩ = some (Value.int .i64 op) := d0
      replace d1 : wr.cell? ⟨gr, off + k * 2 + 1, none⟩ = some (Value.string t) := d1
      have htz : t.size ≤ 1048576 := by have h1 := sumL_at hr; have h2 := HZ.out; simp only at h1; omega
      have HFR := Lib.hid (frms_snoc (l := ls.take k) (x := (op, t)))
      have HTK := Lib.hid (takeL hr)
      have hy := HTS.out k
      have hgr : gr < wr.heap.size := by have := HB.out.size; omega
      have HBW := Lib.hid (fun (w' : World) (h : Below wr.heap.size wr w') => show Below w.heap.size w w' from HB.out.trans (h.mono HB.out.size))
      by_cases ho : 1 ≤ op ∧ op ≤ 5
      · have hinb : inB op 1 5 = true := inB_yes ho.1 ho.2
        have HIN := Lib.hid (fun W => show Calls Tryd.prog 35 #[.int .i64 op, .int .i64 1, .int .i64 5] W fun e w' => e = .returned (.bool true) ∧ W = w' from by rw [← hinb]; exact lin_any _ _ _ W)
        have hf := frm_yes (x := (op, t)) ho
        have HNX := Lib.hid (show tx (k + 1) = if (tx k).size = 0 then wd op.toNat ++ sp ++ t else tx k ++ ⟨#[59]⟩ ++ (wd op.toNat ++ sp ++ t) by
          rw [HTX.out]
          show fmtSc (ls.take (k + 1)) = if (fmtSc (ls.take k)).size = 0 then _ else fmtSc (ls.take k) ++ _ ++ _
          rw [HTK.out]
          by_cases h0 : (fmtSc (ls.take k)).size = 0
          · rw [if_pos h0, fmtSc_first hf (fmtSc_empty.1 h0)]
          · rw [if_neg h0, fmtSc_more hf fun e => h0 (fmtSc_empty.2 e)])
        obtain ⟨m, rfl⟩ : ∃ m : Nat, op = (m : Int) := ⟨op.toNat, by omega⟩
        rw [show ((m : Int)).toNat = m from rfl] at HNX
        have hm1 : (1 : Int) ≤ (m : Int) := ho.1
        have hm5 : (m : Int) ≤ 5 := ho.2
        have hm0 : (0 : Int) ≤ (m : Int) := by omega
        have hm6 : (m : Int) < 6 := by omega
        have hm6n : m < 6 := by omega
        have hws := wd_size m
        have HW := Lib.hid (fun W => words_wd m (by omega) (by omega) W)
        obtain ⟨u, hu⟩ : ∃ u, wd m ++ sp = u := ⟨_, rfl⟩
        have huz : u.size ≤ 6 := by rw [← hu, ByteArray.size_append, sp_size]; omega
        rw [hu] at HNX HW
        clear hu hf hr ho hws hinb
        have KEEP := Lib.hid (fun (w' : World) (h : Below wr.heap.size wr w') => show Below wr.heap.size wr w' ∧ w'.cell? ⟨gr, off + k * 2, none⟩ = some (.int .i64 (m : Int)) ∧ w'.cell? ⟨gr, off + k * 2 + 1, none⟩ = some (.string t) from ⟨h, (h.cell hgr).trans d0, (h.cell hgr).trans d1⟩)
        have hk0 : (0 : Int) ≤ (k : Int) := by omega
        by_cases h0 : (tx k).size = 0
        · have hxe : ((tx k).toList == []) = true := by rw [emp_size, decide_eq_true h0]
          have hxn : ((tx k).toList != []) = false := by rw [bne, hxe]; rfl
          obtain ⟨X, hX⟩ : ∃ Y, tx k = Y := ⟨_, rfl⟩
          rw [if_pos h0] at HNX
          have HX0 := Lib.hid (show X.data.toList = [] by rw [← hX]; exact List.length_eq_zero_iff.1 (by rw [size_list]; exact h0))
          rw [hX] at hxe hxn hy ⊢
          clear hX h0
          obtain ⟨X2, hX2⟩ : ∃ Y, X ++ u = Y := ⟨_, rfl⟩
          obtain ⟨X3, hX3⟩ : ∃ Y, X2 ++ t = Y := ⟨_, rfl⟩
          have hz2 : X2.size ≤ 8388614 := by rw [← hX2, ByteArray.size_append]; omega
          have a2 : ∀ W, (Op.stringOp .add X u).run Tryd.prog W = .ok (.string X2) W := fun W => by rw [← hX2]; exact run_string_add_sum _ _ _ (by omega)
          have a3 : ∀ W, (Op.stringOp .add X2 t).run Tryd.prog W = .ok (.string X3) W := fun W => by rw [← hX3]; exact run_string_add_sum _ _ _ (by omega)
          have HX3 := Lib.hid (show X3 = tx (k + 1) by
            refine bytesEq ?_
            rw [HNX.out, ← hX3, ← hX2, append_list, append_list, append_list, HX0.out, List.nil_append])
          clear hX2 hX3
          go_wp2_with (go_at_call 35; refine (HIN.out _).mono ?_; rintro e w' ⟨rfl, rfl⟩)
          -- %%REG
          refine wp_region_held_drew (S := fun w' => Below wr.heap.size wr w' ∧ w'.cell? ⟨gr, off + k * 2, none⟩ = some (.int .i64 (m : Int)) ∧ w'.cell? ⟨gr, off + k * 2 + 1, none⟩ = some (.string t)) (by kernel_rfl) (KEEP.out _ (by repeat' (first | (with_reducible exact Below.refl _ _) | (with_reducible refine bl_dw ?_)))) (fun hHeld => ?_)
          refine wpAnyH_take (i := 0) (oi := { dst := some 22, op := Op.move (Operand.tmp 3), type := 9, pos := "l08_script.go:46", after := #[], guard := none }) (v := ?v1) rfl (by kernel_rfl) (by kernel_rfl) (by kernel_rfl) (fun _ _ _ h => h) (Or.inl ⟨by rfl, ?y1⟩) hHeld ?r1
          case y1 => intro w hSw; (try dsimp only at hSw); go_simp; try with_reducible rfl
          try simp only [Act.put, List.setIfInBounds_toArray, List.set_cons_zero, List.set_cons_succ]
          refine wpAnyH_take (i := 2) (oi := { dst := some 24, op := Op.move (Operand.tmp 0), type := 25, pos := "l08_script.go:46", after := #[], guard := none }) (v := ?v2) rfl (by kernel_rfl) (by kernel_rfl) (by kernel_rfl) (fun _ _ _ h => h) (Or.inl ⟨by rfl, ?y2⟩) hHeld ?r2
          case y2 => intro w hSw; (try dsimp only at hSw); go_simp; try with_reducible rfl
          try simp only [Act.put, List.setIfInBounds_toArray, List.set_cons_zero, List.set_cons_succ]
          refine wpAnyH_take (i := 3) (oi := { dst := some 25, op := Op.move (Operand.tmp 4), type := 3, pos := "l08_script.go:46", after := #[], guard := none }) (v := ?v3) rfl (by kernel_rfl) (by kernel_rfl) (by kernel_rfl) (fun _ _ _ h => h) (Or.inl ⟨by rfl, ?y3⟩) hHeld ?r3
          case y3 => intro w hSw; (try dsimp only at hSw); go_simp; try with_reducible rfl
          try simp only [Act.put, List.setIfInBounds_toArray, List.set_cons_zero, List.set_cons_succ]
          refine wpAnyH_take (i := 4) (oi := { dst := some 26, op := Op.indexAddr 25 (Operand.tmp 24) (Operand.tmp 25), type := 0, pos := "l08_script.go:46", after := #[{ on := 2, ground := Ground.data }, { on := 3, ground := Ground.data }], guard := none }) (v := ?v4) rfl (by kernel_rfl) (by kernel_rfl) (by kernel_rfl) (fun _ _ _ h => h) (Or.inl ⟨by rfl, ?y4⟩) hHeld ?r4
          case y4 => intro w hSw; (try dsimp only at hSw); go_simp; try with_reducible rfl
          try simp only [Act.put, List.setIfInBounds_toArray, List.set_cons_zero, List.set_cons_succ]
          refine wpAnyH_take (i := 5) (oi := { dst := some 27, op := Op.fieldAddr 47 (Operand.tmp 26) 0, type := 0, pos := "l08_script.go:46", after := #[{ on := 4, ground := Ground.data }], guard := none }) (v := ?v5) rfl (by kernel_rfl) (by kernel_rfl) (by kernel_rfl) (fun _ _ _ h => h) (Or.inl ⟨by rfl, ?y5⟩) hHeld ?r5
          case y5 => intro w hSw; (try dsimp only at hSw); go_simp; try with_reducible rfl
          try simp only [Act.put, List.setIfInBounds_toArray, List.set_cons_zero, List.set_cons_succ]
          refine wpAnyH_take (i := 6) (oi := { dst := some 28, op := Op.load 3 (Operand.tmp 27), type := 3, pos := "l08_script.go:46", after := #[{ on := 5, ground := Ground.data }], guard := none }) (v := ?v6) rfl (by kernel_rfl) (by kernel_rfl) (by kernel_rfl) (fun _ _ _ h => h) (Or.inl ⟨by rfl, ?y6⟩) hHeld ?r6
          case y6 => intro w hSw; (try dsimp only at hSw); go_simp; try with_reducible rfl
          try simp only [Act.put, List.setIfInBounds_toArray, List.set_cons_zero, List.set_cons_succ]
          refine wpAnyH_take (i := 10) (oi := { dst := some 32, op := Op.move (Operand.tmp 0), type := 25, pos := "l08_script.go:46", after := #[], guard := none }) (v := ?v7) rfl (by kernel_rfl) (by kernel_rfl) (by kernel_rfl) (fun _ _ _ h => h) (Or.inl ⟨by rfl, ?y7⟩) hHeld ?r7
          case y7 => intro w hSw; (try dsimp only at hSw); go_simp; try with_reducible rfl
          try simp only [Act.put, List.setIfInBounds_toArray, List.set_cons_zero, List.set_cons_succ]
          refine wpAnyH_take (i := 11) (oi := { dst := some 33, op := Op.move (Operand.tmp 4), type := 3, pos := "l08_script.go:46", after := #[], guard := none }) (v := ?v8) rfl (by kernel_rfl) (by kernel_rfl) (by kernel_rfl) (fun _ _ _ h => h) (Or.inl ⟨by rfl, ?y8⟩) hHeld ?r8
          case y8 => intro w hSw; (try dsimp only at hSw); go_simp; try with_reducible rfl
          try simp only [Act.put, List.setIfInBounds_toArray, List.set_cons_zero, List.set_cons_succ]
          refine wpAnyH_take (i := 12) (oi := { dst := some 34, op := Op.indexAddr 25 (Operand.tmp 32) (Operand.tmp 33), type := 0, pos := "l08_script.go:46", after := #[{ on := 10, ground := Ground.data }, { on := 11, ground := Ground.data }], guard := none }) (v := ?v9) rfl (by kernel_rfl) (by kernel_rfl) (by kernel_rfl) (fun _ _ _ h => h) (Or.inl ⟨by rfl, ?y9⟩) hHeld ?r9
          case y9 => intro w hSw; (try dsimp only at hSw); go_simp; try with_reducible rfl
          try simp only [Act.put, List.setIfInBounds_toArray, List.set_cons_zero, List.set_cons_succ]
          refine wpAnyH_take (i := 13) (oi := { dst := some 35, op := Op.fieldAddr 47 (Operand.tmp 34) 1, type := 0, pos := "l08_script.go:46", after := #[{ on := 12, ground := Ground.data }], guard := none }) (v := ?v10) rfl (by kernel_rfl) (by kernel_rfl) (by kernel_rfl) (fun _ _ _ h => h) (Or.inl ⟨by rfl, ?y10⟩) hHeld ?r10
          case y10 => intro w hSw; (try dsimp only at hSw); go_simp; try with_reducible rfl
          try simp only [Act.put, List.setIfInBounds_toArray, List.set_cons_zero, List.set_cons_succ]
          refine wpAnyH_take (i := 14) (oi := { dst := some 36, op := Op.load 9 (Operand.tmp 35), type := 9, pos := "l08_script.go:46", after := #[{ on := 13, ground := Ground.data }], guard := none }) (v := ?v11) rfl (by kernel_rfl) (by kernel_rfl) (by kernel_rfl) (fun _ _ _ h => h) (Or.inl ⟨by rfl, ?y11⟩) hHeld ?r11
          case y11 => intro w hSw; (try dsimp only at hSw); go_simp; try with_reducible rfl
          try simp only [Act.put, List.setIfInBounds_toArray, List.set_cons_zero, List.set_cons_succ]
          refine wpAnyH_ready (rs := [1]) (by kernel_rfl) (by simp) ?_
          refine AllReadyH.cons (o := { dst := some 23, op := Op.call { callee := Callee.value (Operand.func 36), args := #[], argTypes := #[] }, type := 43, pos := "l08_script.go:46", after := #[], guard := none }) rfl (fun K hK => ?_) AllReadyH.nil
          go_simp
          refine (HW.out _).mono ?_
          rintro e wA ⟨bA, rfl, cA, lA, hbA⟩
          have hPA := bl_tr (show Below wr.heap.size wr _ from (by repeat' (first | (with_reducible exact Below.refl _ _) | (with_reducible refine bl_dw ?_)))) hbA
          go_wp2_with fail
          refine hK.out _ _ (KEEP.out _ (by repeat' (first | (with_reducible exact Below.refl _ _) | (with_reducible exact hPA) | (with_reducible refine bl_dw ?_) | (with_reducible refine bl_aw ?_ _)))) (fun hHeld2 => ?_)
          clear hK K hHeld
          try simp only [Act.put, List.setIfInBounds_toArray, List.set_cons_zero, List.set_cons_succ]
          refine wpAnyH_take (i := 7) (oi := { dst := some 29, op := Op.indexAddr 43 (Operand.tmp 23) (Operand.tmp 28), type := 0, pos := "l08_script.go:46", after := #[{ on := 1, ground := Ground.data }, { on := 6, ground := Ground.data }], guard := none }) (v := ?v12) rfl (by kernel_rfl) (by kernel_rfl) (by kernel_rfl) (fun _ _ _ h => h) (Or.inl ⟨by rfl, ?y12⟩) hHeld2 ?r12
          case y12 => intro w hSw; (try dsimp only at hSw); go_simp; try with_reducible rfl
          try simp only [Act.put, List.setIfInBounds_toArray, List.set_cons_zero, List.set_cons_succ]
          refine wpAnyH_ready (rs := [8]) (by kernel_rfl) (by simp) ?_
          refine AllReadyH.cons (o := { dst := some 30, op := Op.load 9 (Operand.tmp 29), type := 9, pos := "l08_script.go:46", after := #[{ on := 7, ground := Ground.data }], guard := none }) rfl (fun K hK => ?_) AllReadyH.nil
          go_simp
          refine hK.out _ _ hHeld2 (fun hHeld3 => ?_)
          clear hK K hHeld2
          try simp only [Act.put, List.setIfInBounds_toArray, List.set_cons_zero, List.set_cons_succ]
          refine wpAnyH_take (i := 9) (oi := { dst := some 31, op := Op.binOp BinOp.add 9 (Operand.tmp 22) (Operand.tmp 30) 9, type := 9, pos := "l08_script.go:46", after := #[{ on := 0, ground := Ground.data }, { on := 8, ground := Ground.data }], guard := none }) (v := ?v13) rfl (by kernel_rfl) (by kernel_rfl) (by kernel_rfl) (fun _ _ _ h => h) (Or.inl ⟨by rfl, ?y13⟩) hHeld3 ?r13
          case y13 => intro w hSw; (try dsimp only at hSw); go_simp; try with_reducible rfl
          try simp only [Act.put, List.setIfInBounds_toArray, List.set_cons_zero, List.set_cons_succ]
          refine wpAnyH_take (i := 15) (oi := { dst := some 37, op := Op.binOp BinOp.add 9 (Operand.tmp 31) (Operand.tmp 36) 9, type := 9, pos := "l08_script.go:46", after := #[{ on := 9, ground := Ground.data }, { on := 14, ground := Ground.data }], guard := none }) (v := ?v14) rfl (by kernel_rfl) (by kernel_rfl) (by kernel_rfl) (fun _ _ _ h => h) (Or.inl ⟨by rfl, ?y14⟩) hHeld3 ?r14
          case y14 => intro w hSw; (try dsimp only at hSw); go_simp; try with_reducible rfl
          try simp only [Act.put, List.setIfInBounds_toArray, List.set_cons_zero, List.set_cons_succ]
          refine wpAnyH_take (i := 16) (oi := { dst := some 3, op := Op.assign (Operand.tmp 37), type := 9, pos := "l08_script.go:46", after := #[{ on := 15, ground := Ground.data }, { on := 1, ground := Ground.chain }, { on := 0, ground := Ground.phase }, { on := 1, ground := Ground.phase }, { on := 2, ground := Ground.phase }, { on := 3, ground := Ground.phase }, { on := 4, ground := Ground.phase }, { on := 5, ground := Ground.phase }, { on := 6, ground := Ground.phase }, { on := 7, ground := Ground.phase }, { on := 8, ground := Ground.phase }, { on := 9, ground := Ground.phase }, { on := 10, ground := Ground.phase }, { on := 11, ground := Ground.phase }, { on := 12, ground := Ground.phase }, { on := 13, ground := Ground.phase }, { on := 14, ground := Ground.phase }, { on := 15, ground := Ground.phase }], guard := none }) (v := ?v15) rfl (by kernel_rfl) (by kernel_rfl) (by kernel_rfl) (fun _ _ _ h => h) (Or.inl ⟨by rfl, ?y15⟩) hHeld3 ?r15
          case y15 => intro w hSw; (try dsimp only at hSw); go_simp; try with_reducible rfl
          try simp only [Act.put, List.setIfInBounds_toArray, List.set_cons_zero, List.set_cons_succ]
          refine wpAnyH_done (by kernel_rfl) ?_ _
          -- %%END
          all_goals
            go_wp2_with fail
            go_roundw
            case rel => exact ⟨k + 1, by omega, by go_num, by first | (rw [← HX3.out]; done) | (rw [← HX3.out]; rfl), HBW.out _ (by repeat' (first | (with_reducible exact Below.refl _ _) | (with_reducible exact hPA) | (with_reducible refine bl_dw ?_) | (with_reducible refine bl_aw ?_ _)))⟩
            case measure => simp [intOf] <;> omega
        · have hxe : ((tx k).toList == []) = false := by rw [emp_size, decide_eq_false h0]
          have hxn : ((tx k).toList != []) = true := by rw [bne, hxe]; rfl
          obtain ⟨X0, hX0⟩ : ∃ Y, tx k = Y := ⟨_, rfl⟩
          rw [if_neg h0] at HNX
          rw [hX0] at hxe hxn hy HNX ⊢
          clear hX0 h0
          obtain ⟨X, hX⟩ : ∃ Y, X0 ++ ⟨#[59]⟩ = Y := ⟨_, rfl⟩
          have h59 : (⟨#[59]⟩ : ByteArray).size = 1 := rfl
          have hz1 : X.size ≤ 8388609 := by rw [← hX, ByteArray.size_append, h59]; omega
          have a0 : ∀ W, (Op.stringOp .add X0 ⟨#[59]⟩).run Tryd.prog W = .ok (.string X) W := fun W => by rw [← hX]; exact run_string_add_sum _ _ _ (by omega)
          obtain ⟨X2, hX2⟩ : ∃ Y, X ++ u = Y := ⟨_, rfl⟩
          obtain ⟨X3, hX3⟩ : ∃ Y, X2 ++ t = Y := ⟨_, rfl⟩
          have hz2 : X2.size ≤ 8388615 := by rw [← hX2, ByteArray.size_append]; omega
          have a2 : ∀ W, (Op.stringOp .add X u).run Tryd.prog W = .ok (.string X2) W := fun W => by rw [← hX2]; exact run_string_add_sum _ _ _ (by omega)
          have a3 : ∀ W, (Op.stringOp .add X2 t).run Tryd.prog W = .ok (.string X3) W := fun W => by rw [← hX3]; exact run_string_add_sum _ _ _ (by omega)
          have HX3 := Lib.hid (show X3 = tx (k + 1) by
            refine bytesEq ?_
            rw [HNX.out, ← hX3, ← hX2, ← hX, append_list, append_list, append_list, append_list, append_list, append_list]
            simp)
          clear hX hX2 hX3
          go_wp2_with (go_at_call 35; refine (HIN.out _).mono ?_; rintro e w' ⟨rfl, rfl⟩)
          -- %%REG
          refine wp_region_held_drew (S := fun w' => Below wr.heap.size wr w' ∧ w'.cell? ⟨gr, off + k * 2, none⟩ = some (.int .i64 (m : Int)) ∧ w'.cell? ⟨gr, off + k * 2 + 1, none⟩ = some (.string t)) (by kernel_rfl) (KEEP.out _ (by repeat' (first | (with_reducible exact Below.refl _ _) | (with_reducible refine bl_dw ?_)))) (fun hHeld => ?_)
          refine wpAnyH_take (i := 0) (oi := { dst := some 22, op := Op.move (Operand.tmp 3), type := 9, pos := "l08_script.go:46", after := #[], guard := none }) (v := ?v16) rfl (by kernel_rfl) (by kernel_rfl) (by kernel_rfl) (fun _ _ _ h => h) (Or.inl ⟨by rfl, ?y16⟩) hHeld ?r16
          case y16 => intro w hSw; (try dsimp only at hSw); go_simp; try with_reducible rfl
          try simp only [Act.put, List.setIfInBounds_toArray, List.set_cons_zero, List.set_cons_succ]
          refine wpAnyH_take (i := 2) (oi := { dst := some 24, op := Op.move (Operand.tmp 0), type := 25, pos := "l08_script.go:46", after := #[], guard := none }) (v := ?v17) rfl (by kernel_rfl) (by kernel_rfl) (by kernel_rfl) (fun _ _ _ h => h) (Or.inl ⟨by rfl, ?y17⟩) hHeld ?r17
          case y17 => intro w hSw; (try dsimp only at hSw); go_simp; try with_reducible rfl
          try simp only [Act.put, List.setIfInBounds_toArray, List.set_cons_zero, List.set_cons_succ]
          refine wpAnyH_take (i := 3) (oi := { dst := some 25, op := Op.move (Operand.tmp 4), type := 3, pos := "l08_script.go:46", after := #[], guard := none }) (v := ?v18) rfl (by kernel_rfl) (by kernel_rfl) (by kernel_rfl) (fun _ _ _ h => h) (Or.inl ⟨by rfl, ?y18⟩) hHeld ?r18
          case y18 => intro w hSw; (try dsimp only at hSw); go_simp; try with_reducible rfl
          try simp only [Act.put, List.setIfInBounds_toArray, List.set_cons_zero, List.set_cons_succ]
          refine wpAnyH_take (i := 4) (oi := { dst := some 26, op := Op.indexAddr 25 (Operand.tmp 24) (Operand.tmp 25), type := 0, pos := "l08_script.go:46", after := #[{ on := 2, ground := Ground.data }, { on := 3, ground := Ground.data }], guard := none }) (v := ?v19) rfl (by kernel_rfl) (by kernel_rfl) (by kernel_rfl) (fun _ _ _ h => h) (Or.inl ⟨by rfl, ?y19⟩) hHeld ?r19
          case y19 => intro w hSw; (try dsimp only at hSw); go_simp; try with_reducible rfl
          try simp only [Act.put, List.setIfInBounds_toArray, List.set_cons_zero, List.set_cons_succ]
          refine wpAnyH_take (i := 5) (oi := { dst := some 27, op := Op.fieldAddr 47 (Operand.tmp 26) 0, type := 0, pos := "l08_script.go:46", after := #[{ on := 4, ground := Ground.data }], guard := none }) (v := ?v20) rfl (by kernel_rfl) (by kernel_rfl) (by kernel_rfl) (fun _ _ _ h => h) (Or.inl ⟨by rfl, ?y20⟩) hHeld ?r20
          case y20 => intro w hSw; (try dsimp only at hSw); go_simp; try with_reducible rfl
          try simp only [Act.put, List.setIfInBounds_toArray, List.set_cons_zero, List.set_cons_succ]
          refine wpAnyH_take (i := 6) (oi := { dst := some 28, op := Op.load 3 (Operand.tmp 27), type := 3, pos := "l08_script.go:46", after := #[{ on := 5, ground := Ground.data }], guard := none }) (v := ?v21) rfl (by kernel_rfl) (by kernel_rfl) (by kernel_rfl) (fun _ _ _ h => h) (Or.inl ⟨by rfl, ?y21⟩) hHeld ?r21
          case y21 => intro w hSw; (try dsimp only at hSw); go_simp; try with_reducible rfl
          try simp only [Act.put, List.setIfInBounds_toArray, List.set_cons_zero, List.set_cons_succ]
          refine wpAnyH_take (i := 10) (oi := { dst := some 32, op := Op.move (Operand.tmp 0), type := 25, pos := "l08_script.go:46", after := #[], guard := none }) (v := ?v22) rfl (by kernel_rfl) (by kernel_rfl) (by kernel_rfl) (fun _ _ _ h => h) (Or.inl ⟨by rfl, ?y22⟩) hHeld ?r22
          case y22 => intro w hSw; (try dsimp only at hSw); go_simp; try with_reducible rfl
          try simp only [Act.put, List.setIfInBounds_toArray, List.set_cons_zero, List.set_cons_succ]
          refine wpAnyH_take (i := 11) (oi := { dst := some 33, op := Op.move (Operand.tmp 4), type := 3, pos := "l08_script.go:46", after := #[], guard := none }) (v := ?v23) rfl (by kernel_rfl) (by kernel_rfl) (by kernel_rfl) (fun _ _ _ h => h) (Or.inl ⟨by rfl, ?y23⟩) hHeld ?r23
          case y23 => intro w hSw; (try dsimp only at hSw); go_simp; try with_reducible rfl
          try simp only [Act.put, List.setIfInBounds_toArray, List.set_cons_zero, List.set_cons_succ]
          refine wpAnyH_take (i := 12) (oi := { dst := some 34, op := Op.indexAddr 25 (Operand.tmp 32) (Operand.tmp 33), type := 0, pos := "l08_script.go:46", after := #[{ on := 10, ground := Ground.data }, { on := 11, ground := Ground.data }], guard := none }) (v := ?v24) rfl (by kernel_rfl) (by kernel_rfl) (by kernel_rfl) (fun _ _ _ h => h) (Or.inl ⟨by rfl, ?y24⟩) hHeld ?r24
          case y24 => intro w hSw; (try dsimp only at hSw); go_simp; try with_reducible rfl
          try simp only [Act.put, List.setIfInBounds_toArray, List.set_cons_zero, List.set_cons_succ]
          refine wpAnyH_take (i := 13) (oi := { dst := some 35, op := Op.fieldAddr 47 (Operand.tmp 34) 1, type := 0, pos := "l08_script.go:46", after := #[{ on := 12, ground := Ground.data }], guard := none }) (v := ?v25) rfl (by kernel_rfl) (by kernel_rfl) (by kernel_rfl) (fun _ _ _ h => h) (Or.inl ⟨by rfl, ?y25⟩) hHeld ?r25
          case y25 => intro w hSw; (try dsimp only at hSw); go_simp; try with_reducible rfl
          try simp only [Act.put, List.setIfInBounds_toArray, List.set_cons_zero, List.set_cons_succ]
          refine wpAnyH_take (i := 14) (oi := { dst := some 36, op := Op.load 9 (Operand.tmp 35), type := 9, pos := "l08_script.go:46", after := #[{ on := 13, ground := Ground.data }], guard := none }) (v := ?v26) rfl (by kernel_rfl) (by kernel_rfl) (by kernel_rfl) (fun _ _ _ h => h) (Or.inl ⟨by rfl, ?y26⟩) hHeld ?r26
          case y26 => intro w hSw; (try dsimp only at hSw); go_simp; try with_reducible rfl
          try simp only [Act.put, List.setIfInBounds_toArray, List.set_cons_zero, List.set_cons_succ]
          refine wpAnyH_ready (rs := [1]) (by kernel_rfl) (by simp) ?_
          refine AllReadyH.cons (o := { dst := some 23, op := Op.call { callee := Callee.value (Operand.func 36), args := #[], argTypes := #[] }, type := 43, pos := "l08_script.go:46", after := #[], guard := none }) rfl (fun K hK => ?_) AllReadyH.nil
          go_simp
          refine (HW.out _).mono ?_
          rintro e wA ⟨bA, rfl, cA, lA, hbA⟩
          have hPA := bl_tr (show Below wr.heap.size wr _ from (by repeat' (first | (with_reducible exact Below.refl _ _) | (with_reducible refine bl_dw ?_)))) hbA
          go_wp2_with fail
          refine hK.out _ _ (KEEP.out _ (by repeat' (first | (with_reducible exact Below.refl _ _) | (with_reducible exact hPA) | (with_reducible refine bl_dw ?_) | (with_reducible refine bl_aw ?_ _)))) (fun hHeld2 => ?_)
          clear hK K hHeld
          try simp only [Act.put, List.setIfInBounds_toArray, List.set_cons_zero, List.set_cons_succ]
          refine wpAnyH_take (i := 7) (oi := { dst := some 29, op := Op.indexAddr 43 (Operand.tmp 23) (Operand.tmp 28), type := 0, pos := "l08_script.go:46", after := #[{ on := 1, ground := Ground.data }, { on := 6, ground := Ground.data }], guard := none }) (v := ?v27) rfl (by kernel_rfl) (by kernel_rfl) (by kernel_rfl) (fun _ _ _ h => h) (Or.inl ⟨by rfl, ?y27⟩) hHeld2 ?r27
          case y27 => intro w hSw; (try dsimp only at hSw); go_simp; try with_reducible rfl
          try simp only [Act.put, List.setIfInBounds_toArray, List.set_cons_zero, List.set_cons_succ]
          refine wpAnyH_ready (rs := [8]) (by kernel_rfl) (by simp) ?_
          refine AllReadyH.cons (o := { dst := some 30, op := Op.load 9 (Operand.tmp 29), type := 9, pos := "l08_script.go:46", after := #[{ on := 7, ground := Ground.data }], guard := none }) rfl (fun K hK => ?_) AllReadyH.nil
          go_simp
          refine hK.out _ _ hHeld2 (fun hHeld3 => ?_)
          clear hK K hHeld2
          try simp only [Act.put, List.setIfInBounds_toArray, List.set_cons_zero, List.set_cons_succ]
          refine wpAnyH_take (i := 9) (oi := { dst := some 31, op := Op.binOp BinOp.add 9 (Operand.tmp 22) (Operand.tmp 30) 9, type := 9, pos := "l08_script.go:46", after := #[{ on := 0, ground := Ground.data }, { on := 8, ground := Ground.data }], guard := none }) (v := ?v28) rfl (by kernel_rfl) (by kernel_rfl) (by kernel_rfl) (fun _ _ _ h => h) (Or.inl ⟨by rfl, ?y28⟩) hHeld3 ?r28
          case y28 => intro w hSw; (try dsimp only at hSw); go_simp; try with_reducible rfl
          try simp only [Act.put, List.setIfInBounds_toArray, List.set_cons_zero, List.set_cons_succ]
          refine wpAnyH_take (i := 15) (oi := { dst := some 37, op := Op.binOp BinOp.add 9 (Operand.tmp 31) (Operand.tmp 36) 9, type := 9, pos := "l08_script.go:46", after := #[{ on := 9, ground := Ground.data }, { on := 14, ground := Ground.data }], guard := none }) (v := ?v29) rfl (by kernel_rfl) (by kernel_rfl) (by kernel_rfl) (fun _ _ _ h => h) (Or.inl ⟨by rfl, ?y29⟩) hHeld3 ?r29
          case y29 => intro w hSw; (try dsimp only at hSw); go_simp; try with_reducible rfl
          try simp only [Act.put, List.setIfInBounds_toArray, List.set_cons_zero, List.set_cons_succ]
          refine wpAnyH_take (i := 16) (oi := { dst := some 3, op := Op.assign (Operand.tmp 37), type := 9, pos := "l08_script.go:46", after := #[{ on := 15, ground := Ground.data }, { on := 1, ground := Ground.chain }, { on := 0, ground := Ground.phase }, { on := 1, ground := Ground.phase }, { on := 2, ground := Ground.phase }, { on := 3, ground := Ground.phase }, { on := 4, ground := Ground.phase }, { on := 5, ground := Ground.phase }, { on := 6, ground := Ground.phase }, { on := 7, ground := Ground.phase }, { on := 8, ground := Ground.phase }, { on := 9, ground := Ground.phase }, { on := 10, ground := Ground.phase }, { on := 11, ground := Ground.phase }, { on := 12, ground := Ground.phase }, { on := 13, ground := Ground.phase }, { on := 14, ground := Ground.phase }, { on := 15, ground := Ground.phase }], guard := none }) (v := ?v30) rfl (by kernel_rfl) (by kernel_rfl) (by kernel_rfl) (fun _ _ _ h => h) (Or.inl ⟨by rfl, ?y30⟩) hHeld3 ?r30
          case y30 => intro w hSw; (try dsimp only at hSw); go_simp; try with_reducible rfl
          try simp only [Act.put, List.setIfInBounds_toArray, List.set_cons_zero, List.set_cons_succ]
          refine wpAnyH_done (by kernel_rfl) ?_ _
          -- %%END
          all_goals
            go_wp2_with fail
            go_roundw
            case rel => exact ⟨k + 1, by omega, by go_num, by first | (rw [← HX3.out]; done) | (rw [← HX3.out]; rfl), HBW.out _ (by repeat' (first | (with_reducible exact Below.refl _ _) | (with_reducible exact hPA) | (with_reducible refine bl_dw ?_) | (with_reducible refine bl_aw ?_ _)))⟩
            case measure => simp [intOf] <;> omega
      · have hinb : inB op 1 5 = false := by
          unfold inB; exact decide_eq_false ho
        have HIN := Lib.hid (fun W => show Calls Tryd.prog 35 #[.int .i64 op, .int .i64 1, .int .i64 5] W fun e w' => e = .returned (.bool false) ∧ W = w' from by rw [← hinb]; exact lin_any _ _ _ W)
        have HNX := Lib.hid (show tx (k + 1) = tx k by rw [HTX.out]; show fmtSc (ls.take (k + 1)) = fmtSc (ls.take k); rw [HTK.out, fmtSc_none (frm_no ho)])
        clear hinb ho hr
        go_wp2_with (go_at_call 35; refine (HIN.out _).mono ?_; rintro e w' ⟨rfl, rfl⟩)
        go_roundw
        case rel => exact ⟨k + 1, by omega, by go_num, by first | (rw [HNX.out]; done) | (rw [HNX.out]; rfl), HB.out⟩
        case measure => simp [intOf] <;> omega
    · have hltd : decide ((k : Int) < (n : Int)) = false := decide_eq_false hlt
      have hkn : k = n := by omega
      subst hkn
      have HF := Lib.hid (show tx k = fmtSc ls by rw [HTX.out]; show fmtSc (ls.take k) = _; rw [List.take_of_length_le (by rw [HN.out]; exact Nat.le_refl _)])
      go_wp2_with fail
      go_ret
      exact ⟨by rw [← HF.out]; rfl, HB.out⟩
end Go.Proofs.YtiginllbfjekeaaDoor
