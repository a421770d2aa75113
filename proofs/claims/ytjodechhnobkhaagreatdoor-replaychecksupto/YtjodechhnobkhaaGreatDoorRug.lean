/- copied: accesses in memory of their own; the document's line of any right access, and its Print. (mkRug.py) -/
import Derived.Test.YtjodechhnobkhaaGreatDoorRud
import Derived.Test.YtjodechhnobkhaaGreatDoorOps
namespace Go.Proofs.YtjodechhnobkhaaGreatDoor
open Go.RowKit Go.Shelf
set_option linter.unusedVariables false

theorem app_nil (W : World) (p : Option Addr) (c : Nat) (l : List Nat) (hl : l.length ≤ 1048576) (h : URd W p l) (ty : TypeId) : ∃ v' W', (Builtin.append_ #[27, 27] ty #[.slice none 0 0, .slice p l.length c]).run Tryz.prog W = .ok v' W' ∧ W'.ownsRow 0 42 1 v' l.length (u64L l) ∧ W.grownBy W' none ∧ (v'.ownBlock = none ∨ v'.ownBlock = some W.heap.size) := by
  obtain ⟨i0, hi, hz0, hz1, hz2⟩ := info_parts infoUx
  rcases h with rfl | ⟨bk, off, rfl, hb, hc⟩
  · exact ⟨_, W, run_append_empty (P := Tryz.prog) W 27 ty 42 i0 Tryz.underlying27 hi p c, World.ownsRow_nil _ _ _ _, ⟨rfl, rfl, rfl, Nat.le_refl _, fun _ _ _ => rfl⟩, .inl rfl⟩
  · obtain ⟨v', w', hr, h2, h3, h4, h5⟩ := run_append_own_at (P := Tryz.prog) W 0 27 ty 42 i0 (.int .u64 0) 1 8 Tryz.underlying27 hi hz0 hz1 hz2 rfl (by decide) (.slice none 0 0) 0 [] (World.ownsRow_nil _ _ _ _) ⟨bk, off, none⟩ l.length c (u64L l) (by simp) (fun j u hj => by
      unfold u64L at hj
      rw [List.getElem?_map] at hj
      obtain ⟨x, hx, rfl⟩ := Option.map_eq_some_iff.mp hj
      rw [show (⟨bk, off, none⟩ : Addr).add j = ⟨bk, off + j, none⟩ by unfold Addr.add; split <;> simp_all]
      exact hc j x hx) (by intro u hu; obtain ⟨x, _, rfl⟩ := List.mem_map.1 hu; rfl) (by unfold maxLen; omega) (by omega) (Nat.zero_le _)
    exact ⟨v', w', hr, by simpa using h2, h3, h5⟩
theorem step_append_run {P : Program} {ops : Array Oper} {o : Oper} {a : Act} {w : World} {K : Act → World → Prop} {Q : Exit → Act → World → Prop} {E : Prop}
    (hgd : o.guard = none) (s x : Operand) (t : TypeId) (ho : o.op = Op.call { callee := Callee.builtin Builtin.append, args := #[s, x], argTypes := #[t, t] }) (v y v' : Value) (w' : World) (hs : a.eval s = v) (hx : a.eval x = y)
    (hr : (Builtin.append_ #[t, t] o.type #[v, y]).run P w = .ok v' w') (h : K (a.put o.dst v') w') :
    if Region.wanted o (yielded ops a.tmps) = true then Oper.wp P o a w K Q else E := by
  have hw : Region.wanted o (yielded ops a.tmps) = true := by simp [Region.wanted, hgd]
  rw [if_pos hw]
  unfold Oper.wp execOp
  simp only [ho, resolve, invoke, builtin, Sem.run_bind, Sem.run_pure, Result.andThen_ok, List.map_toArray, List.map_cons, List.map_nil, hs, hx, hr]
  exact h
theorem grow_below0 {w w' : World} (h : w.grownBy w' none) : Below w.heap.size w w' := (Below.refl _ w).grown h (Nat.le_refl _) (fun _ e => by cases e)
theorem own_new {v : Value} {n g : Nat} (h : v.ownBlock = none ∨ v.ownBlock = some n) (hg : v.ownBlock = some g) : n ≤ g := by
  rcases h with q | q
  · rw [q] at hg; cases hg
  · rw [q] at hg; injection hg with hg; omega
theorem cell_set_other {w : World} {b i : Nat} {a : Addr} {v u : Value} (h : w.cell? a = some u) (hne : a.block ≠ b) : (w.setCell ⟨b, i, none⟩ v).cell? a = some u := (World.cell?_of_block (w := w) (Below.heap_setCell _ _ _ _ hne)).trans h
/-- another block is written: a row of accesses stays -/
theorem AR.put {W wr : World} {v : Value} {ys : List (Ax × Value)} (h : AR W wr v ys) {b i : Nat} {cs : Array Value} {u : Value} (hb : wr.heap[b]? = some (.cells cs 44 (0, 0))) (hn : W.heap.size ≤ b ∧ v.ownBlock ≠ some b) : AR W (wr.setCell ⟨b, i, none⟩ u) v ys :=
  ⟨h.bel.setCell hn.1 _, row_kept h.row (fun k hk => Below.heap_setCell _ _ _ _ (fun e => hn.2 (by rw [hk]; exact congrArg some e))), h.new, fun j y hy => ⟨row_kept (h.vals j y hy).1 (fun k hk => Below.heap_setCell _ _ _ _ (fun e => by
    obtain ⟨cur, hcur⟩ := row_block (h.vals j y hy).1 k hk
    have e' : k = b := e
    subst e'
    rw [hb] at hcur
    injection hcur with hcur
    injection hcur with _ ht
    revert ht; decide)), (h.vals j y hy).2⟩⟩
theorem row_vs {W : World} {v : Value} {us : List Nat} (h : W.ownsRow 0 42 1 v us.length (u64L us)) : ∃ ao ac, v = .slice ao us.length ac := row_u_slice h

set_option maxRecDepth 100000 in
set_option maxHeartbeats 4000000 in
theorem copied_any (p : Option Addr) (c : Nat) (l : List Ax) (W : World) (h : In W p l) :
    Calls Tryz.prog 5 #[.slice p l.length c] W fun e W' => ∃ v, e = .returned v ∧ ∃ ys, AR W W' v ys ∧ ys.map Prod.fst = l := by
  obtain ⟨i0, hi, hz0, hz1, hz2⟩ := info_parts infoAx
  have hlen := h.len
  obtain ⟨n, hn⟩ : ∃ n, n = l.length := ⟨_, rfl⟩
  rw [← hn] at hlen ⊢
  have HN := keepH hn
  have HIN := keepH h
  clear hn h
  go_enter Tryz.func5, Tryz.ntmps5
  go_wp2_with fail
  go_loopw [3, 4, 5] (fun s3 s4 s5 wr => ∃ (i : Nat) (ys : List (Ax × Value)), i ≤ n ∧ s4 = .int .i64 (i : Int) ∧ ys.length = i ∧ Hid (AR W wr s3 ys ∧ ys.map Prod.fst = l.take i)) (fun _ s4 _ _ => n - (intOf s4).toNat)
  case atStart => exact ⟨0, [], by omega, rfl, rfl, keepH ⟨AR.start W, rfl⟩⟩
  case round =>
    obtain ⟨i, ys, hin, rfl, hyl, HI⟩ := hrel
    by_cases hlt : i < n
    · have q1 : (i : Int) < (n : Int) := by omega
      have q0 : (0 : Int) ≤ (i : Int) := by omega
      obtain ⟨x, hx⟩ : ∃ x, l[i]? = some x := ⟨l[i]'(by rw [← HN.out]; exact hlt), List.getElem?_eq_getElem _⟩
      have hvl := HIN.out.vl x (List.mem_of_getElem? hx)
      obtain ⟨bk, off, vp, vc, rfl, hbk, a0, a1, a2, a3, a4, a5, a6, a7, hu⟩ := (HIN.out.rd.on HI.out.1.bel).get i x hx
      obtain ⟨xth, xk, xad, xa, xb, xvals, xgot, xok⟩ := x
      simp only at a0 a1 a2 a3 a4 a5 a6 a7 hvl hu
      obtain ⟨vn, hvn⟩ : ∃ vn, vn = xvals.length := ⟨_, rfl⟩
      rw [← hvn] at a5
      obtain ⟨AB, hAB⟩ : ∃ AB, AB = wr.heap.size := ⟨_, rfl⟩
      obtain ⟨w3, hw3⟩ : ∃ w3, w3 = wr.alloc (.cells #[.int .i64 xth, .int .u8 (xk : Int), .int .u64 (xad : Int), .int .u64 (xa : Int), .int .u64 (xb : Int), .slice vp vn vc, .int .u64 (xgot : Int), .bool xok] 44) := ⟨_, rfl⟩
      have C3 : Below wr.heap.size wr w3 := by rw [hw3]; exact below_alloc _ _
      have X3 : w3.heap[AB]? = some (.cells #[.int .i64 xth, .int .u8 (xk : Int), .int .u64 (xad : Int), .int .u64 (xa : Int), .int .u64 (xb : Int), .slice vp vn vc, .int .u64 (xgot : Int), .bool xok] 44 (0, 0)) := by rw [hw3, hAB]; exact heap_alloc_new _ _
      obtain ⟨w4, hw4⟩ : ∃ w4, w4 = w3.setCell ⟨AB, 5, none⟩ (.slice none 0 0) := ⟨_, rfl⟩
      have C4 : Below wr.heap.size wr w4 := by rw [hw4]; exact C3.setCell (by simp only; omega) _
      have X4 : w4.heap[AB]? = some (.cells #[.int .i64 xth, .int .u8 (xk : Int), .int .u64 (xad : Int), .int .u64 (xa : Int), .int .u64 (xb : Int), .slice none 0 0, .int .u64 (xgot : Int), .bool xok] 44 (0, 0)) := by rw [hw4]; exact set_of X3 5 _
      have x5 : w3.cell? ⟨AB, 5, none⟩ = some (.slice vp vn vc) := cell_of X3 5
      have z5 := free_of X3 5
      have b5 := cell_below a5 C4
      have n5 : w4.cell? ⟨AB, 5, none⟩ = some (.slice none 0 0) := cell_of X4 5
      have HAPP : Hid (∀ ty, ∃ v' W', (Builtin.append_ #[27, 27] ty #[.slice none 0 0, .slice vp vn vc]).run Tryz.prog w4.drew = .ok v' W' ∧ W'.ownsRow 0 42 1 v' xvals.length (u64L xvals) ∧ w4.drew.grownBy W' none ∧ (v'.ownBlock = none ∨ v'.ownBlock = some w4.drew.heap.size)) := keepH (fun ty => by
        rw [hvn]
        exact app_nil w4.drew vp vc xvals hvl ((hu.on C4).on (below_drew1 (Below.refl _ _))) ty)
      have HH4 : Hid (AR W w4 u3 ys ∧ w4.heap[AB]? = some (.cells #[.int .i64 xth, .int .u8 (xk : Int), .int .u64 (xad : Int), .int .u64 (xa : Int), .int .u64 (xb : Int), .slice none 0 0, .int .u64 (xgot : Int), .bool xok] 44 (0, 0)) ∧ wr.heap.size ≤ AB) := keepH ⟨HI.out.1.on C4, X4, by omega⟩
      have HBN : Hid (W.heap.size ≤ AB ∧ u3.ownBlock ≠ some AB) := keepH ⟨by have := HI.out.1.bel.size; omega, fun e => by have := row_lt HI.out.1.row AB e; omega⟩
      have HX := keepH hx
      have HVN := keepH hvn
      have HW3 := keepH hw3
      have HW4 := keepH hw4
      have HS0 : Hid (w4.cell? ⟨bk, off + i * 8 + 5, none⟩ = some (.slice vp vn vc)) := keepH b5
      clear hx hvn hw3 hw4 C3 X3 C4 X4 b5 hu
      go_upto_region 6 with fail
      rw [← HW3.out, ← hAB]
      have HAB : Hid (bk ≠ AB) := keepH (by omega)
      clear hAB hbk
      go_upto_region 7 with fail
      rw [← HW4.out]
      clear a0 a1 a2 a3 a4 a5 a6 a7 x5 z5
      refine wp_region_held_drew (S := fun w' => w'.cell? ⟨bk, off + i * 8 + 5, none⟩ = some (.slice vp vn vc)) (by kernel_rfl) (HS0.out) ?_
      intro hHeld
      refine wpAnyH_take (i := 0) (v := ?_) rfl (by kernel_rfl) (by kernel_rfl) (by kernel_rfl) (fun _ _ _ h => h) (Or.inl ⟨by rfl, ?_⟩) hHeld ?_
      rotate_left
      · intro w hSw
        (try dsimp only at hSw)
        go_simp
        try with_reducible rfl
      (try simp only [Act.put]); (try simp only [List.setIfInBounds_toArray]); (try simp only [List.getElem_toArray]); (repeat (first | simp only [List.getElem_cons_succ] | simp only [List.getElem_cons_zero])); (repeat (first | simp only [List.set_cons_succ] | simp only [List.set_cons_zero]))
      refine wpAnyH_take (i := 2) (v := ?_) rfl (by kernel_rfl) (by kernel_rfl) (by kernel_rfl) (fun _ _ _ h => h) (Or.inl ⟨by rfl, ?_⟩) hHeld ?_
      rotate_left
      · intro w hSw
        (try dsimp only at hSw)
        go_simp
        try with_reducible rfl
      (try simp only [Act.put]); (try simp only [List.setIfInBounds_toArray]); (try simp only [List.getElem_toArray]); (repeat (first | simp only [List.getElem_cons_succ] | simp only [List.getElem_cons_zero])); (repeat (first | simp only [List.set_cons_succ] | simp only [List.set_cons_zero]))
      refine wpAnyH_take (i := 3) (v := ?_) rfl (by kernel_rfl) (by kernel_rfl) (by kernel_rfl) (fun _ _ _ h => h) (Or.inl ⟨by rfl, ?_⟩) hHeld ?_
      rotate_left
      · intro w hSw
        (try dsimp only at hSw)
        go_simp
        try with_reducible rfl
      (try simp only [Act.put]); (try simp only [List.setIfInBounds_toArray]); (try simp only [List.getElem_toArray]); (repeat (first | simp only [List.getElem_cons_succ] | simp only [List.getElem_cons_zero])); (repeat (first | simp only [List.set_cons_succ] | simp only [List.set_cons_zero]))
      refine wpAnyH_take (i := 4) (v := ?_) rfl (by kernel_rfl) (by kernel_rfl) (by kernel_rfl) (fun _ _ _ h => h) (Or.inl ⟨by rfl, ?_⟩) hHeld ?_
      rotate_left
      · intro w hSw
        (try dsimp only at hSw)
        go_simp
        try with_reducible rfl
      (try simp only [Act.put]); (try simp only [List.setIfInBounds_toArray]); (try simp only [List.getElem_toArray]); (repeat (first | simp only [List.getElem_cons_succ] | simp only [List.getElem_cons_zero])); (repeat (first | simp only [List.set_cons_succ] | simp only [List.set_cons_zero]))
      refine wpAnyH_take (i := 5) (v := ?_) rfl (by kernel_rfl) (by kernel_rfl) (by kernel_rfl) (fun _ _ _ h => h) (Or.inl ⟨by rfl, ?_⟩) hHeld ?_
      rotate_left
      · intro w hSw
        (try dsimp only at hSw)
        go_simp
        try with_reducible rfl
      (try simp only [Act.put]); (try simp only [List.setIfInBounds_toArray]); (try simp only [List.getElem_toArray]); (repeat (first | simp only [List.getElem_cons_succ] | simp only [List.getElem_cons_zero])); (repeat (first | simp only [List.set_cons_succ] | simp only [List.set_cons_zero]))
      refine wpAnyH_take (i := 6) (v := ?_) rfl (by kernel_rfl) (by kernel_rfl) (by kernel_rfl) (fun _ _ _ h => h) (Or.inl ⟨by rfl, ?_⟩) hHeld ?_
      rotate_left
      · intro w hSw
        (try dsimp only at hSw)
        go_simp
        try with_reducible rfl
      (try simp only [Act.put]); (try simp only [List.setIfInBounds_toArray]); (try simp only [List.getElem_toArray]); (repeat (first | simp only [List.getElem_cons_succ] | simp only [List.getElem_cons_zero])); (repeat (first | simp only [List.set_cons_succ] | simp only [List.set_cons_zero]))
      refine wpAnyH_ready (rs := [1]) (by kernel_rfl) (by simp) ?_
      refine AllReadyH.cons rfl (fun KK hKK => ?_) AllReadyH.nil
      go_simp
      refine hKK.out _ _ ?_ (fun hHeld => ?_)
      · exact HS0.out
      clear hKK KK
      (try simp only [Act.put]); (try simp only [List.setIfInBounds_toArray]); (try simp only [List.getElem_toArray]); (repeat (first | simp only [List.getElem_cons_succ] | simp only [List.getElem_cons_zero])); (repeat (first | simp only [List.set_cons_succ] | simp only [List.set_cons_zero]))
      refine wpAnyH_ready (rs := [7]) (by kernel_rfl) (by simp) ?_
      refine AllReadyH.cons rfl (fun KK hKK => ?_) AllReadyH.nil
      obtain ⟨va, w5, hrun, hrow, hgr, hob⟩ := HAPP.out _
      obtain ⟨ao, ac, rfl⟩ := row_vs hrow
      rw [← HVN.out] at hrun hrow hob
      have G5 := grow_below0 hgr
      have HC5 : Hid (Below w4.heap.size w4 w5) := keepH ⟨G5.os, G5.tape, G5.output, G5.size, G5.block⟩
      have HROW : Hid (w5.ownsRow 0 42 1 (.slice ao vn ac) vn (u64L xvals) ∧ ∀ g, (Value.slice ao vn ac).ownBlock = some g → w4.heap.size ≤ g) := keepH ⟨hrow, fun g hg => own_new hob hg⟩
      refine step_append_run rfl (.tmp 18) (.tmp 23) 27 rfl _ _ _ _ rfl rfl hrun ?_
      have X5 := heap_below HH4.out.2.1 HC5.out
      have y5 : w5.cell? ⟨AB, 5, none⟩ = some (.slice none 0 0) := cell_of X5 5
      have z5 := free_of X5 5
      have HX5 := keepH X5
      clear hrun hrow hgr hob G5 X5
      refine hKK.out _ _ ?_ (fun hHeld => ?_)
      · exact cell_below HS0.out HC5.out
      clear hKK KK
      (try simp only [Act.put]); (try simp only [List.setIfInBounds_toArray]); (try simp only [List.getElem_toArray]); (repeat (first | simp only [List.getElem_cons_succ] | simp only [List.getElem_cons_zero])); (repeat (first | simp only [List.set_cons_succ] | simp only [List.set_cons_zero]))
      refine wpAnyH_take (i := 8) (v := ?_) rfl (by kernel_rfl) (by kernel_rfl) (by kernel_rfl) (fun _ _ _ h => h) (Or.inl ⟨by rfl, ?_⟩) hHeld ?_
      rotate_left
      · intro w hSw
        (try dsimp only at hSw)
        go_simp
        try with_reducible rfl
      (try simp only [Act.put]); (try simp only [List.setIfInBounds_toArray]); (try simp only [List.getElem_toArray]); (repeat (first | simp only [List.getElem_cons_succ] | simp only [List.getElem_cons_zero])); (repeat (first | simp only [List.set_cons_succ] | simp only [List.set_cons_zero]))
      refine wpAnyH_ready (rs := [9]) (by kernel_rfl) (by simp) ?_
      refine AllReadyH.cons rfl (fun KK hKK => ?_) AllReadyH.nil
      go_simp
      refine hKK.out _ _ ?_ (fun hHeld => ?_)
      · exact cell_set_other (cell_below HS0.out HC5.out) HAB.out
      clear hKK KK
      (try simp only [Act.put]); (try simp only [List.setIfInBounds_toArray]); (try simp only [List.getElem_toArray]); (repeat (first | simp only [List.getElem_cons_succ] | simp only [List.getElem_cons_zero])); (repeat (first | simp only [List.set_cons_succ] | simp only [List.set_cons_zero]))
      refine wpAnyH_done (by kernel_rfl) ?_ _
      go_simp
      obtain ⟨w6, hw6⟩ : ∃ w6, w6 = w5.setCell ⟨AB, 5, none⟩ (.slice ao vn ac) := ⟨_, rfl⟩
      rw [← hw6]
      have HH6 : Hid (AR W w6 u3 ys ∧ w6.heap[AB]? = some (.cells #[.int .i64 xth, .int .u8 (xk : Int), .int .u64 (xad : Int), .int .u64 (xa : Int), .int .u64 (xb : Int), .slice ao vn ac, .int .u64 (xgot : Int), .bool xok] 44 (0, 0)) ∧ w6.ownsRow 0 42 1 (.slice ao vn ac) vn (u64L xvals) ∧ ∀ g, (Value.slice ao vn ac).ownBlock = some g → W.heap.size ≤ g) := keepH (by
        have A5 := HH4.out.1.on HC5.out
        rw [hw6]
        exact ⟨A5.put HX5.out HBN.out, set_of HX5.out 5 _, row_kept HROW.out.1 (fun g hg => Below.heap_setCell _ _ _ _ (fun e => by have := HROW.out.2 g hg; have h4 := lt_of HH4.out.2.1; have e' : g = AB := e; omega)), fun g hg => Nat.le_trans HH4.out.1.bel.size (HROW.out.2 g hg)⟩)
      clear hw6 y5 z5
      have y0 : w6.cell? ⟨AB, 0, none⟩ = some (.int .i64 xth) := cell_of HH6.out.2.1 0
      have y1 : w6.cell? ⟨AB, 1, none⟩ = some (.int .u8 (xk : Int)) := cell_of HH6.out.2.1 1
      have y2 : w6.cell? ⟨AB, 2, none⟩ = some (.int .u64 (xad : Int)) := cell_of HH6.out.2.1 2
      have y3 : w6.cell? ⟨AB, 3, none⟩ = some (.int .u64 (xa : Int)) := cell_of HH6.out.2.1 3
      have y4 : w6.cell? ⟨AB, 4, none⟩ = some (.int .u64 (xb : Int)) := cell_of HH6.out.2.1 4
      have y5 : w6.cell? ⟨AB, 5, none⟩ = some (.slice ao vn ac) := cell_of HH6.out.2.1 5
      have y6 : w6.cell? ⟨AB, 6, none⟩ = some (.int .u64 (xgot : Int)) := cell_of HH6.out.2.1 6
      have y7 : w6.cell? ⟨AB, 7, none⟩ = some (.bool xok) := cell_of HH6.out.2.1 7
      obtain ⟨nl, hnl⟩ : ∃ nl, nl = ys.length := ⟨_, rfl⟩
      have HNL := keepH hnl
      have hn6 : nl ≤ 1048576 := by omega
      obtain ⟨w7, hw7⟩ : ∃ w7, w7 = w6.alloc (.cells #[.int .i64 xth, .int .u8 (xk : Int), .int .u64 (xad : Int), .int .u64 (xa : Int), .int .u64 (xb : Int), .slice ao vn ac, .int .u64 (xgot : Int), .bool xok] 44) := ⟨_, rfl⟩
      have HRW : Hid (w7.ownsRow 0 44 8 u3 nl (accsRow ys)) := by rw [hw7, hnl]; exact HH6.out.1.row.alloc _
      have HX7 : Hid (∀ j z, [.int .i64 xth, .int .u8 (xk : Int), .int .u64 (xad : Int), .int .u64 (xa : Int), .int .u64 (xb : Int), .slice ao vn ac, .int .u64 (xgot : Int), .bool xok][j]? = some z → w7.cell? ((⟨w6.heap.size, 0, none⟩ : Addr).add j) = some z) := by rw [hw7]; exact cells_newR w6 _ rfl #[.int .i64 xth, .int .u8 (xk : Int), .int .u64 (xad : Int), .int .u64 (xa : Int), .int .u64 (xb : Int), .slice ao vn ac, .int .u64 (xgot : Int), .bool xok] 44
      have HW7 := keepH hw7
      have HYL := keepH hyl
      clear hw7 hnl hyl
      go_wp2_with (first | (at_builtin; rw [← HW7.out]; refine wpList_append_own_at _ rfl _ _ 22 rfl 0 44 i0 (.agg (bxA ax0 (.slice none 0 0))) 8 80 Tryz.underlying22 hi hz0 hz1 hz2 rfl (by decide) u3 nl (accsRow ys) rfl HRW.out ⟨w6.heap.size, 0, none⟩ 1 1 [.int .i64 xth, .int .u8 (xk : Int), .int .u64 (xad : Int), .int .u64 (xa : Int), .int .u64 (xb : Int), .slice ao vn ac, .int .u64 (xgot : Int), .bool xok] rfl rfl HX7.out (by intro z hz; simp at hz; rcases hz with rfl | rfl | rfl | rfl | rfl | rfl | rfl | rfl <;> rfl) (by unfold maxLen; omega) (by omega) (Nat.zero_le _) ?_; intro v2 w8 r1 r2 r3 r4; have R1 := keepH r1; have R2 := keepH r2; have R4 := keepH r4; clear r1 r2 r3 r4) | go_in)
      have HM : Hid (AR W w8 v2 (ys ++ [(⟨xth, xk, xad, xa, xb, xvals, xgot, xok⟩, .slice ao vn ac)]) ∧ (ys ++ [((⟨xth, xk, xad, xa, xb, xvals, xgot, xok⟩ : Ax), Value.slice ao vn ac)]).map Prod.fst = l.take (i + 1)) := keepH ⟨HH6.out.1.more (o := .cells #[.int .i64 xth, .int .u8 (xk : Int), .int .u64 (xad : Int), .int .u64 (xa : Int), .int .u64 (xb : Int), .slice ao vn ac, .int .u64 (xgot : Int), .bool xok] 44) ⟨by simp only; rw [← HVN.out]; exact HH6.out.2.2.1, HH6.out.2.2.2⟩ (by rw [← HNL.out]; exact R1.out) (by rw [← HW7.out]; exact R2.out) (by rw [← HW7.out]; exact R4.out), by rw [List.map_append, HI.out.2, List.take_add_one, HX.out]; rfl⟩
      go_roundw
      case rel => exact ⟨i + 1, _, by omega, by first | rfl | go_num, by simp [HYL.out], HM⟩
      case measure => simp [intOf]; omega
    · have q1 : ¬ (i : Int) < (n : Int) := by omega
      go_wp2_with fail
      go_ret
      exact ⟨u3, rfl, ys, HI.out.1, by rw [HI.out.2, List.take_of_length_le (by rw [← HN.out]; omega)]⟩
end Go.Proofs.YtjodechhnobkhaaGreatDoor
