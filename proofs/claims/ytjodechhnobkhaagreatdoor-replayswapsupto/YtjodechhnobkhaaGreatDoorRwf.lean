/- The program's Swaps. (mkRwf.py) -/
import Derived.Test.YtjodechhnobkhaaGreatDoorRwe
import Derived.Laws.Tables
namespace Go.Proofs.YtjodechhnobkhaaGreatDoor
open Go.RowKit Go.Maps
set_option linter.unusedVariables false

theorem step_store_row {P : Program} {ops : Array Oper} {o : Oper} {a : Act} {w : World} {K : Act → World → Prop} {Q : Exit → Act → World → Prop} {E : Prop} (hgd : o.guard = none) (ty : TypeId) (x y : Operand) (ho : o.op = .store ty x y)
    (g : Nat) (cells : Array Value) (hx : a.eval x = .pointer (some ⟨g, 0, none⟩)) (hy : a.eval y = .agg cells)
    (t : TypeId) (old : Array Value) (hg : w.heap[g]? = some (.cells old t (0, 0))) (hi : (P.info? ty).map (·.size) = some cells.size)
    (hold : old.size = cells.size) (h1 : cells.all (·.oneCell') = true) (h : K (a.put o.dst undef) (w.setRow g cells)) :
    if Region.wanted o (yielded ops a.tmps) = true then Oper.wp P o a w K Q else E := by
  have hw : Region.wanted o (yielded ops a.tmps) = true := by simp [Region.wanted, hgd]
  rw [if_pos hw]
  exact wp_store_row ty x y ho g cells hx hy t old hg hi hold h1 h

def clAt (tr : List Ax) (i : Nat) : Bool := match tr[i]?, tr[i + 1]? with
  | some x, some y => clA x.kind y.kind x.addr y.addr x.ok y.ok
  | _, _ => false
def swB (tr : List Ax) (st : List Int) (ds : List Dx) (i : Nat) : Bool :=
  !decide ((momAt tr st i).1 = (momAt tr st (i + 1)).1) && !decide ((momAt tr st i).2 = (momAt tr st (i + 1)).2) && !decide (momAt tr st i ∈ edgesL ds) && !decide (momAt tr st (i + 1) ∈ edgesL ds) && !clAt tr i
def swL (tr : List Ax) (st : List Int) (ds : List Dx) (k : Nat) : List Nat := (List.range k).filter (swB tr st ds)
theorem swL_no {tr : List Ax} {st : List Int} {ds : List Dx} {k : Nat} (h : swB tr st ds k = false) : swL tr st ds (k + 1) = swL tr st ds k := by
  simp [swL, List.range_succ, List.filter_append, h]
theorem swL_yes {tr : List Ax} {st : List Int} {ds : List Dx} {k : Nat} (h : swB tr st ds k = true) : swL tr st ds (k + 1) = swL tr st ds k ++ [k] := by
  simp [swL, List.range_succ, List.filter_append, h]
theorem swL_len (tr : List Ax) (st : List Int) (ds : List Dx) (k : Nat) : (swL tr st ds k).length ≤ k := by
  unfold swL
  exact Nat.le_trans (List.length_filter_le _ _) (by simp)
def iRow (xs : List Nat) : List Value := xs.map fun n => Value.int .i64 ((n : Nat) : Int)
theorem infoInt : (Tryz.prog.info? 3).map (fun i => (i.zero, i.size, i.bytes)) = some (some (.int .i64 0), 1, 8) := by kernel_rfl
structure SwSt (Z : World) (l : List Nat) (v : Value) (wr : World) : Prop where
  row : wr.ownsRow 0 3 1 v l.length (iRow l)
  bel : Below Z.heap.size Z wr
  new : ∀ b, v.ownBlock = some b → Z.heap.size ≤ b
structure SwR (n : Nat) (Z : World) (tr : List Ax) (st : List Int) (ds : List Dx) (v s : Value) (wr : World) : Prop where
  out : ∃ i : Nat, i ≤ n - 1 ∧ s = .int .i64 (i : Int) ∧ SwSt Z (swL tr st ds i) v wr
theorem SwSt.on {Z : World} {l : List Nat} {v : Value} {wr X : World} (h : SwSt Z l v wr) (hb : Below wr.heap.size wr X) : SwSt Z l v X :=
  ⟨row_kept h.row fun b hb' => hb.block b (row_lt h.row b hb'), below_chain h.bel hb, h.new⟩
theorem SwSt.more {Z : World} {l : List Nat} {v v' : Value} {w1 w2 : World} {k : Nat} {o : Obj} (h : SwSt Z l v w1) (hr : w2.ownsRow 0 3 1 v' (l.length + 1) (iRow l ++ [.int .i64 (k : Int)])) (hg : (w1.alloc o).grownBy w2 v.ownBlock) (hw : v'.ownBlock = v.ownBlock ∨ v'.ownBlock = some (w1.alloc o).heap.size) : SwSt Z (l ++ [k]) v' w2 := by
  have hs := h.bel.size
  refine ⟨?_, (h.bel.alloc hs _).grown hg (by simp; omega) (fun k hk => h.new k hk), ?_⟩
  · rw [List.length_append]
    unfold iRow at *
    rw [List.map_append]
    exact hr
  · intro b hb
    rcases hw with e1 | e1
    · rw [e1] at hb
      exact h.new b hb
    · rw [e1] at hb
      simp at hb
      omega
theorem momAt_ok {tr : List Ax} {st : List Int} {i : Nat} (ho : ∀ x ∈ tr, x.Ok) (hs : ∀ z ∈ st, isI z) : momOk (momAt tr st i) := by
  unfold momAt momOk
  constructor
  · cases e : tr[i]? with
    | none => simp [isI]
    | some x =>
      have := ho x (List.mem_of_getElem? e)
      simp only [Option.map_some, Option.getD_some]
      exact ⟨this.th0, this.th1⟩
  · cases e : st[i]? with
    | none => simp [isI]
    | some z => exact hs z (List.mem_of_getElem? e)
theorem acc_cellsW {W : World} {p : Option Addr} {xs : List Ax} (h : ARd W p xs) (i : Nat) (x : Ax) (hx : xs[i]? = some x) : ∃ bk off vp vc, p = some ⟨bk, off, none⟩ ∧ bk < W.heap.size ∧ ∀ w, Below W.heap.size W w → (w.cell? ⟨bk, off + i * 8, none⟩ = some (.int .i64 x.th) ∧ w.cell? ⟨bk, off + i * 8 + 1, none⟩ = some (.int .u8 (x.kind : Int)) ∧ w.cell? ⟨bk, off + i * 8 + 2, none⟩ = some (.int .u64 (x.addr : Int)) ∧ w.cell? ⟨bk, off + i * 8 + 3, none⟩ = some (.int .u64 (x.a : Int)) ∧ w.cell? ⟨bk, off + i * 8 + 4, none⟩ = some (.int .u64 (x.b : Int)) ∧ w.cell? ⟨bk, off + i * 8 + 5, none⟩ = some (.slice vp x.vals.length vc) ∧ w.cell? ⟨bk, off + i * 8 + 6, none⟩ = some (.int .u64 (x.got : Int)) ∧ w.cell? ⟨bk, off + i * 8 + 7, none⟩ = some (.bool x.ok)) := by
  obtain ⟨bk, off, vp, vc, rfl, hb, c0, c1, c2, c3, c4, c5, c6, c7, _⟩ := h.get i x hx
  exact ⟨bk, off, vp, vc, rfl, hb, fun w hw => ⟨cell_below c0 hw, cell_below c1 hw, cell_below c2 hw, cell_below c3 hw, cell_below c4 hw, cell_below c5 hw, cell_below c6 hw, cell_below c7 hw⟩⟩

theorem cells_newW (w : World) (g : Nat) (hg : w.heap.size = g) (cs : Array Value) (t : TypeId) : ∀ j u, cs.toList[j]? = some u → (w.alloc (.cells cs t)).cell? ((⟨g, 0, none⟩ : Addr).add j) = some u := by
  intro j u h
  subst hg
  have e : (⟨w.heap.size, 0, none⟩ : Addr).add j = ⟨w.heap.size, j, none⟩ := by unfold Addr.add; split <;> simp_all
  rw [e]
  have hh : (w.alloc (.cells cs t)).heap[w.heap.size]? = some (.cells cs t (0, 0)) := heap_alloc_new _ _
  rw [cell_of hh j]
  simpa using h
/-- what lies behind the look at both moments -/
def MB (wr : World) (p q : Nat) (a1 a2 b1 b2 : Int) (w : World) : Prop := w.heap[p]? = some (.cells #[.int .i64 a1, .int .i64 a2] 61 (0, 0)) ∧ w.heap[q]? = some (.cells #[.int .i64 b1, .int .i64 b2] 61 (0, 0)) ∧ Below wr.heap.size wr w

set_option maxRecDepth 100000 in
set_option maxHeartbeats 8000000 in
theorem swaps_any (pd : Option Addr) (cd : Nat) (ds : List Dx) (pt : Option Addr) (ct : Nat) (tr : List Ax) (ps : Option Addr) (cs : Nat) (st : List Int) (W : World) (hd : DRd W pd ds) (ht : ARd W pt tr) (hs : IRd W ps st) (hod : ∀ d ∈ ds, d.Ok) (hot : ∀ x ∈ tr, x.Ok) (hos : ∀ z ∈ st, isI z) (hl : tr.length ≤ 1048576) (hl' : st.length ≤ 1048576) (hld : ds.length ≤ 1048576) :
    Calls Tryz.prog 14 #[ResV pd ds.length cd pt tr.length ct ps st.length cs] W fun e W' => ∃ v, e = .returned v ∧ W'.ownsRow 0 3 1 v (swL tr st ds (tr.length - 1)).length (iRow (swL tr st ds (tr.length - 1))) ∧ Below W.heap.size W W' := by
  obtain ⟨i0, hi, hz0, hz1, hz2⟩ := info_parts infoInt
  have HI := keepH hi
  have HT := keepH ht
  have HD := keepH hd
  have HS := keepH hs
  have HOK := keepH (fun i => momAt_ok (i := i) hot hos)
  have HMO := keepH (fun (i : Nat) (w : World) (hi : i < tr.length) (hb : Below W.heap.size W w) => momentOf_any pd ds.length cd pt ct tr ps cs st i w (ht.on hb) (hs.on hb) hi hl hl')
  have HED := keepH (fun w (hb : Below W.heap.size W w) => edgesOf_any pd cd ds w (hd.on hb) hod hld)
  obtain ⟨n, hn⟩ : ∃ n, n = tr.length := ⟨_, rfl⟩
  obtain ⟨m, hm⟩ : ∃ m, m = st.length := ⟨_, rfl⟩
  obtain ⟨nd, hnd⟩ : ∃ nd, nd = ds.length := ⟨_, rfl⟩
  have HN := keepH hn
  rw [← hn, ← hm, ← hnd] at HMO
  rw [← hnd] at HED
  rw [← hn, ← hm, ← hnd]
  rw [← hn] at hl
  unfold ResV at HMO ⊢
  obtain ⟨w1, hw1⟩ : ∃ w1, w1 = W.alloc (.cells #[.slice pd nd cd, .slice pt n ct, .slice ps m cs] 37) := ⟨_, rfl⟩
  obtain ⟨B, hB⟩ : ∃ B, B = W.heap.size := ⟨_, rfl⟩
  have S1 : BxSt W B #[.slice pd nd cd, .slice pt n ct, .slice ps m cs] w1 := by
    rw [hw1, hB]
    exact ⟨heap_alloc_new _ _, below_alloc _ _⟩
  have HS1 := keepH S1
  have HW1 := keepH hw1
  have HB := keepH hB
  have b0 : w1.cell? ⟨B, 0, none⟩ = some (.slice pd nd cd) := cell_of S1.bx 0
  clear hi hd ht hs hod hot hos hl' hld hn hm hnd S1 hw1 hB
  go_enter Tryz.func14, Tryz.ntmps14
  go_upto_region 1 with fail
  rw [← HW1.out, ← HB.out]
  go_wp2_with fail
  refine (HED.out w1 HS1.out.bel).mono ?_
  rintro e w2 ⟨rfl, hkm, B2⟩
  have HKM := keepH hkm
  have HB2 := keepH B2
  have HS2 := keepH (HS1.out.on B2)
  clear b0 hkm B2
  obtain ⟨M, hM⟩ : ∃ M, M = w1.heap.size := ⟨_, rfl⟩
  rw [← hM] at HKM ⊢
  clear hM
  go_wp2_with fail
  go_loopw [4, 5] (fun v s wr => SwR n w2 tr st ds v s wr) (fun _ s _ => n - 1 - (intOf s).toNat)
  case atStart => exact SwR.mk ⟨0, by omega, rfl, World.ownsRow_nil _ _ _ _, Below.refl _ _, fun b hb => by simp [Value.ownBlock] at hb⟩
  case round =>
    obtain ⟨i, hi1, rfl, hk0⟩ := hrel.out
    have HK := keepH hk0
    clear hk0 hrel
    obtain ⟨j, hj⟩ : ∃ j, j = i + 1 := ⟨_, rfl⟩
    have HJ := keepH hj
    have qw : IntKind.i64.wrap ((i : Int) + 1) = (j : Int) := by rw [IntKind.wrap_i64]; omega
    have HSR := keepH (HS2.out.on HK.out.bel)
    have b0 : wr.cell? ⟨B, 0, none⟩ = some (.slice pd nd cd) := cell_of HSR.out.bx 0
    have b1 : wr.cell? ⟨B, 1, none⟩ = some (.slice pt n ct) := cell_of HSR.out.bx 1
    have b2 : wr.cell? ⟨B, 2, none⟩ = some (.slice ps m cs) := cell_of HSR.out.bx 2
    by_cases hlt : i + 1 < n
    · have t1 : (j : Int) < (n : Int) := by omega
      have t2 : (i : Int) < (n : Int) := by omega
      have t0 : (0 : Int) ≤ (i : Int) := by omega
      have t3 : (0 : Int) ≤ (j : Int) := by omega
      obtain ⟨x, hx⟩ : ∃ x, tr[i]? = some x := ⟨tr[i]'(by have := HN.out; omega), List.getElem?_eq_getElem _⟩
      obtain ⟨y, hy⟩ : ∃ y, tr[j]? = some y := ⟨tr[j]'(by have := HN.out; omega), List.getElem?_eq_getElem _⟩
      have hcl : clAt tr i = clA x.kind y.kind x.addr y.addr x.ok y.ok := by
        unfold clAt
        rw [hx, ← hj, hy]
      obtain ⟨bt, ot, vp, vc, rfl, hbt, HX⟩ := acc_cellsW (HT.out.on HSR.out.bel) i x hx
      obtain ⟨bt', ot', vp', vc', e9, hbt', HY⟩ := acc_cellsW (HT.out.on HSR.out.bel) j y hy
      obtain ⟨rfl, rfl⟩ : bt = bt' ∧ ot = ot' := by simpa using e9
      have hsb : swB tr st ds i = (!decide ((momAt tr st i).1 = (momAt tr st j).1) && !decide ((momAt tr st i).2 = (momAt tr st j).2) && !decide (momAt tr st i ∈ edgesL ds) && !decide (momAt tr st j ∈ edgesL ds) && !clAt tr i) := by
        unfold swB
        rw [hj]
      rw [hcl] at hsb
      have k1 := HOK.out i
      have k2 := HOK.out j
      have hm1 := fun w (hb : Below wr.heap.size wr w) => HMO.out i w (by omega) (below_chain HSR.out.bel hb)
      have hm2 := fun w (hb : Below wr.heap.size wr w) => HMO.out j w (by omega) (below_chain HSR.out.bel hb)
      have hkr := HKM.out.on HK.out.bel
      have hie1 := fun w (hb : Below wr.heap.size wr w) => isEdge_any M (edgesL ds) (momAt tr st i) k1 w (hkr.on hb)
      have hie2 := fun w (hb : Below wr.heap.size wr w) => isEdge_any M (edgesL ds) (momAt tr st j) k2 w (hkr.on hb)
      have hcla := fun w => clash_any x.th x.kind x.addr x.a x.b (.slice vp x.vals.length vc) x.got x.ok y.th y.kind y.addr y.a y.b (.slice vp' y.vals.length vc') y.got y.ok w
      obtain ⟨⟨a1, a2⟩, ha⟩ : ∃ a, a = momAt tr st i := ⟨_, rfl⟩
      obtain ⟨⟨b1', b2'⟩, hbb⟩ : ∃ b, b = momAt tr st j := ⟨_, rfl⟩
      rw [← ha] at hsb hm1 hie1
      rw [← hbb] at hsb hm2 hie2
      simp only [momV] at hm1 hm2 hie1 hie2
      simp only at hsb
      obtain ⟨g1, hg1⟩ : ∃ g, g = decide ((a1, a2) ∈ edgesL ds) := ⟨_, rfl⟩
      obtain ⟨g2, hg2⟩ : ∃ g, g = decide ((b1', b2') ∈ edgesL ds) := ⟨_, rfl⟩
      rw [← hg1] at hsb hie1
      rw [← hg2] at hsb hie2
      obtain ⟨xth, xk, xad, xa, xb, xvals, xgot, xok⟩ := x
      obtain ⟨yth, yk, yad, ya, yb, yvals, ygot, yok⟩ := y
      simp only at hsb HX HY hcla
      obtain ⟨g3, hg3⟩ : ∃ g, g = clA xk yk xad yad xok yok := ⟨_, rfl⟩
      rw [← hg3] at hsb hcla
      unfold accC at hcla
      obtain ⟨xn, hxn⟩ : ∃ k, k = xvals.length := ⟨_, rfl⟩
      obtain ⟨yn, hyn⟩ : ∃ k, k = yvals.length := ⟨_, rfl⟩
      rw [← hxn] at HX hcla
      rw [← hyn] at HY hcla
      have HM1 := keepH hm1
      have HM2 := keepH hm2
      have HIE1 := keepH hie1
      have HIE2 := keepH hie2
      have HCL := keepH hcla
      have HSB := keepH hsb
      have HXX := keepH HX
      have HYY := keepH HY
      clear hx hy hcl HX HY e9 hsb k1 k2 hm1 hm2 hkr hie1 hie2 hcla ha hbb hg1 hg2 hg3 hxn hyn hj
      go_upto_region 6 with fail
      go_cut [6, 7] from 11 to 64 (fun v6 v7 w => ∃ p q, v6 = .pointer (some ⟨p, 0, none⟩) ∧ v7 = .pointer (some ⟨q, 0, none⟩) ∧ Hid (MB wr p q a1 a2 b1' b2' w))
      case first =>
        refine wp_region_held_drew (S := fun w => Below wr.heap.size wr w) (by kernel_rfl) (below_drewN (Below.refl _ _) 1) ?_
        intro hHeld
        refine wpAnyH_take (i := 0) (v := ?_) rfl (by kernel_rfl) (by kernel_rfl) (by kernel_rfl) (fun _ _ _ h => h) (Or.inl ⟨by rfl, ?_⟩) hHeld ?_
        rotate_left
        · intro w hSw
          (try dsimp only at hSw)
          have y0 := cell_below b0 hSw
          have y1 := cell_below b1 hSw
          have y2 := cell_below b2 hSw
          go_simp
          try with_reducible rfl
        (try simp only [Act.put]); (try simp only [List.setIfInBounds_toArray]); (try simp only [List.getElem_toArray]); (repeat (first | simp only [List.getElem_cons_succ] | simp only [List.getElem_cons_zero])); (repeat (first | simp only [List.set_cons_succ] | simp only [List.set_cons_zero]))
        refine wpAnyH_take (i := 1) (v := ?_) rfl (by kernel_rfl) (by kernel_rfl) (by kernel_rfl) (fun _ _ _ h => h) (Or.inl ⟨by rfl, ?_⟩) hHeld ?_
        rotate_left
        · intro w hSw
          (try dsimp only at hSw)
          go_simp
          try with_reducible rfl
        (try simp only [Act.put]); (try simp only [List.setIfInBounds_toArray]); (try simp only [List.getElem_toArray]); (repeat (first | simp only [List.getElem_cons_succ] | simp only [List.getElem_cons_zero])); (repeat (first | simp only [List.set_cons_succ] | simp only [List.set_cons_zero]))
        refine wpAnyH_take (i := 3) (v := ?_) rfl (by kernel_rfl) (by kernel_rfl) (by kernel_rfl) (fun _ _ _ h => h) (Or.inl ⟨by rfl, ?_⟩) hHeld ?_
        rotate_left
        · intro w hSw
          (try dsimp only at hSw)
          have y0 := cell_below b0 hSw
          have y1 := cell_below b1 hSw
          have y2 := cell_below b2 hSw
          go_simp
          try with_reducible rfl
        (try simp only [Act.put]); (try simp only [List.setIfInBounds_toArray]); (try simp only [List.getElem_toArray]); (repeat (first | simp only [List.getElem_cons_succ] | simp only [List.getElem_cons_zero])); (repeat (first | simp only [List.set_cons_succ] | simp only [List.set_cons_zero]))
        refine wpAnyH_take (i := 4) (v := ?_) rfl (by kernel_rfl) (by kernel_rfl) (by kernel_rfl) (fun _ _ _ h => h) (Or.inl ⟨by rfl, ?_⟩) hHeld ?_
        rotate_left
        · intro w hSw
          (try dsimp only at hSw)
          go_simp
          try with_reducible rfl
        (try simp only [Act.put]); (try simp only [List.setIfInBounds_toArray]); (try simp only [List.getElem_toArray]); (repeat (first | simp only [List.getElem_cons_succ] | simp only [List.getElem_cons_zero])); (repeat (first | simp only [List.set_cons_succ] | simp only [List.set_cons_zero]))
        refine wpAnyH_take (i := 5) (v := ?_) rfl (by kernel_rfl) (by kernel_rfl) (by kernel_rfl) (fun _ _ _ h => h) (Or.inl ⟨by rfl, ?_⟩) hHeld ?_
        rotate_left
        · intro w hSw
          (try dsimp only at hSw)
          go_simp
          try with_reducible rfl
        (try simp only [Act.put]); (try simp only [List.setIfInBounds_toArray]); (try simp only [List.getElem_toArray]); (repeat (first | simp only [List.getElem_cons_succ] | simp only [List.getElem_cons_zero])); (repeat (first | simp only [List.set_cons_succ] | simp only [List.set_cons_zero]))
        obtain ⟨x0, hx0⟩ : ∃ x0, x0 = wr.drew := ⟨_, rfl⟩
        rw [← hx0] at hHeld ⊢
        clear hx0
        have C0 : Below wr.heap.size wr x0 := hHeld
        clear hHeld
        refine wpAnyH_ready (rs := [2, 7, 8]) (by kernel_rfl) (by simp) ?_
        refine AllReadyH.cons rfl ?_ (AllReadyH.cons rfl ?_ (AllReadyH.cons rfl ?_ AllReadyH.nil))
        · intro KK hKK
          go_simp
          refine (HM1.out _ C0).mono ?_
          rintro e x1 ⟨rfl, B1⟩
          have C1 := below_chain C0 B1
          refine hKK.out _ _ ?_ (fun hHeld => ?_)
          · exact C1
          clear hKK KK hHeld
          (try simp only [Act.put]); (try simp only [List.setIfInBounds_toArray]); (try simp only [List.getElem_toArray]); (repeat (first | simp only [List.getElem_cons_succ] | simp only [List.getElem_cons_zero])); (repeat (first | simp only [List.set_cons_succ] | simp only [List.set_cons_zero]))
          refine wpAnyH_ready (rs := [6, 7, 8]) (by kernel_rfl) (by simp) ?_
          refine AllReadyH.cons rfl ?_ (AllReadyH.cons rfl ?_ (AllReadyH.cons rfl ?_ AllReadyH.nil))
          · intro KK hKK
            go_simp
            refine (HM2.out _ C1).mono ?_
            rintro e x2 ⟨rfl, B2⟩
            have C2 := below_chain C1 B2
            refine hKK.out _ _ ?_ (fun hHeld => ?_)
            · exact C2
            clear hKK KK hHeld
            (try simp only [Act.put]); (try simp only [List.setIfInBounds_toArray]); (try simp only [List.getElem_toArray]); (repeat (first | simp only [List.getElem_cons_succ] | simp only [List.getElem_cons_zero])); (repeat (first | simp only [List.set_cons_succ] | simp only [List.set_cons_zero]))
            refine wpAnyH_ready (rs := [7, 8]) (by kernel_rfl) (by simp) ?_
            refine AllReadyH.cons rfl ?_ (AllReadyH.cons rfl ?_ AllReadyH.nil)
            · intro KK hKK
              go_simp
              obtain ⟨x3, hN⟩ : ∃ x, x = x2.alloc (.cells #[.int .i64 0, .int .i64 0] 61) := ⟨_, rfl⟩
              obtain ⟨p, hp⟩ : ∃ p, p = x2.heap.size := ⟨_, rfl⟩
              rw [← hN, ← hp]
              have B3 : Below x2.heap.size x2 x3 := by rw [hN]; exact below_alloc _ _
              have C3 := below_chain C2 B3
              have P3 : x3.heap[p]? = some (.cells #[.int .i64 0, .int .i64 0] 61 (0, 0)) := by rw [hN, hp]; exact heap_alloc_new _ _
              have Lp : wr.heap.size ≤ p := by rw [hp]; exact C2.size
              clear hN hp
              refine hKK.out _ _ ?_ (fun hHeld => ?_)
              · exact C3
              clear hKK KK hHeld
              (try simp only [Act.put]); (try simp only [List.setIfInBounds_toArray]); (try simp only [List.getElem_toArray]); (repeat (first | simp only [List.getElem_cons_succ] | simp only [List.getElem_cons_zero])); (repeat (first | simp only [List.set_cons_succ] | simp only [List.set_cons_zero]))
              refine wpAnyH_ready (rs := [8]) (by kernel_rfl) (by simp) ?_
              refine AllReadyH.cons rfl ?_ AllReadyH.nil
              intro KK hKK
              go_simp
              obtain ⟨x4, hN⟩ : ∃ x, x = x3.alloc (.cells #[.int .i64 0, .int .i64 0] 61) := ⟨_, rfl⟩
              obtain ⟨q, hp⟩ : ∃ p, p = x3.heap.size := ⟨_, rfl⟩
              rw [← hN, ← hp]
              have B4 : Below x3.heap.size x3 x4 := by rw [hN]; exact below_alloc _ _
              have C4 := below_chain C3 B4
              have Q4 : x4.heap[q]? = some (.cells #[.int .i64 0, .int .i64 0] 61 (0, 0)) := by rw [hN, hp]; exact heap_alloc_new _ _
              have Lq : wr.heap.size ≤ q := by rw [hp]; exact C3.size
              have hq := (Array.getElem?_eq_some_iff.1 P3).1
              have P4 := (B4.block p hq).trans P3
              have hpq : p ≠ q := by omega
              clear hq
              clear hN hp
              refine hKK.out _ _ ?_ (fun hHeld => ?_)
              · exact C4
              clear hKK KK hHeld
              (try simp only [Act.put]); (try simp only [List.setIfInBounds_toArray]); (try simp only [List.getElem_toArray]); (repeat (first | simp only [List.getElem_cons_succ] | simp only [List.getElem_cons_zero])); (repeat (first | simp only [List.set_cons_succ] | simp only [List.set_cons_zero]))
              refine wpAnyH_ready (rs := [9]) (by kernel_rfl) (by simp) ?_
              refine AllReadyH.cons rfl ?_ AllReadyH.nil
              intro KK hKK
              refine step_store_row rfl 61 _ _ rfl p #[.int .i64 a1, .int .i64 a2] rfl rfl 61 #[.int .i64 0, .int .i64 0] P4 (by kernel_rfl) rfl (by simp [Value.oneCell']) ?_
              obtain ⟨x5, hN⟩ : ∃ x, x = x4.setRow p #[.int .i64 a1, .int .i64 a2] := ⟨_, rfl⟩
              rw [← hN]
              have C5 : Below wr.heap.size wr x5 := by rw [hN]; exact below_setRow C4 Lp _
              have P5 : x5.heap[p]? = some (.cells #[.int .i64 a1, .int .i64 a2] 61 (0, 0)) := by rw [hN]; exact setRow_heap _ _ _ _ _ _ P4
              have Q5 : x5.heap[q]? = some (.cells #[.int .i64 0, .int .i64 0] 61 (0, 0)) := by rw [hN, setRow_other _ _ _ _ (by omega)]; exact Q4
              clear hN
              refine hKK.out _ _ ?_ (fun hHeld => ?_)
              · exact C5
              clear hKK KK hHeld
              (try simp only [Act.put]); (try simp only [List.setIfInBounds_toArray]); (try simp only [List.getElem_toArray]); (repeat (first | simp only [List.getElem_cons_succ] | simp only [List.getElem_cons_zero])); (repeat (first | simp only [List.set_cons_succ] | simp only [List.set_cons_zero]))
              refine wpAnyH_ready (rs := [10]) (by kernel_rfl) (by simp) ?_
              refine AllReadyH.cons rfl ?_ AllReadyH.nil
              intro KK hKK
              refine step_store_row rfl 61 _ _ rfl q #[.int .i64 b1', .int .i64 b2'] rfl rfl 61 #[.int .i64 0, .int .i64 0] Q5 (by kernel_rfl) rfl (by simp [Value.oneCell']) ?_
              obtain ⟨x6, hN⟩ : ∃ x, x = x5.setRow q #[.int .i64 b1', .int .i64 b2'] := ⟨_, rfl⟩
              rw [← hN]
              have C6 : Below wr.heap.size wr x6 := by rw [hN]; exact below_setRow C5 Lq _
              have Q6 : x6.heap[q]? = some (.cells #[.int .i64 b1', .int .i64 b2'] 61 (0, 0)) := by rw [hN]; exact setRow_heap _ _ _ _ _ _ Q5
              have P6 : x6.heap[p]? = some (.cells #[.int .i64 a1, .int .i64 a2] 61 (0, 0)) := by rw [hN, setRow_other _ _ _ _ (by omega)]; exact P5
              clear hN
              refine hKK.out _ _ ?_ (fun hHeld => ?_)
              · exact C6
              clear hKK KK hHeld
              (try simp only [Act.put]); (try simp only [List.setIfInBounds_toArray]); (try simp only [List.getElem_toArray]); (repeat (first | simp only [List.getElem_cons_succ] | simp only [List.getElem_cons_zero])); (repeat (first | simp only [List.set_cons_succ] | simp only [List.set_cons_zero]))
              refine wpAnyH_done (by kernel_rfl) ?_ _
              go_simp
              go_wp2_with fail
              go_meet
              exact ⟨p, q, rfl, rfl, keepH ⟨P6, Q6, C6⟩⟩
            · intro KK hKK
              go_simp
              obtain ⟨x7, hN⟩ : ∃ x, x = x2.alloc (.cells #[.int .i64 0, .int .i64 0] 61) := ⟨_, rfl⟩
              obtain ⟨q, hp⟩ : ∃ p, p = x2.heap.size := ⟨_, rfl⟩
              rw [← hN, ← hp]
              have B7 : Below x2.heap.size x2 x7 := by rw [hN]; exact below_alloc _ _
              have C7 := below_chain C2 B7
              have Q7 : x7.heap[q]? = some (.cells #[.int .i64 0, .int .i64 0] 61 (0, 0)) := by rw [hN, hp]; exact heap_alloc_new _ _
              have Lq : wr.heap.size ≤ q := by rw [hp]; exact C2.size
              clear hN hp
              refine hKK.out _ _ ?_ (fun hHeld => ?_)
              · exact C7
              clear hKK KK hHeld
              (try simp only [Act.put]); (try simp only [List.setIfInBounds_toArray]); (try simp only [List.getElem_toArray]); (repeat (first | simp only [List.getElem_cons_succ] | simp only [List.getElem_cons_zero])); (repeat (first | simp only [List.set_cons_succ] | simp only [List.set_cons_zero]))
              refine wpAnyH_ready (rs := [7]) (by kernel_rfl) (by simp) ?_
              refine AllReadyH.cons rfl ?_ AllReadyH.nil
              intro KK hKK
              go_simp
              obtain ⟨x8, hN⟩ : ∃ x, x = x7.alloc (.cells #[.int .i64 0, .int .i64 0] 61) := ⟨_, rfl⟩
              obtain ⟨p, hp⟩ : ∃ p, p = x7.heap.size := ⟨_, rfl⟩
              rw [← hN, ← hp]
              have B8 : Below x7.heap.size x7 x8 := by rw [hN]; exact below_alloc _ _
              have C8 := below_chain C7 B8
              have P8 : x8.heap[p]? = some (.cells #[.int .i64 0, .int .i64 0] 61 (0, 0)) := by rw [hN, hp]; exact heap_alloc_new _ _
              have Lp : wr.heap.size ≤ p := by rw [hp]; exact C7.size
              have hq := (Array.getElem?_eq_some_iff.1 Q7).1
              have Q8 := (B8.block q hq).trans Q7
              have hpq : p ≠ q := by omega
              clear hq
              clear hN hp
              refine hKK.out _ _ ?_ (fun hHeld => ?_)
              · exact C8
              clear hKK KK hHeld
              (try simp only [Act.put]); (try simp only [List.setIfInBounds_toArray]); (try simp only [List.getElem_toArray]); (repeat (first | simp only [List.getElem_cons_succ] | simp only [List.getElem_cons_zero])); (repeat (first | simp only [List.set_cons_succ] | simp only [List.set_cons_zero]))
              refine wpAnyH_ready (rs := [9]) (by kernel_rfl) (by simp) ?_
              refine AllReadyH.cons rfl ?_ AllReadyH.nil
              intro KK hKK
              refine step_store_row rfl 61 _ _ rfl p #[.int .i64 a1, .int .i64 a2] rfl rfl 61 #[.int .i64 0, .int .i64 0] P8 (by kernel_rfl) rfl (by simp [Value.oneCell']) ?_
              obtain ⟨x9, hN⟩ : ∃ x, x = x8.setRow p #[.int .i64 a1, .int .i64 a2] := ⟨_, rfl⟩
              rw [← hN]
              have C9 : Below wr.heap.size wr x9 := by rw [hN]; exact below_setRow C8 Lp _
              have P9 : x9.heap[p]? = some (.cells #[.int .i64 a1, .int .i64 a2] 61 (0, 0)) := by rw [hN]; exact setRow_heap _ _ _ _ _ _ P8
              have Q9 : x9.heap[q]? = some (.cells #[.int .i64 0, .int .i64 0] 61 (0, 0)) := by rw [hN, setRow_other _ _ _ _ (by omega)]; exact Q8
              clear hN
              refine hKK.out _ _ ?_ (fun hHeld => ?_)
              · exact C9
              clear hKK KK hHeld
              (try simp only [Act.put]); (try simp only [List.setIfInBounds_toArray]); (try simp only [List.getElem_toArray]); (repeat (first | simp only [List.getElem_cons_succ] | simp only [List.getElem_cons_zero])); (repeat (first | simp only [List.set_cons_succ] | simp only [List.set_cons_zero]))
              refine wpAnyH_ready (rs := [10]) (by kernel_rfl) (by simp) ?_
              refine AllReadyH.cons rfl ?_ AllReadyH.nil
              intro KK hKK
              refine step_store_row rfl 61 _ _ rfl q #[.int .i64 b1', .int .i64 b2'] rfl rfl 61 #[.int .i64 0, .int .i64 0] Q9 (by kernel_rfl) rfl (by simp [Value.oneCell']) ?_
              obtain ⟨x10, hN⟩ : ∃ x, x = x9.setRow q #[.int .i64 b1', .int .i64 b2'] := ⟨_, rfl⟩
              rw [← hN]
              have C10 : Below wr.heap.size wr x10 := by rw [hN]; exact below_setRow C9 Lq _
              have Q10 : x10.heap[q]? = some (.cells #[.int .i64 b1', .int .i64 b2'] 61 (0, 0)) := by rw [hN]; exact setRow_heap _ _ _ _ _ _ Q9
              have P10 : x10.heap[p]? = some (.cells #[.int .i64 a1, .int .i64 a2] 61 (0, 0)) := by rw [hN, setRow_other _ _ _ _ (by omega)]; exact P9
              clear hN
              refine hKK.out _ _ ?_ (fun hHeld => ?_)
              · exact C10
              clear hKK KK hHeld
              (try simp only [Act.put]); (try simp only [List.setIfInBounds_toArray]); (try simp only [List.getElem_toArray]); (repeat (first | simp only [List.getElem_cons_succ] | simp only [List.getElem_cons_zero])); (repeat (first | simp only [List.set_cons_succ] | simp only [List.set_cons_zero]))
              refine wpAnyH_done (by kernel_rfl) ?_ _
              go_simp
              go_wp2_with fail
              go_meet
              exact ⟨p, q, rfl, rfl, keepH ⟨P10, Q10, C10⟩⟩
          · intro KK hKK
            go_simp
            obtain ⟨x11, hN⟩ : ∃ x, x = x1.alloc (.cells #[.int .i64 0, .int .i64 0] 61) := ⟨_, rfl⟩
            obtain ⟨p, hp⟩ : ∃ p, p = x1.heap.size := ⟨_, rfl⟩
            rw [← hN, ← hp]
            have B11 : Below x1.heap.size x1 x11 := by rw [hN]; exact below_alloc _ _
            have C11 := below_chain C1 B11
            have P11 : x11.heap[p]? = some (.cells #[.int .i64 0, .int .i64 0] 61 (0, 0)) := by rw [hN, hp]; exact heap_alloc_new _ _
            have Lp : wr.heap.size ≤ p := by rw [hp]; exact C1.size
            clear hN hp
            refine hKK.out _ _ ?_ (fun hHeld => ?_)
            · exact C11
            clear hKK KK hHeld
            (try simp only [Act.put]); (try simp only [List.setIfInBounds_toArray]); (try simp only [List.getElem_toArray]); (repeat (first | simp only [List.getElem_cons_succ] | simp only [List.getElem_cons_zero])); (repeat (first | simp only [List.set_cons_succ] | simp only [List.set_cons_zero]))
            refine wpAnyH_ready (rs := [6, 8]) (by kernel_rfl) (by simp) ?_
            refine AllReadyH.cons rfl ?_ (AllReadyH.cons rfl ?_ AllReadyH.nil)
            · intro KK hKK
              go_simp
              refine (HM2.out _ C11).mono ?_
              rintro e x12 ⟨rfl, B12⟩
              have C12 := below_chain C11 B12
              have P12 := (B12.block p (Array.getElem?_eq_some_iff.1 P11).1).trans P11
              refine hKK.out _ _ ?_ (fun hHeld => ?_)
              · exact C12
              clear hKK KK hHeld
              (try simp only [Act.put]); (try simp only [List.setIfInBounds_toArray]); (try simp only [List.getElem_toArray]); (repeat (first | simp only [List.getElem_cons_succ] | simp only [List.getElem_cons_zero])); (repeat (first | simp only [List.set_cons_succ] | simp only [List.set_cons_zero]))
              refine wpAnyH_ready (rs := [8]) (by kernel_rfl) (by simp) ?_
              refine AllReadyH.cons rfl ?_ AllReadyH.nil
              intro KK hKK
              go_simp
              obtain ⟨x13, hN⟩ : ∃ x, x = x12.alloc (.cells #[.int .i64 0, .int .i64 0] 61) := ⟨_, rfl⟩
              obtain ⟨q, hp⟩ : ∃ p, p = x12.heap.size := ⟨_, rfl⟩
              rw [← hN, ← hp]
              have B13 : Below x12.heap.size x12 x13 := by rw [hN]; exact below_alloc _ _
              have C13 := below_chain C12 B13
              have Q13 : x13.heap[q]? = some (.cells #[.int .i64 0, .int .i64 0] 61 (0, 0)) := by rw [hN, hp]; exact heap_alloc_new _ _
              have Lq : wr.heap.size ≤ q := by rw [hp]; exact C12.size
              have hq := (Array.getElem?_eq_some_iff.1 P12).1
              have P13 := (B13.block p hq).trans P12
              have hpq : p ≠ q := by omega
              clear hq
              clear hN hp
              refine hKK.out _ _ ?_ (fun hHeld => ?_)
              · exact C13
              clear hKK KK hHeld
              (try simp only [Act.put]); (try simp only [List.setIfInBounds_toArray]); (try simp only [List.getElem_toArray]); (repeat (first | simp only [List.getElem_cons_succ] | simp only [List.getElem_cons_zero])); (repeat (first | simp only [List.set_cons_succ] | simp only [List.set_cons_zero]))
              refine wpAnyH_ready (rs := [9]) (by kernel_rfl) (by simp) ?_
              refine AllReadyH.cons rfl ?_ AllReadyH.nil
              intro KK hKK
              refine step_store_row rfl 61 _ _ rfl p #[.int .i64 a1, .int .i64 a2] rfl rfl 61 #[.int .i64 0, .int .i64 0] P13 (by kernel_rfl) rfl (by simp [Value.oneCell']) ?_
              obtain ⟨x14, hN⟩ : ∃ x, x = x13.setRow p #[.int .i64 a1, .int .i64 a2] := ⟨_, rfl⟩
              rw [← hN]
              have C14 : Below wr.heap.size wr x14 := by rw [hN]; exact below_setRow C13 Lp _
              have P14 : x14.heap[p]? = some (.cells #[.int .i64 a1, .int .i64 a2] 61 (0, 0)) := by rw [hN]; exact setRow_heap _ _ _ _ _ _ P13
              have Q14 : x14.heap[q]? = some (.cells #[.int .i64 0, .int .i64 0] 61 (0, 0)) := by rw [hN, setRow_other _ _ _ _ (by omega)]; exact Q13
              clear hN
              refine hKK.out _ _ ?_ (fun hHeld => ?_)
              · exact C14
              clear hKK KK hHeld
              (try simp only [Act.put]); (try simp only [List.setIfInBounds_toArray]); (try simp only [List.getElem_toArray]); (repeat (first | simp only [List.getElem_cons_succ] | simp only [List.getElem_cons_zero])); (repeat (first | simp only [List.set_cons_succ] | simp only [List.set_cons_zero]))
              refine wpAnyH_ready (rs := [10]) (by kernel_rfl) (by simp) ?_
              refine AllReadyH.cons rfl ?_ AllReadyH.nil
              intro KK hKK
              refine step_store_row rfl 61 _ _ rfl q #[.int .i64 b1', .int .i64 b2'] rfl rfl 61 #[.int .i64 0, .int .i64 0] Q14 (by kernel_rfl) rfl (by simp [Value.oneCell']) ?_
              obtain ⟨x15, hN⟩ : ∃ x, x = x14.setRow q #[.int .i64 b1', .int .i64 b2'] := ⟨_, rfl⟩
              rw [← hN]
              have C15 : Below wr.heap.size wr x15 := by rw [hN]; exact below_setRow C14 Lq _
              have Q15 : x15.heap[q]? = some (.cells #[.int .i64 b1', .int .i64 b2'] 61 (0, 0)) := by rw [hN]; exact setRow_heap _ _ _ _ _ _ Q14
              have P15 : x15.heap[p]? = some (.cells #[.int .i64 a1, .int .i64 a2] 61 (0, 0)) := by rw [hN, setRow_other _ _ _ _ (by omega)]; exact P14
              clear hN
              refine hKK.out _ _ ?_ (fun hHeld => ?_)
              · exact C15
              clear hKK KK hHeld
              (try simp only [Act.put]); (try simp only [List.setIfInBounds_toArray]); (try simp only [List.getElem_toArray]); (repeat (first | simp only [List.getElem_cons_succ] | simp only [List.getElem_cons_zero])); (repeat (first | simp only [List.set_cons_succ] | simp only [List.set_cons_zero]))
              refine wpAnyH_done (by kernel_rfl) ?_ _
              go_simp
              go_wp2_with fail
              go_meet
              exact ⟨p, q, rfl, rfl, keepH ⟨P15, Q15, C15⟩⟩
            · intro KK hKK
              go_simp
              obtain ⟨x16, hN⟩ : ∃ x, x = x11.alloc (.cells #[.int .i64 0, .int .i64 0] 61) := ⟨_, rfl⟩
              obtain ⟨q, hp⟩ : ∃ p, p = x11.heap.size := ⟨_, rfl⟩
              rw [← hN, ← hp]
              have B16 : Below x11.heap.size x11 x16 := by rw [hN]; exact below_alloc _ _
              have C16 := below_chain C11 B16
              have Q16 : x16.heap[q]? = some (.cells #[.int .i64 0, .int .i64 0] 61 (0, 0)) := by rw [hN, hp]; exact heap_alloc_new _ _
              have Lq : wr.heap.size ≤ q := by rw [hp]; exact C11.size
              have hq := (Array.getElem?_eq_some_iff.1 P11).1
              have P16 := (B16.block p hq).trans P11
              have hpq : p ≠ q := by omega
              clear hq
              clear hN hp
              refine hKK.out _ _ ?_ (fun hHeld => ?_)
              · exact C16
              clear hKK KK hHeld
              (try simp only [Act.put]); (try simp only [List.setIfInBounds_toArray]); (try simp only [List.getElem_toArray]); (repeat (first | simp only [List.getElem_cons_succ] | simp only [List.getElem_cons_zero])); (repeat (first | simp only [List.set_cons_succ] | simp only [List.set_cons_zero]))
              refine wpAnyH_ready (rs := [6]) (by kernel_rfl) (by simp) ?_
              refine AllReadyH.cons rfl ?_ AllReadyH.nil
              intro KK hKK
              go_simp
              refine (HM2.out _ C16).mono ?_
              rintro e x17 ⟨rfl, B17⟩
              have C17 := below_chain C16 B17
              have P17 := (B17.block p (Array.getElem?_eq_some_iff.1 P16).1).trans P16
              have Q17 := (B17.block q (Array.getElem?_eq_some_iff.1 Q16).1).trans Q16
              refine hKK.out _ _ ?_ (fun hHeld => ?_)
              · exact C17
              clear hKK KK hHeld
              (try simp only [Act.put]); (try simp only [List.setIfInBounds_toArray]); (try simp only [List.getElem_toArray]); (repeat (first | simp only [List.getElem_cons_succ] | simp only [List.getElem_cons_zero])); (repeat (first | simp only [List.set_cons_succ] | simp only [List.set_cons_zero]))
              refine wpAnyH_ready (rs := [9]) (by kernel_rfl) (by simp) ?_
              refine AllReadyH.cons rfl ?_ AllReadyH.nil
              intro KK hKK
              refine step_store_row rfl 61 _ _ rfl p #[.int .i64 a1, .int .i64 a2] rfl rfl 61 #[.int .i64 0, .int .i64 0] P17 (by kernel_rfl) rfl (by simp [Value.oneCell']) ?_
              obtain ⟨x18, hN⟩ : ∃ x, x = x17.setRow p #[.int .i64 a1, .int .i64 a2] := ⟨_, rfl⟩
              rw [← hN]
              have C18 : Below wr.heap.size wr x18 := by rw [hN]; exact below_setRow C17 Lp _
              have P18 : x18.heap[p]? = some (.cells #[.int .i64 a1, .int .i64 a2] 61 (0, 0)) := by rw [hN]; exact setRow_heap _ _ _ _ _ _ P17
              have Q18 : x18.heap[q]? = some (.cells #[.int .i64 0, .int .i64 0] 61 (0, 0)) := by rw [hN, setRow_other _ _ _ _ (by omega)]; exact Q17
              clear hN
              refine hKK.out _ _ ?_ (fun hHeld => ?_)
              · exact C18
              clear hKK KK hHeld
              (try simp only [Act.put]); (try simp only [List.setIfInBounds_toArray]); (try simp only [List.getElem_toArray]); (repeat (first | simp only [List.getElem_cons_succ] | simp only [List.getElem_cons_zero])); (repeat (first | simp only [List.set_cons_succ] | simp only [List.set_cons_zero]))
              refine wpAnyH_ready (rs := [10]) (by kernel_rfl) (by simp) ?_
              refine AllReadyH.cons rfl ?_ AllReadyH.nil
              intro KK hKK
              refine step_store_row rfl 61 _ _ rfl q #[.int .i64 b1', .int .i64 b2'] rfl rfl 61 #[.int .i64 0, .int .i64 0] Q18 (by kernel_rfl) rfl (by simp [Value.oneCell']) ?_
              obtain ⟨x19, hN⟩ : ∃ x, x = x18.setRow q #[.int .i64 b1', .int .i64 b2'] := ⟨_, rfl⟩
              rw [← hN]
              have C19 : Below wr.heap.size wr x19 := by rw [hN]; exact below_setRow C18 Lq _
              have Q19 : x19.heap[q]? = some (.cells #[.int .i64 b1', .int .i64 b2'] 61 (0, 0)) := by rw [hN]; exact setRow_heap _ _ _ _ _ _ Q18
              have P19 : x19.heap[p]? = some (.cells #[.int .i64 a1, .int .i64 a2] 61 (0, 0)) := by rw [hN, setRow_other _ _ _ _ (by omega)]; exact P18
              clear hN
              refine hKK.out _ _ ?_ (fun hHeld => ?_)
              · exact C19
              clear hKK KK hHeld
              (try simp only [Act.put]); (try simp only [List.setIfInBounds_toArray]); (try simp only [List.getElem_toArray]); (repeat (first | simp only [List.getElem_cons_succ] | simp only [List.getElem_cons_zero])); (repeat (first | simp only [List.set_cons_succ] | simp only [List.set_cons_zero]))
              refine wpAnyH_done (by kernel_rfl) ?_ _
              go_simp
              go_wp2_with fail
              go_meet
              exact ⟨p, q, rfl, rfl, keepH ⟨P19, Q19, C19⟩⟩
          · intro KK hKK
            go_simp
            obtain ⟨x20, hN⟩ : ∃ x, x = x1.alloc (.cells #[.int .i64 0, .int .i64 0] 61) := ⟨_, rfl⟩
            obtain ⟨q, hp⟩ : ∃ p, p = x1.heap.size := ⟨_, rfl⟩
            rw [← hN, ← hp]
            have B20 : Below x1.heap.size x1 x20 := by rw [hN]; exact below_alloc _ _
            have C20 := below_chain C1 B20
            have Q20 : x20.heap[q]? = some (.cells #[.int .i64 0, .int .i64 0] 61 (0, 0)) := by rw [hN, hp]; exact heap_alloc_new _ _
            have Lq : wr.heap.size ≤ q := by rw [hp]; exact C1.size
            clear hN hp
            refine hKK.out _ _ ?_ (fun hHeld => ?_)
            · exact C20
            clear hKK KK hHeld
            (try simp only [Act.put]); (try simp only [List.setIfInBounds_toArray]); (try simp only [List.getElem_toArray]); (repeat (first | simp only [List.getElem_cons_succ] | simp only [List.getElem_cons_zero])); (repeat (first | simp only [List.set_cons_succ] | simp only [List.set_cons_zero]))
            refine wpAnyH_ready (rs := [6, 7]) (by kernel_rfl) (by simp) ?_
            refine AllReadyH.cons rfl ?_ (AllReadyH.cons rfl ?_ AllReadyH.nil)
            · intro KK hKK
              go_simp
              refine (HM2.out _ C20).mono ?_
              rintro e x21 ⟨rfl, B21⟩
              have C21 := below_chain C20 B21
              have Q21 := (B21.block q (Array.getElem?_eq_some_iff.1 Q20).1).trans Q20
              refine hKK.out _ _ ?_ (fun hHeld => ?_)
              · exact C21
              clear hKK KK hHeld
              (try simp only [Act.put]); (try simp only [List.setIfInBounds_toArray]); (try simp only [List.getElem_toArray]); (repeat (first | simp only [List.getElem_cons_succ] | simp only [List.getElem_cons_zero])); (repeat (first | simp only [List.set_cons_succ] | simp only [List.set_cons_zero]))
              refine wpAnyH_ready (rs := [7]) (by kernel_rfl) (by simp) ?_
              refine AllReadyH.cons rfl ?_ AllReadyH.nil
              intro KK hKK
              go_simp
              obtain ⟨x22, hN⟩ : ∃ x, x = x21.alloc (.cells #[.int .i64 0, .int .i64 0] 61) := ⟨_, rfl⟩
              obtain ⟨p, hp⟩ : ∃ p, p = x21.heap.size := ⟨_, rfl⟩
              rw [← hN, ← hp]
              have B22 : Below x21.heap.size x21 x22 := by rw [hN]; exact below_alloc _ _
              have C22 := below_chain C21 B22
              have P22 : x22.heap[p]? = some (.cells #[.int .i64 0, .int .i64 0] 61 (0, 0)) := by rw [hN, hp]; exact heap_alloc_new _ _
              have Lp : wr.heap.size ≤ p := by rw [hp]; exact C21.size
              have hq := (Array.getElem?_eq_some_iff.1 Q21).1
              have Q22 := (B22.block q hq).trans Q21
              have hpq : p ≠ q := by omega
              clear hq
              clear hN hp
              refine hKK.out _ _ ?_ (fun hHeld => ?_)
              · exact C22
              clear hKK KK hHeld
              (try simp only [Act.put]); (try simp only [List.setIfInBounds_toArray]); (try simp only [List.getElem_toArray]); (repeat (first | simp only [List.getElem_cons_succ] | simp only [List.getElem_cons_zero])); (repeat (first | simp only [List.set_cons_succ] | simp only [List.set_cons_zero]))
              refine wpAnyH_ready (rs := [9]) (by kernel_rfl) (by simp) ?_
              refine AllReadyH.cons rfl ?_ AllReadyH.nil
              intro KK hKK
              refine step_store_row rfl 61 _ _ rfl p #[.int .i64 a1, .int .i64 a2] rfl rfl 61 #[.int .i64 0, .int .i64 0] P22 (by kernel_rfl) rfl (by simp [Value.oneCell']) ?_
              obtain ⟨x23, hN⟩ : ∃ x, x = x22.setRow p #[.int .i64 a1, .int .i64 a2] := ⟨_, rfl⟩
              rw [← hN]
              have C23 : Below wr.heap.size wr x23 := by rw [hN]; exact below_setRow C22 Lp _
              have P23 : x23.heap[p]? = some (.cells #[.int .i64 a1, .int .i64 a2] 61 (0, 0)) := by rw [hN]; exact setRow_heap _ _ _ _ _ _ P22
              have Q23 : x23.heap[q]? = some (.cells #[.int .i64 0, .int .i64 0] 61 (0, 0)) := by rw [hN, setRow_other _ _ _ _ (by omega)]; exact Q22
              clear hN
              refine hKK.out _ _ ?_ (fun hHeld => ?_)
              · exact C23
              clear hKK KK hHeld
              (try simp only [Act.put]); (try simp only [List.setIfInBounds_toArray]); (try simp only [List.getElem_toArray]); (repeat (first | simp only [List.getElem_cons_succ] | simp only [List.getElem_cons_zero])); (repeat (first | simp only [List.set_cons_succ] | simp only [List.set_cons_zero]))
              refine wpAnyH_ready (rs := [10]) (by kernel_rfl) (by simp) ?_
              refine AllReadyH.cons rfl ?_ AllReadyH.nil
              intro KK hKK
              refine step_store_row rfl 61 _ _ rfl q #[.int .i64 b1', .int .i64 b2'] rfl rfl 61 #[.int .i64 0, .int .i64 0] Q23 (by kernel_rfl) rfl (by simp [Value.oneCell']) ?_
              obtain ⟨x24, hN⟩ : ∃ x, x = x23.setRow q #[.int .i64 b1', .int .i64 b2'] := ⟨_, rfl⟩
              rw [← hN]
              have C24 : Below wr.heap.size wr x24 := by rw [hN]; exact below_setRow C23 Lq _
              have Q24 : x24.heap[q]? = some (.cells #[.int .i64 b1', .int .i64 b2'] 61 (0, 0)) := by rw [hN]; exact setRow_heap _ _ _ _ _ _ Q23
              have P24 : x24.heap[p]? = some (.cells #[.int .i64 a1, .int .i64 a2] 61 (0, 0)) := by rw [hN, setRow_other _ _ _ _ (by omega)]; exact P23
              clear hN
              refine hKK.out _ _ ?_ (fun hHeld => ?_)
              · exact C24
              clear hKK KK hHeld
              (try simp only [Act.put]); (try simp only [List.setIfInBounds_toArray]); (try simp only [List.getElem_toArray]); (repeat (first | simp only [List.getElem_cons_succ] | simp only [List.getElem_cons_zero])); (repeat (first | simp only [List.set_cons_succ] | simp only [List.set_cons_zero]))
              refine wpAnyH_done (by kernel_rfl) ?_ _
              go_simp
              go_wp2_with fail
              go_meet
              exact ⟨p, q, rfl, rfl, keepH ⟨P24, Q24, C24⟩⟩
            · intro KK hKK
              go_simp
              obtain ⟨x25, hN⟩ : ∃ x, x = x20.alloc (.cells #[.int .i64 0, .int .i64 0] 61) := ⟨_, rfl⟩
              obtain ⟨p, hp⟩ : ∃ p, p = x20.heap.size := ⟨_, rfl⟩
              rw [← hN, ← hp]
              have B25 : Below x20.heap.size x20 x25 := by rw [hN]; exact below_alloc _ _
              have C25 := below_chain C20 B25
              have P25 : x25.heap[p]? = some (.cells #[.int .i64 0, .int .i64 0] 61 (0, 0)) := by rw [hN, hp]; exact heap_alloc_new _ _
              have Lp : wr.heap.size ≤ p := by rw [hp]; exact C20.size
              have hq := (Array.getElem?_eq_some_iff.1 Q20).1
              have Q25 := (B25.block q hq).trans Q20
              have hpq : p ≠ q := by omega
              clear hq
              clear hN hp
              refine hKK.out _ _ ?_ (fun hHeld => ?_)
              · exact C25
              clear hKK KK hHeld
              (try simp only [Act.put]); (try simp only [List.setIfInBounds_toArray]); (try simp only [List.getElem_toArray]); (repeat (first | simp only [List.getElem_cons_succ] | simp only [List.getElem_cons_zero])); (repeat (first | simp only [List.set_cons_succ] | simp only [List.set_cons_zero]))
              refine wpAnyH_ready (rs := [6]) (by kernel_rfl) (by simp) ?_
              refine AllReadyH.cons rfl ?_ AllReadyH.nil
              intro KK hKK
              go_simp
              refine (HM2.out _ C25).mono ?_
              rintro e x26 ⟨rfl, B26⟩
              have C26 := below_chain C25 B26
              have P26 := (B26.block p (Array.getElem?_eq_some_iff.1 P25).1).trans P25
              have Q26 := (B26.block q (Array.getElem?_eq_some_iff.1 Q25).1).trans Q25
              refine hKK.out _ _ ?_ (fun hHeld => ?_)
              · exact C26
              clear hKK KK hHeld
              (try simp only [Act.put]); (try simp only [List.setIfInBounds_toArray]); (try simp only [List.getElem_toArray]); (repeat (first | simp only [List.getElem_cons_succ] | simp only [List.getElem_cons_zero])); (repeat (first | simp only [List.set_cons_succ] | simp only [List.set_cons_zero]))
              refine wpAnyH_ready (rs := [9]) (by kernel_rfl) (by simp) ?_
              refine AllReadyH.cons rfl ?_ AllReadyH.nil
              intro KK hKK
              refine step_store_row rfl 61 _ _ rfl p #[.int .i64 a1, .int .i64 a2] rfl rfl 61 #[.int .i64 0, .int .i64 0] P26 (by kernel_rfl) rfl (by simp [Value.oneCell']) ?_
              obtain ⟨x27, hN⟩ : ∃ x, x = x26.setRow p #[.int .i64 a1, .int .i64 a2] := ⟨_, rfl⟩
              rw [← hN]
              have C27 : Below wr.heap.size wr x27 := by rw [hN]; exact below_setRow C26 Lp _
              have P27 : x27.heap[p]? = some (.cells #[.int .i64 a1, .int .i64 a2] 61 (0, 0)) := by rw [hN]; exact setRow_heap _ _ _ _ _ _ P26
              have Q27 : x27.heap[q]? = some (.cells #[.int .i64 0, .int .i64 0] 61 (0, 0)) := by rw [hN, setRow_other _ _ _ _ (by omega)]; exact Q26
              clear hN
              refine hKK.out _ _ ?_ (fun hHeld => ?_)
              · exact C27
              clear hKK KK hHeld
              (try simp only [Act.put]); (try simp only [List.setIfInBounds_toArray]); (try simp only [List.getElem_toArray]); (repeat (first | simp only [List.getElem_cons_succ] | simp only [List.getElem_cons_zero])); (repeat (first | simp only [List.set_cons_succ] | simp only [List.set_cons_zero]))
              refine wpAnyH_ready (rs := [10]) (by kernel_rfl) (by simp) ?_
              refine AllReadyH.cons rfl ?_ AllReadyH.nil
              intro KK hKK
              refine step_store_row rfl 61 _ _ rfl q #[.int .i64 b1', .int .i64 b2'] rfl rfl 61 #[.int .i64 0, .int .i64 0] Q27 (by kernel_rfl) rfl (by simp [Value.oneCell']) ?_
              obtain ⟨x28, hN⟩ : ∃ x, x = x27.setRow q #[.int .i64 b1', .int .i64 b2'] := ⟨_, rfl⟩
              rw [← hN]
              have C28 : Below wr.heap.size wr x28 := by rw [hN]; exact below_setRow C27 Lq _
              have Q28 : x28.heap[q]? = some (.cells #[.int .i64 b1', .int .i64 b2'] 61 (0, 0)) := by rw [hN]; exact setRow_heap _ _ _ _ _ _ Q27
              have P28 : x28.heap[p]? = some (.cells #[.int .i64 a1, .int .i64 a2] 61 (0, 0)) := by rw [hN, setRow_other _ _ _ _ (by omega)]; exact P27
              clear hN
              refine hKK.out _ _ ?_ (fun hHeld => ?_)
              · exact C28
              clear hKK KK hHeld
              (try simp only [Act.put]); (try simp only [List.setIfInBounds_toArray]); (try simp only [List.getElem_toArray]); (repeat (first | simp only [List.getElem_cons_succ] | simp only [List.getElem_cons_zero])); (repeat (first | simp only [List.set_cons_succ] | simp only [List.set_cons_zero]))
              refine wpAnyH_done (by kernel_rfl) ?_ _
              go_simp
              go_wp2_with fail
              go_meet
              exact ⟨p, q, rfl, rfl, keepH ⟨P28, Q28, C28⟩⟩
        · intro KK hKK
          go_simp
          obtain ⟨x29, hN⟩ : ∃ x, x = x0.alloc (.cells #[.int .i64 0, .int .i64 0] 61) := ⟨_, rfl⟩
          obtain ⟨p, hp⟩ : ∃ p, p = x0.heap.size := ⟨_, rfl⟩
          rw [← hN, ← hp]
          have B29 : Below x0.heap.size x0 x29 := by rw [hN]; exact below_alloc _ _
          have C29 := below_chain C0 B29
          have P29 : x29.heap[p]? = some (.cells #[.int .i64 0, .int .i64 0] 61 (0, 0)) := by rw [hN, hp]; exact heap_alloc_new _ _
          have Lp : wr.heap.size ≤ p := by rw [hp]; exact C0.size
          clear hN hp
          refine hKK.out _ _ ?_ (fun hHeld => ?_)
          · exact C29
          clear hKK KK hHeld
          (try simp only [Act.put]); (try simp only [List.setIfInBounds_toArray]); (try simp only [List.getElem_toArray]); (repeat (first | simp only [List.getElem_cons_succ] | simp only [List.getElem_cons_zero])); (repeat (first | simp only [List.set_cons_succ] | simp only [List.set_cons_zero]))
          refine wpAnyH_ready (rs := [2, 8]) (by kernel_rfl) (by simp) ?_
          refine AllReadyH.cons rfl ?_ (AllReadyH.cons rfl ?_ AllReadyH.nil)
          · intro KK hKK
            go_simp
            refine (HM1.out _ C29).mono ?_
            rintro e x30 ⟨rfl, B30⟩
            have C30 := below_chain C29 B30
            have P30 := (B30.block p (Array.getElem?_eq_some_iff.1 P29).1).trans P29
            refine hKK.out _ _ ?_ (fun hHeld => ?_)
            · exact C30
            clear hKK KK hHeld
            (try simp only [Act.put]); (try simp only [List.setIfInBounds_toArray]); (try simp only [List.getElem_toArray]); (repeat (first | simp only [List.getElem_cons_succ] | simp only [List.getElem_cons_zero])); (repeat (first | simp only [List.set_cons_succ] | simp only [List.set_cons_zero]))
            refine wpAnyH_ready (rs := [6, 8]) (by kernel_rfl) (by simp) ?_
            refine AllReadyH.cons rfl ?_ (AllReadyH.cons rfl ?_ AllReadyH.nil)
            · intro KK hKK
              go_simp
              refine (HM2.out _ C30).mono ?_
              rintro e x31 ⟨rfl, B31⟩
              have C31 := below_chain C30 B31
              have P31 := (B31.block p (Array.getElem?_eq_some_iff.1 P30).1).trans P30
              refine hKK.out _ _ ?_ (fun hHeld => ?_)
              · exact C31
              clear hKK KK hHeld
              (try simp only [Act.put]); (try simp only [List.setIfInBounds_toArray]); (try simp only [List.getElem_toArray]); (repeat (first | simp only [List.getElem_cons_succ] | simp only [List.getElem_cons_zero])); (repeat (first | simp only [List.set_cons_succ] | simp only [List.set_cons_zero]))
              refine wpAnyH_ready (rs := [8]) (by kernel_rfl) (by simp) ?_
              refine AllReadyH.cons rfl ?_ AllReadyH.nil
              intro KK hKK
              go_simp
              obtain ⟨x32, hN⟩ : ∃ x, x = x31.alloc (.cells #[.int .i64 0, .int .i64 0] 61) := ⟨_, rfl⟩
              obtain ⟨q, hp⟩ : ∃ p, p = x31.heap.size := ⟨_, rfl⟩
              rw [← hN, ← hp]
              have B32 : Below x31.heap.size x31 x32 := by rw [hN]; exact below_alloc _ _
              have C32 := below_chain C31 B32
              have Q32 : x32.heap[q]? = some (.cells #[.int .i64 0, .int .i64 0] 61 (0, 0)) := by rw [hN, hp]; exact heap_alloc_new _ _
              have Lq : wr.heap.size ≤ q := by rw [hp]; exact C31.size
              have hq := (Array.getElem?_eq_some_iff.1 P31).1
              have P32 := (B32.block p hq).trans P31
              have hpq : p ≠ q := by omega
              clear hq
              clear hN hp
              refine hKK.out _ _ ?_ (fun hHeld => ?_)
              · exact C32
              clear hKK KK hHeld
              (try simp only [Act.put]); (try simp only [List.setIfInBounds_toArray]); (try simp only [List.getElem_toArray]); (repeat (first | simp only [List.getElem_cons_succ] | simp only [List.getElem_cons_zero])); (repeat (first | simp only [List.set_cons_succ] | simp only [List.set_cons_zero]))
              refine wpAnyH_ready (rs := [9]) (by kernel_rfl) (by simp) ?_
              refine AllReadyH.cons rfl ?_ AllReadyH.nil
              intro KK hKK
              refine step_store_row rfl 61 _ _ rfl p #[.int .i64 a1, .int .i64 a2] rfl rfl 61 #[.int .i64 0, .int .i64 0] P32 (by kernel_rfl) rfl (by simp [Value.oneCell']) ?_
              obtain ⟨x33, hN⟩ : ∃ x, x = x32.setRow p #[.int .i64 a1, .int .i64 a2] := ⟨_, rfl⟩
              rw [← hN]
              have C33 : Below wr.heap.size wr x33 := by rw [hN]; exact below_setRow C32 Lp _
              have P33 : x33.heap[p]? = some (.cells #[.int .i64 a1, .int .i64 a2] 61 (0, 0)) := by rw [hN]; exact setRow_heap _ _ _ _ _ _ P32
              have Q33 : x33.heap[q]? = some (.cells #[.int .i64 0, .int .i64 0] 61 (0, 0)) := by rw [hN, setRow_other _ _ _ _ (by omega)]; exact Q32
              clear hN
              refine hKK.out _ _ ?_ (fun hHeld => ?_)
              · exact C33
              clear hKK KK hHeld
              (try simp only [Act.put]); (try simp only [List.setIfInBounds_toArray]); (try simp only [List.getElem_toArray]); (repeat (first | simp only [List.getElem_cons_succ] | simp only [List.getElem_cons_zero])); (repeat (first | simp only [List.set_cons_succ] | simp only [List.set_cons_zero]))
              refine wpAnyH_ready (rs := [10]) (by kernel_rfl) (by simp) ?_
              refine AllReadyH.cons rfl ?_ AllReadyH.nil
              intro KK hKK
              refine step_store_row rfl 61 _ _ rfl q #[.int .i64 b1', .int .i64 b2'] rfl rfl 61 #[.int .i64 0, .int .i64 0] Q33 (by kernel_rfl) rfl (by simp [Value.oneCell']) ?_
              obtain ⟨x34, hN⟩ : ∃ x, x = x33.setRow q #[.int .i64 b1', .int .i64 b2'] := ⟨_, rfl⟩
              rw [← hN]
              have C34 : Below wr.heap.size wr x34 := by rw [hN]; exact below_setRow C33 Lq _
              have Q34 : x34.heap[q]? = some (.cells #[.int .i64 b1', .int .i64 b2'] 61 (0, 0)) := by rw [hN]; exact setRow_heap _ _ _ _ _ _ Q33
              have P34 : x34.heap[p]? = some (.cells #[.int .i64 a1, .int .i64 a2] 61 (0, 0)) := by rw [hN, setRow_other _ _ _ _ (by omega)]; exact P33
              clear hN
              refine hKK.out _ _ ?_ (fun hHeld => ?_)
              · exact C34
              clear hKK KK hHeld
              (try simp only [Act.put]); (try simp only [List.setIfInBounds_toArray]); (try simp only [List.getElem_toArray]); (repeat (first | simp only [List.getElem_cons_succ] | simp only [List.getElem_cons_zero])); (repeat (first | simp only [List.set_cons_succ] | simp only [List.set_cons_zero]))
              refine wpAnyH_done (by kernel_rfl) ?_ _
              go_simp
              go_wp2_with fail
              go_meet
              exact ⟨p, q, rfl, rfl, keepH ⟨P34, Q34, C34⟩⟩
            · intro KK hKK
              go_simp
              obtain ⟨x35, hN⟩ : ∃ x, x = x30.alloc (.cells #[.int .i64 0, .int .i64 0] 61) := ⟨_, rfl⟩
              obtain ⟨q, hp⟩ : ∃ p, p = x30.heap.size := ⟨_, rfl⟩
              rw [← hN, ← hp]
              have B35 : Below x30.heap.size x30 x35 := by rw [hN]; exact below_alloc _ _
              have C35 := below_chain C30 B35
              have Q35 : x35.heap[q]? = some (.cells #[.int .i64 0, .int .i64 0] 61 (0, 0)) := by rw [hN, hp]; exact heap_alloc_new _ _
              have Lq : wr.heap.size ≤ q := by rw [hp]; exact C30.size
              have hq := (Array.getElem?_eq_some_iff.1 P30).1
              have P35 := (B35.block p hq).trans P30
              have hpq : p ≠ q := by omega
              clear hq
              clear hN hp
              refine hKK.out _ _ ?_ (fun hHeld => ?_)
              · exact C35
              clear hKK KK hHeld
              (try simp only [Act.put]); (try simp only [List.setIfInBounds_toArray]); (try simp only [List.getElem_toArray]); (repeat (first | simp only [List.getElem_cons_succ] | simp only [List.getElem_cons_zero])); (repeat (first | simp only [List.set_cons_succ] | simp only [List.set_cons_zero]))
              refine wpAnyH_ready (rs := [6]) (by kernel_rfl) (by simp) ?_
              refine AllReadyH.cons rfl ?_ AllReadyH.nil
              intro KK hKK
              go_simp
              refine (HM2.out _ C35).mono ?_
              rintro e x36 ⟨rfl, B36⟩
              have C36 := below_chain C35 B36
              have P36 := (B36.block p (Array.getElem?_eq_some_iff.1 P35).1).trans P35
              have Q36 := (B36.block q (Array.getElem?_eq_some_iff.1 Q35).1).trans Q35
              refine hKK.out _ _ ?_ (fun hHeld => ?_)
              · exact C36
              clear hKK KK hHeld
              (try simp only [Act.put]); (try simp only [List.setIfInBounds_toArray]); (try simp only [List.getElem_toArray]); (repeat (first | simp only [List.getElem_cons_succ] | simp only [List.getElem_cons_zero])); (repeat (first | simp only [List.set_cons_succ] | simp only [List.set_cons_zero]))
              refine wpAnyH_ready (rs := [9]) (by kernel_rfl) (by simp) ?_
              refine AllReadyH.cons rfl ?_ AllReadyH.nil
              intro KK hKK
              refine step_store_row rfl 61 _ _ rfl p #[.int .i64 a1, .int .i64 a2] rfl rfl 61 #[.int .i64 0, .int .i64 0] P36 (by kernel_rfl) rfl (by simp [Value.oneCell']) ?_
              obtain ⟨x37, hN⟩ : ∃ x, x = x36.setRow p #[.int .i64 a1, .int .i64 a2] := ⟨_, rfl⟩
              rw [← hN]
              have C37 : Below wr.heap.size wr x37 := by rw [hN]; exact below_setRow C36 Lp _
              have P37 : x37.heap[p]? = some (.cells #[.int .i64 a1, .int .i64 a2] 61 (0, 0)) := by rw [hN]; exact setRow_heap _ _ _ _ _ _ P36
              have Q37 : x37.heap[q]? = some (.cells #[.int .i64 0, .int .i64 0] 61 (0, 0)) := by rw [hN, setRow_other _ _ _ _ (by omega)]; exact Q36
              clear hN
              refine hKK.out _ _ ?_ (fun hHeld => ?_)
              · exact C37
              clear hKK KK hHeld
              (try simp only [Act.put]); (try simp only [List.setIfInBounds_toArray]); (try simp only [List.getElem_toArray]); (repeat (first | simp only [List.getElem_cons_succ] | simp only [List.getElem_cons_zero])); (repeat (first | simp only [List.set_cons_succ] | simp only [List.set_cons_zero]))
              refine wpAnyH_ready (rs := [10]) (by kernel_rfl) (by simp) ?_
              refine AllReadyH.cons rfl ?_ AllReadyH.nil
              intro KK hKK
              refine step_store_row rfl 61 _ _ rfl q #[.int .i64 b1', .int .i64 b2'] rfl rfl 61 #[.int .i64 0, .int .i64 0] Q37 (by kernel_rfl) rfl (by simp [Value.oneCell']) ?_
              obtain ⟨x38, hN⟩ : ∃ x, x = x37.setRow q #[.int .i64 b1', .int .i64 b2'] := ⟨_, rfl⟩
              rw [← hN]
              have C38 : Below wr.heap.size wr x38 := by rw [hN]; exact below_setRow C37 Lq _
              have Q38 : x38.heap[q]? = some (.cells #[.int .i64 b1', .int .i64 b2'] 61 (0, 0)) := by rw [hN]; exact setRow_heap _ _ _ _ _ _ Q37
              have P38 : x38.heap[p]? = some (.cells #[.int .i64 a1, .int .i64 a2] 61 (0, 0)) := by rw [hN, setRow_other _ _ _ _ (by omega)]; exact P37
              clear hN
              refine hKK.out _ _ ?_ (fun hHeld => ?_)
              · exact C38
              clear hKK KK hHeld
              (try simp only [Act.put]); (try simp only [List.setIfInBounds_toArray]); (try simp only [List.getElem_toArray]); (repeat (first | simp only [List.getElem_cons_succ] | simp only [List.getElem_cons_zero])); (repeat (first | simp only [List.set_cons_succ] | simp only [List.set_cons_zero]))
              refine wpAnyH_done (by kernel_rfl) ?_ _
              go_simp
              go_wp2_with fail
              go_meet
              exact ⟨p, q, rfl, rfl, keepH ⟨P38, Q38, C38⟩⟩
          · intro KK hKK
            go_simp
            obtain ⟨x39, hN⟩ : ∃ x, x = x29.alloc (.cells #[.int .i64 0, .int .i64 0] 61) := ⟨_, rfl⟩
            obtain ⟨q, hp⟩ : ∃ p, p = x29.heap.size := ⟨_, rfl⟩
            rw [← hN, ← hp]
            have B39 : Below x29.heap.size x29 x39 := by rw [hN]; exact below_alloc _ _
            have C39 := below_chain C29 B39
            have Q39 : x39.heap[q]? = some (.cells #[.int .i64 0, .int .i64 0] 61 (0, 0)) := by rw [hN, hp]; exact heap_alloc_new _ _
            have Lq : wr.heap.size ≤ q := by rw [hp]; exact C29.size
            have hq := (Array.getElem?_eq_some_iff.1 P29).1
            have P39 := (B39.block p hq).trans P29
            have hpq : p ≠ q := by omega
            clear hq
            clear hN hp
            refine hKK.out _ _ ?_ (fun hHeld => ?_)
            · exact C39
            clear hKK KK hHeld
            (try simp only [Act.put]); (try simp only [List.setIfInBounds_toArray]); (try simp only [List.getElem_toArray]); (repeat (first | simp only [List.getElem_cons_succ] | simp only [List.getElem_cons_zero])); (repeat (first | simp only [List.set_cons_succ] | simp only [List.set_cons_zero]))
            refine wpAnyH_ready (rs := [2]) (by kernel_rfl) (by simp) ?_
            refine AllReadyH.cons rfl ?_ AllReadyH.nil
            intro KK hKK
            go_simp
            refine (HM1.out _ C39).mono ?_
            rintro e x40 ⟨rfl, B40⟩
            have C40 := below_chain C39 B40
            have P40 := (B40.block p (Array.getElem?_eq_some_iff.1 P39).1).trans P39
            have Q40 := (B40.block q (Array.getElem?_eq_some_iff.1 Q39).1).trans Q39
            refine hKK.out _ _ ?_ (fun hHeld => ?_)
            · exact C40
            clear hKK KK hHeld
            (try simp only [Act.put]); (try simp only [List.setIfInBounds_toArray]); (try simp only [List.getElem_toArray]); (repeat (first | simp only [List.getElem_cons_succ] | simp only [List.getElem_cons_zero])); (repeat (first | simp only [List.set_cons_succ] | simp only [List.set_cons_zero]))
            refine wpAnyH_ready (rs := [6]) (by kernel_rfl) (by simp) ?_
            refine AllReadyH.cons rfl ?_ AllReadyH.nil
            intro KK hKK
            go_simp
            refine (HM2.out _ C40).mono ?_
            rintro e x41 ⟨rfl, B41⟩
            have C41 := below_chain C40 B41
            have P41 := (B41.block p (Array.getElem?_eq_some_iff.1 P40).1).trans P40
            have Q41 := (B41.block q (Array.getElem?_eq_some_iff.1 Q40).1).trans Q40
            refine hKK.out _ _ ?_ (fun hHeld => ?_)
            · exact C41
            clear hKK KK hHeld
            (try simp only [Act.put]); (try simp only [List.setIfInBounds_toArray]); (try simp only [List.getElem_toArray]); (repeat (first | simp only [List.getElem_cons_succ] | simp only [List.getElem_cons_zero])); (repeat (first | simp only [List.set_cons_succ] | simp only [List.set_cons_zero]))
            refine wpAnyH_ready (rs := [9]) (by kernel_rfl) (by simp) ?_
            refine AllReadyH.cons rfl ?_ AllReadyH.nil
            intro KK hKK
            refine step_store_row rfl 61 _ _ rfl p #[.int .i64 a1, .int .i64 a2] rfl rfl 61 #[.int .i64 0, .int .i64 0] P41 (by kernel_rfl) rfl (by simp [Value.oneCell']) ?_
            obtain ⟨x42, hN⟩ : ∃ x, x = x41.setRow p #[.int .i64 a1, .int .i64 a2] := ⟨_, rfl⟩
            rw [← hN]
            have C42 : Below wr.heap.size wr x42 := by rw [hN]; exact below_setRow C41 Lp _
            have P42 : x42.heap[p]? = some (.cells #[.int .i64 a1, .int .i64 a2] 61 (0, 0)) := by rw [hN]; exact setRow_heap _ _ _ _ _ _ P41
            have Q42 : x42.heap[q]? = some (.cells #[.int .i64 0, .int .i64 0] 61 (0, 0)) := by rw [hN, setRow_other _ _ _ _ (by omega)]; exact Q41
            clear hN
            refine hKK.out _ _ ?_ (fun hHeld => ?_)
            · exact C42
            clear hKK KK hHeld
            (try simp only [Act.put]); (try simp only [List.setIfInBounds_toArray]); (try simp only [List.getElem_toArray]); (repeat (first | simp only [List.getElem_cons_succ] | simp only [List.getElem_cons_zero])); (repeat (first | simp only [List.set_cons_succ] | simp only [List.set_cons_zero]))
            refine wpAnyH_ready (rs := [10]) (by kernel_rfl) (by simp) ?_
            refine AllReadyH.cons rfl ?_ AllReadyH.nil
            intro KK hKK
            refine step_store_row rfl 61 _ _ rfl q #[.int .i64 b1', .int .i64 b2'] rfl rfl 61 #[.int .i64 0, .int .i64 0] Q42 (by kernel_rfl) rfl (by simp [Value.oneCell']) ?_
            obtain ⟨x43, hN⟩ : ∃ x, x = x42.setRow q #[.int .i64 b1', .int .i64 b2'] := ⟨_, rfl⟩
            rw [← hN]
            have C43 : Below wr.heap.size wr x43 := by rw [hN]; exact below_setRow C42 Lq _
            have Q43 : x43.heap[q]? = some (.cells #[.int .i64 b1', .int .i64 b2'] 61 (0, 0)) := by rw [hN]; exact setRow_heap _ _ _ _ _ _ Q42
            have P43 : x43.heap[p]? = some (.cells #[.int .i64 a1, .int .i64 a2] 61 (0, 0)) := by rw [hN, setRow_other _ _ _ _ (by omega)]; exact P42
            clear hN
            refine hKK.out _ _ ?_ (fun hHeld => ?_)
            · exact C43
            clear hKK KK hHeld
            (try simp only [Act.put]); (try simp only [List.setIfInBounds_toArray]); (try simp only [List.getElem_toArray]); (repeat (first | simp only [List.getElem_cons_succ] | simp only [List.getElem_cons_zero])); (repeat (first | simp only [List.set_cons_succ] | simp only [List.set_cons_zero]))
            refine wpAnyH_done (by kernel_rfl) ?_ _
            go_simp
            go_wp2_with fail
            go_meet
            exact ⟨p, q, rfl, rfl, keepH ⟨P43, Q43, C43⟩⟩
        · intro KK hKK
          go_simp
          obtain ⟨x44, hN⟩ : ∃ x, x = x0.alloc (.cells #[.int .i64 0, .int .i64 0] 61) := ⟨_, rfl⟩
          obtain ⟨q, hp⟩ : ∃ p, p = x0.heap.size := ⟨_, rfl⟩
          rw [← hN, ← hp]
          have B44 : Below x0.heap.size x0 x44 := by rw [hN]; exact below_alloc _ _
          have C44 := below_chain C0 B44
          have Q44 : x44.heap[q]? = some (.cells #[.int .i64 0, .int .i64 0] 61 (0, 0)) := by rw [hN, hp]; exact heap_alloc_new _ _
          have Lq : wr.heap.size ≤ q := by rw [hp]; exact C0.size
          clear hN hp
          refine hKK.out _ _ ?_ (fun hHeld => ?_)
          · exact C44
          clear hKK KK hHeld
          (try simp only [Act.put]); (try simp only [List.setIfInBounds_toArray]); (try simp only [List.getElem_toArray]); (repeat (first | simp only [List.getElem_cons_succ] | simp only [List.getElem_cons_zero])); (repeat (first | simp only [List.set_cons_succ] | simp only [List.set_cons_zero]))
          refine wpAnyH_ready (rs := [2, 7]) (by kernel_rfl) (by simp) ?_
          refine AllReadyH.cons rfl ?_ (AllReadyH.cons rfl ?_ AllReadyH.nil)
          · intro KK hKK
            go_simp
            refine (HM1.out _ C44).mono ?_
            rintro e x45 ⟨rfl, B45⟩
            have C45 := below_chain C44 B45
            have Q45 := (B45.block q (Array.getElem?_eq_some_iff.1 Q44).1).trans Q44
            refine hKK.out _ _ ?_ (fun hHeld => ?_)
            · exact C45
            clear hKK KK hHeld
            (try simp only [Act.put]); (try simp only [List.setIfInBounds_toArray]); (try simp only [List.getElem_toArray]); (repeat (first | simp only [List.getElem_cons_succ] | simp only [List.getElem_cons_zero])); (repeat (first | simp only [List.set_cons_succ] | simp only [List.set_cons_zero]))
            refine wpAnyH_ready (rs := [6, 7]) (by kernel_rfl) (by simp) ?_
            refine AllReadyH.cons rfl ?_ (AllReadyH.cons rfl ?_ AllReadyH.nil)
            · intro KK hKK
              go_simp
              refine (HM2.out _ C45).mono ?_
              rintro e x46 ⟨rfl, B46⟩
              have C46 := below_chain C45 B46
              have Q46 := (B46.block q (Array.getElem?_eq_some_iff.1 Q45).1).trans Q45
              refine hKK.out _ _ ?_ (fun hHeld => ?_)
              · exact C46
              clear hKK KK hHeld
              (try simp only [Act.put]); (try simp only [List.setIfInBounds_toArray]); (try simp only [List.getElem_toArray]); (repeat (first | simp only [List.getElem_cons_succ] | simp only [List.getElem_cons_zero])); (repeat (first | simp only [List.set_cons_succ] | simp only [List.set_cons_zero]))
              refine wpAnyH_ready (rs := [7]) (by kernel_rfl) (by simp) ?_
              refine AllReadyH.cons rfl ?_ AllReadyH.nil
              intro KK hKK
              go_simp
              obtain ⟨x47, hN⟩ : ∃ x, x = x46.alloc (.cells #[.int .i64 0, .int .i64 0] 61) := ⟨_, rfl⟩
              obtain ⟨p, hp⟩ : ∃ p, p = x46.heap.size := ⟨_, rfl⟩
              rw [← hN, ← hp]
              have B47 : Below x46.heap.size x46 x47 := by rw [hN]; exact below_alloc _ _
              have C47 := below_chain C46 B47
              have P47 : x47.heap[p]? = some (.cells #[.int .i64 0, .int .i64 0] 61 (0, 0)) := by rw [hN, hp]; exact heap_alloc_new _ _
              have Lp : wr.heap.size ≤ p := by rw [hp]; exact C46.size
              have hq := (Array.getElem?_eq_some_iff.1 Q46).1
              have Q47 := (B47.block q hq).trans Q46
              have hpq : p ≠ q := by omega
              clear hq
              clear hN hp
              refine hKK.out _ _ ?_ (fun hHeld => ?_)
              · exact C47
              clear hKK KK hHeld
              (try simp only [Act.put]); (try simp only [List.setIfInBounds_toArray]); (try simp only [List.getElem_toArray]); (repeat (first | simp only [List.getElem_cons_succ] | simp only [List.getElem_cons_zero])); (repeat (first | simp only [List.set_cons_succ] | simp only [List.set_cons_zero]))
              refine wpAnyH_ready (rs := [9]) (by kernel_rfl) (by simp) ?_
              refine AllReadyH.cons rfl ?_ AllReadyH.nil
              intro KK hKK
              refine step_store_row rfl 61 _ _ rfl p #[.int .i64 a1, .int .i64 a2] rfl rfl 61 #[.int .i64 0, .int .i64 0] P47 (by kernel_rfl) rfl (by simp [Value.oneCell']) ?_
              obtain ⟨x48, hN⟩ : ∃ x, x = x47.setRow p #[.int .i64 a1, .int .i64 a2] := ⟨_, rfl⟩
              rw [← hN]
              have C48 : Below wr.heap.size wr x48 := by rw [hN]; exact below_setRow C47 Lp _
              have P48 : x48.heap[p]? = some (.cells #[.int .i64 a1, .int .i64 a2] 61 (0, 0)) := by rw [hN]; exact setRow_heap _ _ _ _ _ _ P47
              have Q48 : x48.heap[q]? = some (.cells #[.int .i64 0, .int .i64 0] 61 (0, 0)) := by rw [hN, setRow_other _ _ _ _ (by omega)]; exact Q47
              clear hN
              refine hKK.out _ _ ?_ (fun hHeld => ?_)
              · exact C48
              clear hKK KK hHeld
              (try simp only [Act.put]); (try simp only [List.setIfInBounds_toArray]); (try simp only [List.getElem_toArray]); (repeat (first | simp only [List.getElem_cons_succ] | simp only [List.getElem_cons_zero])); (repeat (first | simp only [List.set_cons_succ] | simp only [List.set_cons_zero]))
              refine wpAnyH_ready (rs := [10]) (by kernel_rfl) (by simp) ?_
              refine AllReadyH.cons rfl ?_ AllReadyH.nil
              intro KK hKK
              refine step_store_row rfl 61 _ _ rfl q #[.int .i64 b1', .int .i64 b2'] rfl rfl 61 #[.int .i64 0, .int .i64 0] Q48 (by kernel_rfl) rfl (by simp [Value.oneCell']) ?_
              obtain ⟨x49, hN⟩ : ∃ x, x = x48.setRow q #[.int .i64 b1', .int .i64 b2'] := ⟨_, rfl⟩
              rw [← hN]
              have C49 : Below wr.heap.size wr x49 := by rw [hN]; exact below_setRow C48 Lq _
              have Q49 : x49.heap[q]? = some (.cells #[.int .i64 b1', .int .i64 b2'] 61 (0, 0)) := by rw [hN]; exact setRow_heap _ _ _ _ _ _ Q48
              have P49 : x49.heap[p]? = some (.cells #[.int .i64 a1, .int .i64 a2] 61 (0, 0)) := by rw [hN, setRow_other _ _ _ _ (by omega)]; exact P48
              clear hN
              refine hKK.out _ _ ?_ (fun hHeld => ?_)
              · exact C49
              clear hKK KK hHeld
              (try simp only [Act.put]); (try simp only [List.setIfInBounds_toArray]); (try simp only [List.getElem_toArray]); (repeat (first | simp only [List.getElem_cons_succ] | simp only [List.getElem_cons_zero])); (repeat (first | simp only [List.set_cons_succ] | simp only [List.set_cons_zero]))
              refine wpAnyH_done (by kernel_rfl) ?_ _
              go_simp
              go_wp2_with fail
              go_meet
              exact ⟨p, q, rfl, rfl, keepH ⟨P49, Q49, C49⟩⟩
            · intro KK hKK
              go_simp
              obtain ⟨x50, hN⟩ : ∃ x, x = x45.alloc (.cells #[.int .i64 0, .int .i64 0] 61) := ⟨_, rfl⟩
              obtain ⟨p, hp⟩ : ∃ p, p = x45.heap.size := ⟨_, rfl⟩
              rw [← hN, ← hp]
              have B50 : Below x45.heap.size x45 x50 := by rw [hN]; exact below_alloc _ _
              have C50 := below_chain C45 B50
              have P50 : x50.heap[p]? = some (.cells #[.int .i64 0, .int .i64 0] 61 (0, 0)) := by rw [hN, hp]; exact heap_alloc_new _ _
              have Lp : wr.heap.size ≤ p := by rw [hp]; exact C45.size
              have hq := (Array.getElem?_eq_some_iff.1 Q45).1
              have Q50 := (B50.block q hq).trans Q45
              have hpq : p ≠ q := by omega
              clear hq
              clear hN hp
              refine hKK.out _ _ ?_ (fun hHeld => ?_)
              · exact C50
              clear hKK KK hHeld
              (try simp only [Act.put]); (try simp only [List.setIfInBounds_toArray]); (try simp only [List.getElem_toArray]); (repeat (first | simp only [List.getElem_cons_succ] | simp only [List.getElem_cons_zero])); (repeat (first | simp only [List.set_cons_succ] | simp only [List.set_cons_zero]))
              refine wpAnyH_ready (rs := [6]) (by kernel_rfl) (by simp) ?_
              refine AllReadyH.cons rfl ?_ AllReadyH.nil
              intro KK hKK
              go_simp
              refine (HM2.out _ C50).mono ?_
              rintro e x51 ⟨rfl, B51⟩
              have C51 := below_chain C50 B51
              have P51 := (B51.block p (Array.getElem?_eq_some_iff.1 P50).1).trans P50
              have Q51 := (B51.block q (Array.getElem?_eq_some_iff.1 Q50).1).trans Q50
              refine hKK.out _ _ ?_ (fun hHeld => ?_)
              · exact C51
              clear hKK KK hHeld
              (try simp only [Act.put]); (try simp only [List.setIfInBounds_toArray]); (try simp only [List.getElem_toArray]); (repeat (first | simp only [List.getElem_cons_succ] | simp only [List.getElem_cons_zero])); (repeat (first | simp only [List.set_cons_succ] | simp only [List.set_cons_zero]))
              refine wpAnyH_ready (rs := [9]) (by kernel_rfl) (by simp) ?_
              refine AllReadyH.cons rfl ?_ AllReadyH.nil
              intro KK hKK
              refine step_store_row rfl 61 _ _ rfl p #[.int .i64 a1, .int .i64 a2] rfl rfl 61 #[.int .i64 0, .int .i64 0] P51 (by kernel_rfl) rfl (by simp [Value.oneCell']) ?_
              obtain ⟨x52, hN⟩ : ∃ x, x = x51.setRow p #[.int .i64 a1, .int .i64 a2] := ⟨_, rfl⟩
              rw [← hN]
              have C52 : Below wr.heap.size wr x52 := by rw [hN]; exact below_setRow C51 Lp _
              have P52 : x52.heap[p]? = some (.cells #[.int .i64 a1, .int .i64 a2] 61 (0, 0)) := by rw [hN]; exact setRow_heap _ _ _ _ _ _ P51
              have Q52 : x52.heap[q]? = some (.cells #[.int .i64 0, .int .i64 0] 61 (0, 0)) := by rw [hN, setRow_other _ _ _ _ (by omega)]; exact Q51
              clear hN
              refine hKK.out _ _ ?_ (fun hHeld => ?_)
              · exact C52
              clear hKK KK hHeld
              (try simp only [Act.put]); (try simp only [List.setIfInBounds_toArray]); (try simp only [List.getElem_toArray]); (repeat (first | simp only [List.getElem_cons_succ] | simp only [List.getElem_cons_zero])); (repeat (first | simp only [List.set_cons_succ] | simp only [List.set_cons_zero]))
              refine wpAnyH_ready (rs := [10]) (by kernel_rfl) (by simp) ?_
              refine AllReadyH.cons rfl ?_ AllReadyH.nil
              intro KK hKK
              refine step_store_row rfl 61 _ _ rfl q #[.int .i64 b1', .int .i64 b2'] rfl rfl 61 #[.int .i64 0, .int .i64 0] Q52 (by kernel_rfl) rfl (by simp [Value.oneCell']) ?_
              obtain ⟨x53, hN⟩ : ∃ x, x = x52.setRow q #[.int .i64 b1', .int .i64 b2'] := ⟨_, rfl⟩
              rw [← hN]
              have C53 : Below wr.heap.size wr x53 := by rw [hN]; exact below_setRow C52 Lq _
              have Q53 : x53.heap[q]? = some (.cells #[.int .i64 b1', .int .i64 b2'] 61 (0, 0)) := by rw [hN]; exact setRow_heap _ _ _ _ _ _ Q52
              have P53 : x53.heap[p]? = some (.cells #[.int .i64 a1, .int .i64 a2] 61 (0, 0)) := by rw [hN, setRow_other _ _ _ _ (by omega)]; exact P52
              clear hN
              refine hKK.out _ _ ?_ (fun hHeld => ?_)
              · exact C53
              clear hKK KK hHeld
              (try simp only [Act.put]); (try simp only [List.setIfInBounds_toArray]); (try simp only [List.getElem_toArray]); (repeat (first | simp only [List.getElem_cons_succ] | simp only [List.getElem_cons_zero])); (repeat (first | simp only [List.set_cons_succ] | simp only [List.set_cons_zero]))
              refine wpAnyH_done (by kernel_rfl) ?_ _
              go_simp
              go_wp2_with fail
              go_meet
              exact ⟨p, q, rfl, rfl, keepH ⟨P53, Q53, C53⟩⟩
          · intro KK hKK
            go_simp
            obtain ⟨x54, hN⟩ : ∃ x, x = x44.alloc (.cells #[.int .i64 0, .int .i64 0] 61) := ⟨_, rfl⟩
            obtain ⟨p, hp⟩ : ∃ p, p = x44.heap.size := ⟨_, rfl⟩
            rw [← hN, ← hp]
            have B54 : Below x44.heap.size x44 x54 := by rw [hN]; exact below_alloc _ _
            have C54 := below_chain C44 B54
            have P54 : x54.heap[p]? = some (.cells #[.int .i64 0, .int .i64 0] 61 (0, 0)) := by rw [hN, hp]; exact heap_alloc_new _ _
            have Lp : wr.heap.size ≤ p := by rw [hp]; exact C44.size
            have hq := (Array.getElem?_eq_some_iff.1 Q44).1
            have Q54 := (B54.block q hq).trans Q44
            have hpq : p ≠ q := by omega
            clear hq
            clear hN hp
            refine hKK.out _ _ ?_ (fun hHeld => ?_)
            · exact C54
            clear hKK KK hHeld
            (try simp only [Act.put]); (try simp only [List.setIfInBounds_toArray]); (try simp only [List.getElem_toArray]); (repeat (first | simp only [List.getElem_cons_succ] | simp only [List.getElem_cons_zero])); (repeat (first | simp only [List.set_cons_succ] | simp only [List.set_cons_zero]))
            refine wpAnyH_ready (rs := [2]) (by kernel_rfl) (by simp) ?_
            refine AllReadyH.cons rfl ?_ AllReadyH.nil
            intro KK hKK
            go_simp
            refine (HM1.out _ C54).mono ?_
            rintro e x55 ⟨rfl, B55⟩
            have C55 := below_chain C54 B55
            have P55 := (B55.block p (Array.getElem?_eq_some_iff.1 P54).1).trans P54
            have Q55 := (B55.block q (Array.getElem?_eq_some_iff.1 Q54).1).trans Q54
            refine hKK.out _ _ ?_ (fun hHeld => ?_)
            · exact C55
            clear hKK KK hHeld
            (try simp only [Act.put]); (try simp only [List.setIfInBounds_toArray]); (try simp only [List.getElem_toArray]); (repeat (first | simp only [List.getElem_cons_succ] | simp only [List.getElem_cons_zero])); (repeat (first | simp only [List.set_cons_succ] | simp only [List.set_cons_zero]))
            refine wpAnyH_ready (rs := [6]) (by kernel_rfl) (by simp) ?_
            refine AllReadyH.cons rfl ?_ AllReadyH.nil
            intro KK hKK
            go_simp
            refine (HM2.out _ C55).mono ?_
            rintro e x56 ⟨rfl, B56⟩
            have C56 := below_chain C55 B56
            have P56 := (B56.block p (Array.getElem?_eq_some_iff.1 P55).1).trans P55
            have Q56 := (B56.block q (Array.getElem?_eq_some_iff.1 Q55).1).trans Q55
            refine hKK.out _ _ ?_ (fun hHeld => ?_)
            · exact C56
            clear hKK KK hHeld
            (try simp only [Act.put]); (try simp only [List.setIfInBounds_toArray]); (try simp only [List.getElem_toArray]); (repeat (first | simp only [List.getElem_cons_succ] | simp only [List.getElem_cons_zero])); (repeat (first | simp only [List.set_cons_succ] | simp only [List.set_cons_zero]))
            refine wpAnyH_ready (rs := [9]) (by kernel_rfl) (by simp) ?_
            refine AllReadyH.cons rfl ?_ AllReadyH.nil
            intro KK hKK
            refine step_store_row rfl 61 _ _ rfl p #[.int .i64 a1, .int .i64 a2] rfl rfl 61 #[.int .i64 0, .int .i64 0] P56 (by kernel_rfl) rfl (by simp [Value.oneCell']) ?_
            obtain ⟨x57, hN⟩ : ∃ x, x = x56.setRow p #[.int .i64 a1, .int .i64 a2] := ⟨_, rfl⟩
            rw [← hN]
            have C57 : Below wr.heap.size wr x57 := by rw [hN]; exact below_setRow C56 Lp _
            have P57 : x57.heap[p]? = some (.cells #[.int .i64 a1, .int .i64 a2] 61 (0, 0)) := by rw [hN]; exact setRow_heap _ _ _ _ _ _ P56
            have Q57 : x57.heap[q]? = some (.cells #[.int .i64 0, .int .i64 0] 61 (0, 0)) := by rw [hN, setRow_other _ _ _ _ (by omega)]; exact Q56
            clear hN
            refine hKK.out _ _ ?_ (fun hHeld => ?_)
            · exact C57
            clear hKK KK hHeld
            (try simp only [Act.put]); (try simp only [List.setIfInBounds_toArray]); (try simp only [List.getElem_toArray]); (repeat (first | simp only [List.getElem_cons_succ] | simp only [List.getElem_cons_zero])); (repeat (first | simp only [List.set_cons_succ] | simp only [List.set_cons_zero]))
            refine wpAnyH_ready (rs := [10]) (by kernel_rfl) (by simp) ?_
            refine AllReadyH.cons rfl ?_ AllReadyH.nil
            intro KK hKK
            refine step_store_row rfl 61 _ _ rfl q #[.int .i64 b1', .int .i64 b2'] rfl rfl 61 #[.int .i64 0, .int .i64 0] Q57 (by kernel_rfl) rfl (by simp [Value.oneCell']) ?_
            obtain ⟨x58, hN⟩ : ∃ x, x = x57.setRow q #[.int .i64 b1', .int .i64 b2'] := ⟨_, rfl⟩
            rw [← hN]
            have C58 : Below wr.heap.size wr x58 := by rw [hN]; exact below_setRow C57 Lq _
            have Q58 : x58.heap[q]? = some (.cells #[.int .i64 b1', .int .i64 b2'] 61 (0, 0)) := by rw [hN]; exact setRow_heap _ _ _ _ _ _ Q57
            have P58 : x58.heap[p]? = some (.cells #[.int .i64 a1, .int .i64 a2] 61 (0, 0)) := by rw [hN, setRow_other _ _ _ _ (by omega)]; exact P57
            clear hN
            refine hKK.out _ _ ?_ (fun hHeld => ?_)
            · exact C58
            clear hKK KK hHeld
            (try simp only [Act.put]); (try simp only [List.setIfInBounds_toArray]); (try simp only [List.getElem_toArray]); (repeat (first | simp only [List.getElem_cons_succ] | simp only [List.getElem_cons_zero])); (repeat (first | simp only [List.set_cons_succ] | simp only [List.set_cons_zero]))
            refine wpAnyH_done (by kernel_rfl) ?_ _
            go_simp
            go_wp2_with fail
            go_meet
            exact ⟨p, q, rfl, rfl, keepH ⟨P58, Q58, C58⟩⟩
      case rest =>
        obtain ⟨p, q, rfl, rfl, HX6⟩ := hcut
        have HP := keepH HX6.out.1
        have HQ := keepH HX6.out.2.1
        have HC := keepH HX6.out.2.2
        have p0 : wc.cell? ⟨p, 0, none⟩ = some (.int .i64 a1) := cell_of HP.out 0
        have p1 : wc.cell? ⟨p, 1, none⟩ = some (.int .i64 a2) := cell_of HP.out 1
        have q0 : wc.cell? ⟨q, 0, none⟩ = some (.int .i64 b1') := cell_of HQ.out 0
        have q1 : wc.cell? ⟨q, 1, none⟩ = some (.int .i64 b2') := cell_of HQ.out 1
        have HKC := keepH (HK.out.on HC.out)
        have HBX := keepH b1
        clear b0 b1 b2 HX6
        by_cases e1 : a1 = b1'
        · have f1 : (a1 == b1') = true := by simpa using e1
          have HNX := keepH (show SwSt w2 (swL tr st ds j) u4 _ from by rw [HJ.out, swL_no (by rw [HSB.out]; simp [e1])]; exact HKC.out)
          go_wp2_with fail
          go_roundw
          case rel => exact SwR.mk ⟨j, by have := HJ.out; omega, rfl, HNX.out⟩
          case measure => have := HJ.out; simp [intOf]; omega
        have f1 : (a1 == b1') = false := by simpa using e1
        by_cases e2 : a2 = b2'
        · have f2 : (a2 == b2') = true := by simpa using e2
          have HNX := keepH (show SwSt w2 (swL tr st ds j) u4 _ from by rw [HJ.out, swL_no (by rw [HSB.out]; simp [e2])]; exact HKC.out)
          go_wp2_with fail
          go_roundw
          case rel => exact SwR.mk ⟨j, by have := HJ.out; omega, rfl, HNX.out⟩
          case measure => have := HJ.out; simp [intOf]; omega
        have f2 : (a2 == b2') = false := by simpa using e2
        go_wp2_with fail
        refine (HIE1.out wc HC.out).mono ?_
        rintro e w5 ⟨rfl, D5⟩
        have r0 := cell_below q0 D5
        have r1 := cell_below q1 D5
        have HC5 := keepH (below_chain HC.out D5)
        clear p0 p1 q0 q1
        cases g1 with
        | true =>
          have HNX := keepH (show SwSt w2 (swL tr st ds j) u4 _ from by rw [HJ.out, swL_no (by rw [HSB.out]; simp)]; exact HKC.out.on D5)
          go_wp2_with fail
          go_roundw
          case rel => exact SwR.mk ⟨j, by have := HJ.out; omega, rfl, HNX.out⟩
          case measure => have := HJ.out; simp [intOf]; omega
        | false =>
          clear D5
          go_wp2_with fail
          refine (HIE2.out w5 HC5.out).mono ?_
          rintro e w7 ⟨rfl, D7⟩
          have HC7 := keepH (below_chain HC5.out D7)
          clear r0 r1 D7
          cases g2 with
          | true =>
            have HNX := keepH (show SwSt w2 (swL tr st ds j) u4 _ from by rw [HJ.out, swL_no (by rw [HSB.out]; simp)]; exact HK.out.on HC7.out)
            go_wp2_with fail
            go_roundw
            case rel => exact SwR.mk ⟨j, by have := HJ.out; omega, rfl, HNX.out⟩
            case measure => have := HJ.out; simp [intOf]; omega
          | false =>
            have HB1 : Hid (w7.cell? ⟨B, 1, none⟩ = some (.slice (some ⟨bt, ot, none⟩) n ct)) := keepH (cell_below HBX.out HC7.out)
            have HX := keepH (fun w (hb : Below w7.heap.size w7 w) => HXX.out w (below_chain HC7.out hb))
            have HY := keepH (fun w (hb : Below w7.heap.size w7 w) => HYY.out w (below_chain HC7.out hb))
            go_upto_region 8 with fail
            cases g3 with
            | true =>
              refine wp_region_held_drew (S := fun w => Below w7.heap.size w7 w) (by kernel_rfl) (below_drewN (Below.refl _ _) 1) ?_
              intro hHeld
              refine wpAnyH_take (i := 0) (v := ?_) rfl (by kernel_rfl) (by kernel_rfl) (by kernel_rfl) (fun _ _ _ h => h) (Or.inl ⟨by rfl, ?_⟩) hHeld ?_
              rotate_left
              · intro w hSw
                (try dsimp only at hSw)
                go_simp
                try with_reducible rfl
              (try simp only [Act.put]); (try simp only [List.setIfInBounds_toArray]); (try simp only [List.getElem_toArray]); (repeat (first | simp only [List.getElem_cons_succ] | simp only [List.getElem_cons_zero])); (repeat (first | simp only [List.set_cons_succ] | simp only [List.set_cons_zero]))
              refine wpAnyH_take (i := 1) (v := ?_) rfl (by kernel_rfl) (by kernel_rfl) (by kernel_rfl) (fun _ _ _ h => h) (Or.inl ⟨by rfl, ?_⟩) hHeld ?_
              rotate_left
              · intro w hSw
                (try dsimp only at hSw)
                have z1 := cell_below HB1.out hSw
                go_simp
                try with_reducible rfl
              (try simp only [Act.put]); (try simp only [List.setIfInBounds_toArray]); (try simp only [List.getElem_toArray]); (repeat (first | simp only [List.getElem_cons_succ] | simp only [List.getElem_cons_zero])); (repeat (first | simp only [List.set_cons_succ] | simp only [List.set_cons_zero]))
              refine wpAnyH_take (i := 2) (v := ?_) rfl (by kernel_rfl) (by kernel_rfl) (by kernel_rfl) (fun _ _ _ h => h) (Or.inl ⟨by rfl, ?_⟩) hHeld ?_
              rotate_left
              · intro w hSw
                (try dsimp only at hSw)
                go_simp
                try with_reducible rfl
              (try simp only [Act.put]); (try simp only [List.setIfInBounds_toArray]); (try simp only [List.getElem_toArray]); (repeat (first | simp only [List.getElem_cons_succ] | simp only [List.getElem_cons_zero])); (repeat (first | simp only [List.set_cons_succ] | simp only [List.set_cons_zero]))
              refine wpAnyH_take (i := 3) (v := ?_) rfl (by kernel_rfl) (by kernel_rfl) (by kernel_rfl) (fun _ _ _ h => h) (Or.inl ⟨by rfl, ?_⟩) hHeld ?_
              rotate_left
              · intro w hSw
                (try dsimp only at hSw)
                go_simp
                try with_reducible rfl
              (try simp only [Act.put]); (try simp only [List.setIfInBounds_toArray]); (try simp only [List.getElem_toArray]); (repeat (first | simp only [List.getElem_cons_succ] | simp only [List.getElem_cons_zero])); (repeat (first | simp only [List.set_cons_succ] | simp only [List.set_cons_zero]))
              refine wpAnyH_take (i := 4) (v := ?_) rfl (by kernel_rfl) (by kernel_rfl) (by kernel_rfl) (fun _ _ _ h => h) (Or.inl ⟨by rfl, ?_⟩) hHeld ?_
              rotate_left
              · intro w hSw
                (try dsimp only at hSw)
                obtain ⟨y0, y1, y2, y3, y4, y5, y6, y7⟩ := HX.out w hSw
                go_simp
                try with_reducible rfl
              (try simp only [Act.put]); (try simp only [List.setIfInBounds_toArray]); (try simp only [List.getElem_toArray]); (repeat (first | simp only [List.getElem_cons_succ] | simp only [List.getElem_cons_zero])); (repeat (first | simp only [List.set_cons_succ] | simp only [List.set_cons_zero]))
              refine wpAnyH_take (i := 5) (v := ?_) rfl (by kernel_rfl) (by kernel_rfl) (by kernel_rfl) (fun _ _ _ h => h) (Or.inl ⟨by rfl, ?_⟩) hHeld ?_
              rotate_left
              · intro w hSw
                (try dsimp only at hSw)
                go_simp
                try with_reducible rfl
              (try simp only [Act.put]); (try simp only [List.setIfInBounds_toArray]); (try simp only [List.getElem_toArray]); (repeat (first | simp only [List.getElem_cons_succ] | simp only [List.getElem_cons_zero])); (repeat (first | simp only [List.set_cons_succ] | simp only [List.set_cons_zero]))
              refine wpAnyH_take (i := 6) (v := ?_) rfl (by kernel_rfl) (by kernel_rfl) (by kernel_rfl) (fun _ _ _ h => h) (Or.inl ⟨by rfl, ?_⟩) hHeld ?_
              rotate_left
              · intro w hSw
                (try dsimp only at hSw)
                have z1 := cell_below HB1.out hSw
                go_simp
                try with_reducible rfl
              (try simp only [Act.put]); (try simp only [List.setIfInBounds_toArray]); (try simp only [List.getElem_toArray]); (repeat (first | simp only [List.getElem_cons_succ] | simp only [List.getElem_cons_zero])); (repeat (first | simp only [List.set_cons_succ] | simp only [List.set_cons_zero]))
              refine wpAnyH_take (i := 7) (v := ?_) rfl (by kernel_rfl) (by kernel_rfl) (by kernel_rfl) (fun _ _ _ h => h) (Or.inl ⟨by rfl, ?_⟩) hHeld ?_
              rotate_left
              · intro w hSw
                (try dsimp only at hSw)
                go_simp
                try with_reducible rfl
              (try simp only [Act.put]); (try simp only [List.setIfInBounds_toArray]); (try simp only [List.getElem_toArray]); (repeat (first | simp only [List.getElem_cons_succ] | simp only [List.getElem_cons_zero])); (repeat (first | simp only [List.set_cons_succ] | simp only [List.set_cons_zero]))
              refine wpAnyH_take (i := 8) (v := ?_) rfl (by kernel_rfl) (by kernel_rfl) (by kernel_rfl) (fun _ _ _ h => h) (Or.inl ⟨by rfl, ?_⟩) hHeld ?_
              rotate_left
              · intro w hSw
                (try dsimp only at hSw)
                go_simp
                try with_reducible rfl
              (try simp only [Act.put]); (try simp only [List.setIfInBounds_toArray]); (try simp only [List.getElem_toArray]); (repeat (first | simp only [List.getElem_cons_succ] | simp only [List.getElem_cons_zero])); (repeat (first | simp only [List.set_cons_succ] | simp only [List.set_cons_zero]))
              refine wpAnyH_take (i := 9) (v := ?_) rfl (by kernel_rfl) (by kernel_rfl) (by kernel_rfl) (fun _ _ _ h => h) (Or.inl ⟨by rfl, ?_⟩) hHeld ?_
              rotate_left
              · intro w hSw
                (try dsimp only at hSw)
                go_simp
                try with_reducible rfl
              (try simp only [Act.put]); (try simp only [List.setIfInBounds_toArray]); (try simp only [List.getElem_toArray]); (repeat (first | simp only [List.getElem_cons_succ] | simp only [List.getElem_cons_zero])); (repeat (first | simp only [List.set_cons_succ] | simp only [List.set_cons_zero]))
              refine wpAnyH_take (i := 10) (v := ?_) rfl (by kernel_rfl) (by kernel_rfl) (by kernel_rfl) (fun _ _ _ h => h) (Or.inl ⟨by rfl, ?_⟩) hHeld ?_
              rotate_left
              · intro w hSw
                (try dsimp only at hSw)
                obtain ⟨y0, y1, y2, y3, y4, y5, y6, y7⟩ := HY.out w hSw
                go_simp
                try with_reducible rfl
              (try simp only [Act.put]); (try simp only [List.setIfInBounds_toArray]); (try simp only [List.getElem_toArray]); (repeat (first | simp only [List.getElem_cons_succ] | simp only [List.getElem_cons_zero])); (repeat (first | simp only [List.set_cons_succ] | simp only [List.set_cons_zero]))
              refine wpAnyH_ready (rs := [11]) (by kernel_rfl) (by simp) ?_
              refine AllReadyH.cons rfl (fun KK hKK => ?_) AllReadyH.nil
              go_simp
              refine (HCL.out _).mono ?_
              rintro e w8 ⟨rfl, D8⟩
              have D9 := below_chain hHeld D8
              refine hKK.out _ _ ?_ (fun hHeld => ?_)
              · exact D9
              clear hKK KK
              (try simp only [Act.put]); (try simp only [List.setIfInBounds_toArray]); (try simp only [List.getElem_toArray]); (repeat (first | simp only [List.getElem_cons_succ] | simp only [List.getElem_cons_zero])); (repeat (first | simp only [List.set_cons_succ] | simp only [List.set_cons_zero]))
              refine wpAnyH_take (i := 12) (v := ?_) rfl (by kernel_rfl) (by kernel_rfl) (by kernel_rfl) (fun _ _ _ h => h) (Or.inl ⟨by rfl, ?_⟩) hHeld ?_
              rotate_left
              · intro w hSw
                (try dsimp only at hSw)
                go_simp
                try with_reducible rfl
              (try simp only [Act.put]); (try simp only [List.setIfInBounds_toArray]); (try simp only [List.getElem_toArray]); (repeat (first | simp only [List.getElem_cons_succ] | simp only [List.getElem_cons_zero])); (repeat (first | simp only [List.set_cons_succ] | simp only [List.set_cons_zero]))
              refine wpAnyH_done (by kernel_rfl) ?_ _
              go_simp
              have HNX := keepH (show SwSt w2 (swL tr st ds j) u4 _ from by rw [HJ.out, swL_no (by rw [HSB.out]; simp)]; exact (HK.out.on HC7.out).on D9)
              go_wp2_with fail
              go_roundw
              case rel => exact SwR.mk ⟨j, by have := HJ.out; omega, rfl, HNX.out⟩
              case measure => have := HJ.out; simp [intOf]; omega
            | false =>
              refine wp_region_held_drew (S := fun w => Below w7.heap.size w7 w) (by kernel_rfl) (below_drewN (Below.refl _ _) 1) ?_
              intro hHeld
              refine wpAnyH_take (i := 0) (v := ?_) rfl (by kernel_rfl) (by kernel_rfl) (by kernel_rfl) (fun _ _ _ h => h) (Or.inl ⟨by rfl, ?_⟩) hHeld ?_
              rotate_left
              · intro w hSw
                (try dsimp only at hSw)
                go_simp
                try with_reducible rfl
              (try simp only [Act.put]); (try simp only [List.setIfInBounds_toArray]); (try simp only [List.getElem_toArray]); (repeat (first | simp only [List.getElem_cons_succ] | simp only [List.getElem_cons_zero])); (repeat (first | simp only [List.set_cons_succ] | simp only [List.set_cons_zero]))
              refine wpAnyH_take (i := 1) (v := ?_) rfl (by kernel_rfl) (by kernel_rfl) (by kernel_rfl) (fun _ _ _ h => h) (Or.inl ⟨by rfl, ?_⟩) hHeld ?_
              rotate_left
              · intro w hSw
                (try dsimp only at hSw)
                have z1 := cell_below HB1.out hSw
                go_simp
                try with_reducible rfl
              (try simp only [Act.put]); (try simp only [List.setIfInBounds_toArray]); (try simp only [List.getElem_toArray]); (repeat (first | simp only [List.getElem_cons_succ] | simp only [List.getElem_cons_zero])); (repeat (first | simp only [List.set_cons_succ] | simp only [List.set_cons_zero]))
              refine wpAnyH_take (i := 2) (v := ?_) rfl (by kernel_rfl) (by kernel_rfl) (by kernel_rfl) (fun _ _ _ h => h) (Or.inl ⟨by rfl, ?_⟩) hHeld ?_
              rotate_left
              · intro w hSw
                (try dsimp only at hSw)
                go_simp
                try with_reducible rfl
              (try simp only [Act.put]); (try simp only [List.setIfInBounds_toArray]); (try simp only [List.getElem_toArray]); (repeat (first | simp only [List.getElem_cons_succ] | simp only [List.getElem_cons_zero])); (repeat (first | simp only [List.set_cons_succ] | simp only [List.set_cons_zero]))
              refine wpAnyH_take (i := 3) (v := ?_) rfl (by kernel_rfl) (by kernel_rfl) (by kernel_rfl) (fun _ _ _ h => h) (Or.inl ⟨by rfl, ?_⟩) hHeld ?_
              rotate_left
              · intro w hSw
                (try dsimp only at hSw)
                go_simp
                try with_reducible rfl
              (try simp only [Act.put]); (try simp only [List.setIfInBounds_toArray]); (try simp only [List.getElem_toArray]); (repeat (first | simp only [List.getElem_cons_succ] | simp only [List.getElem_cons_zero])); (repeat (first | simp only [List.set_cons_succ] | simp only [List.set_cons_zero]))
              refine wpAnyH_take (i := 4) (v := ?_) rfl (by kernel_rfl) (by kernel_rfl) (by kernel_rfl) (fun _ _ _ h => h) (Or.inl ⟨by rfl, ?_⟩) hHeld ?_
              rotate_left
              · intro w hSw
                (try dsimp only at hSw)
                obtain ⟨y0, y1, y2, y3, y4, y5, y6, y7⟩ := HX.out w hSw
                go_simp
                try with_reducible rfl
              (try simp only [Act.put]); (try simp only [List.setIfInBounds_toArray]); (try simp only [List.getElem_toArray]); (repeat (first | simp only [List.getElem_cons_succ] | simp only [List.getElem_cons_zero])); (repeat (first | simp only [List.set_cons_succ] | simp only [List.set_cons_zero]))
              refine wpAnyH_take (i := 5) (v := ?_) rfl (by kernel_rfl) (by kernel_rfl) (by kernel_rfl) (fun _ _ _ h => h) (Or.inl ⟨by rfl, ?_⟩) hHeld ?_
              rotate_left
              · intro w hSw
                (try dsimp only at hSw)
                go_simp
                try with_reducible rfl
              (try simp only [Act.put]); (try simp only [List.setIfInBounds_toArray]); (try simp only [List.getElem_toArray]); (repeat (first | simp only [List.getElem_cons_succ] | simp only [List.getElem_cons_zero])); (repeat (first | simp only [List.set_cons_succ] | simp only [List.set_cons_zero]))
              refine wpAnyH_take (i := 6) (v := ?_) rfl (by kernel_rfl) (by kernel_rfl) (by kernel_rfl) (fun _ _ _ h => h) (Or.inl ⟨by rfl, ?_⟩) hHeld ?_
              rotate_left
              · intro w hSw
                (try dsimp only at hSw)
                have z1 := cell_below HB1.out hSw
                go_simp
                try with_reducible rfl
              (try simp only [Act.put]); (try simp only [List.setIfInBounds_toArray]); (try simp only [List.getElem_toArray]); (repeat (first | simp only [List.getElem_cons_succ] | simp only [List.getElem_cons_zero])); (repeat (first | simp only [List.set_cons_succ] | simp only [List.set_cons_zero]))
              refine wpAnyH_take (i := 7) (v := ?_) rfl (by kernel_rfl) (by kernel_rfl) (by kernel_rfl) (fun _ _ _ h => h) (Or.inl ⟨by rfl, ?_⟩) hHeld ?_
              rotate_left
              · intro w hSw
                (try dsimp only at hSw)
                go_simp
                try with_reducible rfl
              (try simp only [Act.put]); (try simp only [List.setIfInBounds_toArray]); (try simp only [List.getElem_toArray]); (repeat (first | simp only [List.getElem_cons_succ] | simp only [List.getElem_cons_zero])); (repeat (first | simp only [List.set_cons_succ] | simp only [List.set_cons_zero]))
              refine wpAnyH_take (i := 8) (v := ?_) rfl (by kernel_rfl) (by kernel_rfl) (by kernel_rfl) (fun _ _ _ h => h) (Or.inl ⟨by rfl, ?_⟩) hHeld ?_
              rotate_left
              · intro w hSw
                (try dsimp only at hSw)
                go_simp
                try with_reducible rfl
              (try simp only [Act.put]); (try simp only [List.setIfInBounds_toArray]); (try simp only [List.getElem_toArray]); (repeat (first | simp only [List.getElem_cons_succ] | simp only [List.getElem_cons_zero])); (repeat (first | simp only [List.set_cons_succ] | simp only [List.set_cons_zero]))
              refine wpAnyH_take (i := 9) (v := ?_) rfl (by kernel_rfl) (by kernel_rfl) (by kernel_rfl) (fun _ _ _ h => h) (Or.inl ⟨by rfl, ?_⟩) hHeld ?_
              rotate_left
              · intro w hSw
                (try dsimp only at hSw)
                go_simp
                try with_reducible rfl
              (try simp only [Act.put]); (try simp only [List.setIfInBounds_toArray]); (try simp only [List.getElem_toArray]); (repeat (first | simp only [List.getElem_cons_succ] | simp only [List.getElem_cons_zero])); (repeat (first | simp only [List.set_cons_succ] | simp only [List.set_cons_zero]))
              refine wpAnyH_take (i := 10) (v := ?_) rfl (by kernel_rfl) (by kernel_rfl) (by kernel_rfl) (fun _ _ _ h => h) (Or.inl ⟨by rfl, ?_⟩) hHeld ?_
              rotate_left
              · intro w hSw
                (try dsimp only at hSw)
                obtain ⟨y0, y1, y2, y3, y4, y5, y6, y7⟩ := HY.out w hSw
                go_simp
                try with_reducible rfl
              (try simp only [Act.put]); (try simp only [List.setIfInBounds_toArray]); (try simp only [List.getElem_toArray]); (repeat (first | simp only [List.getElem_cons_succ] | simp only [List.getElem_cons_zero])); (repeat (first | simp only [List.set_cons_succ] | simp only [List.set_cons_zero]))
              refine wpAnyH_ready (rs := [11]) (by kernel_rfl) (by simp) ?_
              refine AllReadyH.cons rfl (fun KK hKK => ?_) AllReadyH.nil
              go_simp
              refine (HCL.out _).mono ?_
              rintro e w8 ⟨rfl, D8⟩
              have D9 := below_chain hHeld D8
              refine hKK.out _ _ ?_ (fun hHeld => ?_)
              · exact D9
              clear hKK KK
              (try simp only [Act.put]); (try simp only [List.setIfInBounds_toArray]); (try simp only [List.getElem_toArray]); (repeat (first | simp only [List.getElem_cons_succ] | simp only [List.getElem_cons_zero])); (repeat (first | simp only [List.set_cons_succ] | simp only [List.set_cons_zero]))
              refine wpAnyH_take (i := 12) (v := ?_) rfl (by kernel_rfl) (by kernel_rfl) (by kernel_rfl) (fun _ _ _ h => h) (Or.inl ⟨by rfl, ?_⟩) hHeld ?_
              rotate_left
              · intro w hSw
                (try dsimp only at hSw)
                go_simp
                try with_reducible rfl
              (try simp only [Act.put]); (try simp only [List.setIfInBounds_toArray]); (try simp only [List.getElem_toArray]); (repeat (first | simp only [List.getElem_cons_succ] | simp only [List.getElem_cons_zero])); (repeat (first | simp only [List.set_cons_succ] | simp only [List.set_cons_zero]))
              refine wpAnyH_done (by kernel_rfl) ?_ _
              go_simp
              have HK8 := keepH ((HK.out.on HC7.out).on D9)
              obtain ⟨fl, hfl⟩ : ∃ fl, fl = (swL tr st ds i).length := ⟨_, rfl⟩
              have hfl2 : fl ≤ 1048576 := by have := swL_len tr st ds i; omega
              have HRW : Hid (w8.ownsRow 0 3 1 u4 fl (iRow (swL tr st ds i))) := keepH (by rw [hfl]; exact HK8.out.row)
              have hi := HI.out
              have HFL := keepH hfl
              clear hfl D8 D9 hHeld
              go_wp2_with (first | (at_builtin; refine wpList_append_own_at _ rfl (.tmp 61) (.tmp 63) 35 rfl 0 3 i0 (.int .i64 0) 1 8 Tryz.underlying35 hi hz0 hz1 hz2 rfl (by decide) u4 fl (iRow (swL tr st ds i)) rfl (HRW.out.alloc _) ⟨w8.heap.size, 0, none⟩ 1 1 [.int .i64 (i : Int)] rfl rfl (cells_newW _ _ rfl _ _) (by intro u hu; simp at hu; subst hu; rfl) (by unfold maxLen; omega) (by omega) (Nat.zero_le _) ?_; intro v2 w9 r1 r2 r3 r4; have R1 := keepH r1; have R2 := keepH r2; have R4 := keepH r4; clear r1 r2 r3 r4) | go_in)
              have HNX := keepH (show SwSt w2 (swL tr st ds j) v2 w9 from by
                rw [HJ.out, swL_yes (by rw [HSB.out]; simp [e1, e2])]
                exact HK8.out.more (by rw [← HFL.out]; exact R1.out) R2.out R4.out)
              go_roundw
              case rel => exact SwR.mk ⟨j, by have := HJ.out; omega, rfl, HNX.out⟩
              case measure => have := HJ.out; simp [intOf]; omega
    · have t1 : ¬ (j : Int) < (n : Int) := by have := HJ.out; omega
      go_wp2_with fail
      go_ret
      have e : i = n - 1 := by omega
      have hf := HK.out
      rw [e] at hf
      refine ⟨u4, by simp, ?_, ?_⟩
      · exact hf.row
      · exact below_chain HS1.out.bel (HB2.out.trans (hf.bel.mono HB2.out.size))
end Go.Proofs.YtjodechhnobkhaaGreatDoor
