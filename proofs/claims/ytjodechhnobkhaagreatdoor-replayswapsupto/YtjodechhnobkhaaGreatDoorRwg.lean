/- The document's Swaps. (mkRwg.py) -/
import Derived.Test.YtjodechhnobkhaaGreatDoorRwf
namespace Go.Proofs.YtjodechhnobkhaaGreatDoor
open Go.RowKit Go.Maps
set_option linter.unusedVariables false

def MB2 (wr : World) (p q : Nat) (xr yr : Array Value) (w : World) : Prop := w.heap[p]? = some (.cells xr 44 (0, 0)) ∧ w.heap[q]? = some (.cells yr 44 (0, 0)) ∧ Below wr.heap.size wr w
set_option maxRecDepth 100000 in
set_option maxHeartbeats 8000000 in
theorem rswaps_any (pd : Option Addr) (cd : Nat) (ds : List Dx) (pt : Option Addr) (ct : Nat) (tr : List Ax) (ps : Option Addr) (cs : Nat) (st : List Int) (W : World) (hd : DRd W pd ds) (ht : ARd W pt tr) (hs : IRd W ps st) (hod : ∀ d ∈ ds, d.Ok) (hot : ∀ x ∈ tr, x.Ok) (hos : ∀ z ∈ st, isI z) (hl : tr.length ≤ 1048576) (hl' : st.length ≤ 1048576) (hld : ds.length ≤ 1048576) :
    Calls Tryz.prog 15 #[ResV pd ds.length cd pt tr.length ct ps st.length cs] W fun e W' => ∃ v, e = .returned v ∧ W'.ownsRow 0 3 1 v (swL tr st ds (tr.length - 1)).length (iRow (swL tr st ds (tr.length - 1))) ∧ Below W.heap.size W W' := by
  obtain ⟨i0, hi, hz0, hz1, hz2⟩ := info_parts infoInt
  have HI := keepH hi
  have HT := keepH ht
  have HD := keepH hd
  have HS := keepH hs
  have HOK := keepH (fun i => momAt_ok (i := i) hot hos)
  have HMO := keepH (fun (i : Nat) (w : World) (hi : i < tr.length) (hb : Below W.heap.size W w) => ends_any pd cd ds pt ct tr ps cs st i w (hd.on hb) (ht.on hb) (hs.on hb) hi hl hl' hld)
  obtain ⟨n, hn⟩ : ∃ n, n = tr.length := ⟨_, rfl⟩
  obtain ⟨m, hm⟩ : ∃ m, m = st.length := ⟨_, rfl⟩
  obtain ⟨nd, hnd⟩ : ∃ nd, nd = ds.length := ⟨_, rfl⟩
  have HN := keepH hn
  have HMM := keepH hm
  rw [← hn, ← hm, ← hnd] at HMO
  rw [← hn, ← hm, ← hnd]
  rw [← hn] at hl
  rw [← hm] at hl'
  unfold ResV at HMO ⊢
  obtain ⟨w1, hw1⟩ : ∃ w1, w1 = W.alloc (.cells #[.slice pd nd cd, .slice pt n ct, .slice ps m cs] 37) := ⟨_, rfl⟩
  obtain ⟨B, hB⟩ : ∃ B, B = W.heap.size := ⟨_, rfl⟩
  have S1 : BxSt W B #[.slice pd nd cd, .slice pt n ct, .slice ps m cs] w1 := by
    rw [hw1, hB]
    exact ⟨heap_alloc_new _ _, below_alloc _ _⟩
  have HS1 := keepH S1
  have HW1 := keepH hw1
  have HB := keepH hB
  clear hi hd ht hs hod hot hos hld hn hm hnd S1 hw1 hB
  go_enter Tryz.func15, Tryz.ntmps15
  go_upto_region 1 with fail
  rw [← HW1.out, ← HB.out]
  go_wp2_with fail
  go_loopw [3, 4] (fun v s wr => SwR n w1 tr st ds v s wr) (fun _ s _ => n - 1 - (intOf s).toNat)
  case atStart => exact SwR.mk ⟨0, by omega, rfl, World.ownsRow_nil _ _ _ _, Below.refl _ _, fun b hb => by simp [Value.ownBlock] at hb⟩
  case round =>
    obtain ⟨i, hi1, rfl, hk0⟩ := hrel.out
    have HK := keepH hk0
    clear hk0 hrel
    obtain ⟨j, hj⟩ : ∃ j, j = i + 1 := ⟨_, rfl⟩
    have HJ := keepH hj
    have qw : IntKind.i64.wrap ((i : Int) + 1) = (j : Int) := by rw [IntKind.wrap_i64]; omega
    have HSR := keepH (HS1.out.on HK.out.bel)
    have b0 : wr.cell? ⟨B, 0, none⟩ = some (.slice pd nd cd) := cell_of HSR.out.bx 0
    have b1 : wr.cell? ⟨B, 1, none⟩ = some (.slice pt n ct) := cell_of HSR.out.bx 1
    have b2 : wr.cell? ⟨B, 2, none⟩ = some (.slice ps m cs) := cell_of HSR.out.bx 2
    by_cases hlt : i + 1 < n
    · have t1 : (j : Int) < (n : Int) := by omega
      have t2 : (i : Int) < (n : Int) := by omega
      have t0 : (0 : Int) ≤ (i : Int) := by omega
      have t3 : (0 : Int) ≤ (j : Int) := by omega
      obtain ⟨x, hx⟩ : ∃ x, tr[i]? = some x := ⟨tr[i]'(by have := HN.out; omega), List.getElem?_eq_getElem _⟩
      obtain ⟨y, hy⟩ : ∃ y, tr[j]? = some y := ⟨tr[j]'(by have := HN.out; omega), List.getElem?_eq_getElem _⟩
      have hcl : clAt tr i = clA x.kind y.kind x.addr y.addr x.ok y.ok := by
        unfold clAt
        rw [hx, ← hj, hy]
      obtain ⟨bt, ot, vp, vc, rfl, hbt, HX⟩ := acc_cellsW (HT.out.on HSR.out.bel) i x hx
      obtain ⟨bt', ot', vp', vc', e9, hbt', HY⟩ := acc_cellsW (HT.out.on HSR.out.bel) j y hy
      obtain ⟨rfl, rfl⟩ : bt = bt' ∧ ot = ot' := by simpa using e9
      have hsb : swB tr st ds i = (!decide ((momAt tr st i).1 = (momAt tr st j).1) && !decide ((momAt tr st i).2 = (momAt tr st j).2) && !decide (momAt tr st i ∈ edgesL ds) && !decide (momAt tr st j ∈ edgesL ds) && !clAt tr i) := by
        unfold swB
        rw [hj]
      rw [hcl] at hsb
      have hm1 := fun w (hb : Below wr.heap.size wr w) => HMO.out i w (by omega) (below_chain HSR.out.bel hb)
      have hm2 := fun w (hb : Below wr.heap.size wr w) => HMO.out j w (by omega) (below_chain HSR.out.bel hb)
      have hcla := fun w => rclash_any x.th x.kind x.addr x.a x.b (.slice vp x.vals.length vc) x.got x.ok y.th y.kind y.addr y.a y.b (.slice vp' y.vals.length vc') y.got y.ok w
      have ea1 : (momAt tr st i).1 = x.th := by simp [momAt, hx]
      have eb1 : (momAt tr st j).1 = y.th := by simp [momAt, hy]
      have ea2 : (momAt tr st i).2 = st[i]?.getD (-1) := rfl
      have eb2 : (momAt tr st j).2 = st[j]?.getD (-1) := rfl
      obtain ⟨⟨a1, a2⟩, ha⟩ : ∃ a, a = momAt tr st i := ⟨_, rfl⟩
      obtain ⟨⟨b1', b2'⟩, hbb⟩ : ∃ b, b = momAt tr st j := ⟨_, rfl⟩
      rw [← ha] at hsb hm1 ea1 ea2
      rw [← hbb] at hsb hm2 eb1 eb2
      simp only at hsb ea1 eb1 ea2 eb2
      obtain ⟨g1, hg1⟩ : ∃ g, g = decide ((a1, a2) ∈ edgesL ds) := ⟨_, rfl⟩
      obtain ⟨g2, hg2⟩ : ∃ g, g = decide ((b1', b2') ∈ edgesL ds) := ⟨_, rfl⟩
      rw [← hg1] at hsb hm1
      rw [← hg2] at hsb hm2
      obtain ⟨xth, xk, xad, xa, xb, xvals, xgot, xok⟩ := x
      obtain ⟨yth, yk, yad, ya, yb, yvals, ygot, yok⟩ := y
      simp only at hsb HX HY hcla ea1 eb1
      subst ea1 eb1
      obtain ⟨g3, hg3⟩ : ∃ g, g = clA xk yk xad yad xok yok := ⟨_, rfl⟩
      rw [← hg3] at hsb hcla
      unfold accC at hcla
      obtain ⟨xn, hxn⟩ : ∃ k, k = xvals.length := ⟨_, rfl⟩
      obtain ⟨yn, hyn⟩ : ∃ k, k = yvals.length := ⟨_, rfl⟩
      rw [← hxn] at HX hcla
      rw [← hyn] at HY hcla
      have HM1 := keepH hm1
      have HM2 := keepH hm2
      have HEA := keepH ea2
      have HEB := keepH eb2
      have HCL := keepH hcla
      have HSB := keepH hsb
      have HXX := keepH HX
      have HYY := keepH HY
      clear hx hy hcl HX HY e9 hsb hm1 hm2 hcla ha hbb hg1 hg2 hg3 hxn hyn hj ea2 eb2
      go_upto_region 5 with fail
      go_cut [5, 6] from 9 to 82 (fun v5 v6 w => ∃ p q, v5 = .pointer (some ⟨p, 0, none⟩) ∧ v6 = .pointer (some ⟨q, 0, none⟩) ∧ Hid (MB2 wr p q #[.int .i64 a1, .int .u8 (xk : Int), .int .u64 (xad : Int), .int .u64 (xa : Int), .int .u64 (xb : Int), .slice vp xn vc, .int .u64 (xgot : Int), .bool xok] #[.int .i64 b1', .int .u8 (yk : Int), .int .u64 (yad : Int), .int .u64 (ya : Int), .int .u64 (yb : Int), .slice vp' yn vc', .int .u64 (ygot : Int), .bool yok] w))
      case first =>
        refine wp_region_held_drew (S := fun w => Below wr.heap.size wr w) (by kernel_rfl) (below_drewN (Below.refl _ _) 1) ?_
        intro hHeld
        refine wpAnyH_take (i := 0) (v := ?_) rfl (by kernel_rfl) (by kernel_rfl) (by kernel_rfl) (fun _ _ _ h => h) (Or.inl ⟨by rfl, ?_⟩) hHeld ?_
        rotate_left
        · intro w hSw
          (try dsimp only at hSw)
          go_simp
          try with_reducible rfl
        (try simp only [Act.put]); (try simp only [List.setIfInBounds_toArray]); (try simp only [List.getElem_toArray]); (repeat (first | simp only [List.getElem_cons_succ] | simp only [List.getElem_cons_zero])); (repeat (first | simp only [List.set_cons_succ] | simp only [List.set_cons_zero]))
        refine wpAnyH_take (i := 1) (v := ?_) rfl (by kernel_rfl) (by kernel_rfl) (by kernel_rfl) (fun _ _ _ h => h) (Or.inl ⟨by rfl, ?_⟩) hHeld ?_
        rotate_left
        · intro w hSw
          (try dsimp only at hSw)
          have z1 := cell_below b1 hSw
          go_simp
          try with_reducible rfl
        (try simp only [Act.put]); (try simp only [List.setIfInBounds_toArray]); (try simp only [List.getElem_toArray]); (repeat (first | simp only [List.getElem_cons_succ] | simp only [List.getElem_cons_zero])); (repeat (first | simp only [List.set_cons_succ] | simp only [List.set_cons_zero]))
        refine wpAnyH_take (i := 2) (v := ?_) rfl (by kernel_rfl) (by kernel_rfl) (by kernel_rfl) (fun _ _ _ h => h) (Or.inl ⟨by rfl, ?_⟩) hHeld ?_
        rotate_left
        · intro w hSw
          (try dsimp only at hSw)
          go_simp
          try with_reducible rfl
        (try simp only [Act.put]); (try simp only [List.setIfInBounds_toArray]); (try simp only [List.getElem_toArray]); (repeat (first | simp only [List.getElem_cons_succ] | simp only [List.getElem_cons_zero])); (repeat (first | simp only [List.set_cons_succ] | simp only [List.set_cons_zero]))
        refine wpAnyH_take (i := 3) (v := ?_) rfl (by kernel_rfl) (by kernel_rfl) (by kernel_rfl) (fun _ _ _ h => h) (Or.inl ⟨by rfl, ?_⟩) hHeld ?_
        rotate_left
        · intro w hSw
          (try dsimp only at hSw)
          go_simp
          try with_reducible rfl
        (try simp only [Act.put]); (try simp only [List.setIfInBounds_toArray]); (try simp only [List.getElem_toArray]); (repeat (first | simp only [List.getElem_cons_succ] | simp only [List.getElem_cons_zero])); (repeat (first | simp only [List.set_cons_succ] | simp only [List.set_cons_zero]))
        refine wpAnyH_take (i := 4) (v := ?_) rfl (by kernel_rfl) (by kernel_rfl) (by kernel_rfl) (fun _ _ _ h => h) (Or.inl ⟨by rfl, ?_⟩) hHeld ?_
        rotate_left
        · intro w hSw
          (try dsimp only at hSw)
          obtain ⟨y0, y1, y2, y3, y4, y5, y6, y7⟩ := HXX.out w hSw
          go_simp
          try with_reducible rfl
        (try simp only [Act.put]); (try simp only [List.setIfInBounds_toArray]); (try simp only [List.getElem_toArray]); (repeat (first | simp only [List.getElem_cons_succ] | simp only [List.getElem_cons_zero])); (repeat (first | simp only [List.set_cons_succ] | simp only [List.set_cons_zero]))
        refine wpAnyH_take (i := 5) (v := ?_) rfl (by kernel_rfl) (by kernel_rfl) (by kernel_rfl) (fun _ _ _ h => h) (Or.inl ⟨by rfl, ?_⟩) hHeld ?_
        rotate_left
        · intro w hSw
          (try dsimp only at hSw)
          go_simp
          try with_reducible rfl
        (try simp only [Act.put]); (try simp only [List.setIfInBounds_toArray]); (try simp only [List.getElem_toArray]); (repeat (first | simp only [List.getElem_cons_succ] | simp only [List.getElem_cons_zero])); (repeat (first | simp only [List.set_cons_succ] | simp only [List.set_cons_zero]))
        refine wpAnyH_take (i := 6) (v := ?_) rfl (by kernel_rfl) (by kernel_rfl) (by kernel_rfl) (fun _ _ _ h => h) (Or.inl ⟨by rfl, ?_⟩) hHeld ?_
        rotate_left
        · intro w hSw
          (try dsimp only at hSw)
          have z1 := cell_below b1 hSw
          go_simp
          try with_reducible rfl
        (try simp only [Act.put]); (try simp only [List.setIfInBounds_toArray]); (try simp only [List.getElem_toArray]); (repeat (first | simp only [List.getElem_cons_succ] | simp only [List.getElem_cons_zero])); (repeat (first | simp only [List.set_cons_succ] | simp only [List.set_cons_zero]))
        refine wpAnyH_take (i := 7) (v := ?_) rfl (by kernel_rfl) (by kernel_rfl) (by kernel_rfl) (fun _ _ _ h => h) (Or.inl ⟨by rfl, ?_⟩) hHeld ?_
        rotate_left
        · intro w hSw
          (try dsimp only at hSw)
          go_simp
          try with_reducible rfl
        (try simp only [Act.put]); (try simp only [List.setIfInBounds_toArray]); (try simp only [List.getElem_toArray]); (repeat (first | simp only [List.getElem_cons_succ] | simp only [List.getElem_cons_zero])); (repeat (first | simp only [List.set_cons_succ] | simp only [List.set_cons_zero]))
        refine wpAnyH_take (i := 8) (v := ?_) rfl (by kernel_rfl) (by kernel_rfl) (by kernel_rfl) (fun _ _ _ h => h) (Or.inl ⟨by rfl, ?_⟩) hHeld ?_
        rotate_left
        · intro w hSw
          (try dsimp only at hSw)
          go_simp
          try with_reducible rfl
        (try simp only [Act.put]); (try simp only [List.setIfInBounds_toArray]); (try simp only [List.getElem_toArray]); (repeat (first | simp only [List.getElem_cons_succ] | simp only [List.getElem_cons_zero])); (repeat (first | simp only [List.set_cons_succ] | simp only [List.set_cons_zero]))
        refine wpAnyH_take (i := 9) (v := ?_) rfl (by kernel_rfl) (by kernel_rfl) (by kernel_rfl) (fun _ _ _ h => h) (Or.inl ⟨by rfl, ?_⟩) hHeld ?_
        rotate_left
        · intro w hSw
          (try dsimp only at hSw)
          go_simp
          try with_reducible rfl
        (try simp only [Act.put]); (try simp only [List.setIfInBounds_toArray]); (try simp only [List.getElem_toArray]); (repeat (first | simp only [List.getElem_cons_succ] | simp only [List.getElem_cons_zero])); (repeat (first | simp only [List.set_cons_succ] | simp only [List.set_cons_zero]))
        refine wpAnyH_take (i := 10) (v := ?_) rfl (by kernel_rfl) (by kernel_rfl) (by kernel_rfl) (fun _ _ _ h => h) (Or.inl ⟨by rfl, ?_⟩) hHeld ?_
        rotate_left
        · intro w hSw
          (try dsimp only at hSw)
          obtain ⟨y0, y1, y2, y3, y4, y5, y6, y7⟩ := HYY.out w hSw
          go_simp
          try with_reducible rfl
        (try simp only [Act.put]); (try simp only [List.setIfInBounds_toArray]); (try simp only [List.getElem_toArray]); (repeat (first | simp only [List.getElem_cons_succ] | simp only [List.getElem_cons_zero])); (repeat (first | simp only [List.set_cons_succ] | simp only [List.set_cons_zero]))
        obtain ⟨x0, hx0⟩ : ∃ x0, x0 = wr.drew := ⟨_, rfl⟩
        rw [← hx0] at hHeld ⊢
        clear hx0
        have C0 : Below wr.heap.size wr x0 := hHeld
        clear hHeld
        refine wpAnyH_ready (rs := [11, 12]) (by kernel_rfl) (by simp) ?_
        refine AllReadyH.cons rfl ?_ (AllReadyH.cons rfl ?_ AllReadyH.nil)
        · intro KK hKK
          go_simp
          obtain ⟨x1, hN⟩ : ∃ x, x = x0.alloc (.cells #[.int .i64 0, .int .u8 0, .int .u64 0, .int .u64 0, .int .u64 0, .slice none 0 0, .int .u64 0, .bool false] 44) := ⟨_, rfl⟩
          obtain ⟨p, hp⟩ : ∃ p, p = x0.heap.size := ⟨_, rfl⟩
          rw [← hN, ← hp]
          have B1 : Below x0.heap.size x0 x1 := by rw [hN]; exact below_alloc _ _
          have C1 := below_chain C0 B1
          have P1 : x1.heap[p]? = some (.cells #[.int .i64 0, .int .u8 0, .int .u64 0, .int .u64 0, .int .u64 0, .slice none 0 0, .int .u64 0, .bool false] 44 (0, 0)) := by rw [hN, hp]; exact heap_alloc_new _ _
          have Lp : wr.heap.size ≤ p := by rw [hp]; exact C0.size
          clear hN hp
          refine hKK.out _ _ ?_ (fun hHeld => ?_)
          · exact C1
          clear hKK KK hHeld
          (try simp only [Act.put]); (try simp only [List.setIfInBounds_toArray]); (try simp only [List.getElem_toArray]); (repeat (first | simp only [List.getElem_cons_succ] | simp only [List.getElem_cons_zero])); (repeat (first | simp only [List.set_cons_succ] | simp only [List.set_cons_zero]))
          refine wpAnyH_ready (rs := [12]) (by kernel_rfl) (by simp) ?_
          refine AllReadyH.cons rfl ?_ AllReadyH.nil
          intro KK hKK
          go_simp
          obtain ⟨x2, hN⟩ : ∃ x, x = x1.alloc (.cells #[.int .i64 0, .int .u8 0, .int .u64 0, .int .u64 0, .int .u64 0, .slice none 0 0, .int .u64 0, .bool false] 44) := ⟨_, rfl⟩
          obtain ⟨q, hp⟩ : ∃ p, p = x1.heap.size := ⟨_, rfl⟩
          rw [← hN, ← hp]
          have B2 : Below x1.heap.size x1 x2 := by rw [hN]; exact below_alloc _ _
          have C2 := below_chain C1 B2
          have Q2 : x2.heap[q]? = some (.cells #[.int .i64 0, .int .u8 0, .int .u64 0, .int .u64 0, .int .u64 0, .slice none 0 0, .int .u64 0, .bool false] 44 (0, 0)) := by rw [hN, hp]; exact heap_alloc_new _ _
          have Lq : wr.heap.size ≤ q := by rw [hp]; exact C1.size
          have hq := (Array.getElem?_eq_some_iff.1 P1).1
          have P2 := (B2.block p hq).trans P1
          have hpq : p ≠ q := by omega
          clear hq
          clear hN hp
          refine hKK.out _ _ ?_ (fun hHeld => ?_)
          · exact C2
          clear hKK KK hHeld
          (try simp only [Act.put]); (try simp only [List.setIfInBounds_toArray]); (try simp only [List.getElem_toArray]); (repeat (first | simp only [List.getElem_cons_succ] | simp only [List.getElem_cons_zero])); (repeat (first | simp only [List.set_cons_succ] | simp only [List.set_cons_zero]))
          refine wpAnyH_ready (rs := [13]) (by kernel_rfl) (by simp) ?_
          refine AllReadyH.cons rfl ?_ AllReadyH.nil
          intro KK hKK
          refine step_store_row rfl 44 _ _ rfl p #[.int .i64 a1, .int .u8 (xk : Int), .int .u64 (xad : Int), .int .u64 (xa : Int), .int .u64 (xb : Int), .slice vp xn vc, .int .u64 (xgot : Int), .bool xok] rfl rfl 44 #[.int .i64 0, .int .u8 0, .int .u64 0, .int .u64 0, .int .u64 0, .slice none 0 0, .int .u64 0, .bool false] P2 (by kernel_rfl) rfl (by simp [Value.oneCell']) ?_
          obtain ⟨x3, hN⟩ : ∃ x, x = x2.setRow p #[.int .i64 a1, .int .u8 (xk : Int), .int .u64 (xad : Int), .int .u64 (xa : Int), .int .u64 (xb : Int), .slice vp xn vc, .int .u64 (xgot : Int), .bool xok] := ⟨_, rfl⟩
          rw [← hN]
          have C3 : Below wr.heap.size wr x3 := by rw [hN]; exact below_setRow C2 Lp _
          have P3 : x3.heap[p]? = some (.cells #[.int .i64 a1, .int .u8 (xk : Int), .int .u64 (xad : Int), .int .u64 (xa : Int), .int .u64 (xb : Int), .slice vp xn vc, .int .u64 (xgot : Int), .bool xok] 44 (0, 0)) := by rw [hN]; exact setRow_heap _ _ _ _ _ _ P2
          have Q3 : x3.heap[q]? = some (.cells #[.int .i64 0, .int .u8 0, .int .u64 0, .int .u64 0, .int .u64 0, .slice none 0 0, .int .u64 0, .bool false] 44 (0, 0)) := by rw [hN, setRow_other _ _ _ _ (by omega)]; exact Q2
          clear hN
          refine hKK.out _ _ ?_ (fun hHeld => ?_)
          · exact C3
          clear hKK KK hHeld
          (try simp only [Act.put]); (try simp only [List.setIfInBounds_toArray]); (try simp only [List.getElem_toArray]); (repeat (first | simp only [List.getElem_cons_succ] | simp only [List.getElem_cons_zero])); (repeat (first | simp only [List.set_cons_succ] | simp only [List.set_cons_zero]))
          refine wpAnyH_ready (rs := [14]) (by kernel_rfl) (by simp) ?_
          refine AllReadyH.cons rfl ?_ AllReadyH.nil
          intro KK hKK
          refine step_store_row rfl 44 _ _ rfl q #[.int .i64 b1', .int .u8 (yk : Int), .int .u64 (yad : Int), .int .u64 (ya : Int), .int .u64 (yb : Int), .slice vp' yn vc', .int .u64 (ygot : Int), .bool yok] rfl rfl 44 #[.int .i64 0, .int .u8 0, .int .u64 0, .int .u64 0, .int .u64 0, .slice none 0 0, .int .u64 0, .bool false] Q3 (by kernel_rfl) rfl (by simp [Value.oneCell']) ?_
          obtain ⟨x4, hN⟩ : ∃ x, x = x3.setRow q #[.int .i64 b1', .int .u8 (yk : Int), .int .u64 (yad : Int), .int .u64 (ya : Int), .int .u64 (yb : Int), .slice vp' yn vc', .int .u64 (ygot : Int), .bool yok] := ⟨_, rfl⟩
          rw [← hN]
          have C4 : Below wr.heap.size wr x4 := by rw [hN]; exact below_setRow C3 Lq _
          have Q4 : x4.heap[q]? = some (.cells #[.int .i64 b1', .int .u8 (yk : Int), .int .u64 (yad : Int), .int .u64 (ya : Int), .int .u64 (yb : Int), .slice vp' yn vc', .int .u64 (ygot : Int), .bool yok] 44 (0, 0)) := by rw [hN]; exact setRow_heap _ _ _ _ _ _ Q3
          have P4 : x4.heap[p]? = some (.cells #[.int .i64 a1, .int .u8 (xk : Int), .int .u64 (xad : Int), .int .u64 (xa : Int), .int .u64 (xb : Int), .slice vp xn vc, .int .u64 (xgot : Int), .bool xok] 44 (0, 0)) := by rw [hN, setRow_other _ _ _ _ (by omega)]; exact P3
          clear hN
          refine hKK.out _ _ ?_ (fun hHeld => ?_)
          · exact C4
          clear hKK KK hHeld
          (try simp only [Act.put]); (try simp only [List.setIfInBounds_toArray]); (try simp only [List.getElem_toArray]); (repeat (first | simp only [List.getElem_cons_succ] | simp only [List.getElem_cons_zero])); (repeat (first | simp only [List.set_cons_succ] | simp only [List.set_cons_zero]))
          refine wpAnyH_done (by kernel_rfl) ?_ _
          go_simp
          go_wp2_with fail
          go_meet
          exact ⟨p, q, rfl, rfl, keepH ⟨P4, Q4, C4⟩⟩
        · intro KK hKK
          go_simp
          obtain ⟨x5, hN⟩ : ∃ x, x = x0.alloc (.cells #[.int .i64 0, .int .u8 0, .int .u64 0, .int .u64 0, .int .u64 0, .slice none 0 0, .int .u64 0, .bool false] 44) := ⟨_, rfl⟩
          obtain ⟨q, hp⟩ : ∃ p, p = x0.heap.size := ⟨_, rfl⟩
          rw [← hN, ← hp]
          have B5 : Below x0.heap.size x0 x5 := by rw [hN]; exact below_alloc _ _
          have C5 := below_chain C0 B5
          have Q5 : x5.heap[q]? = some (.cells #[.int .i64 0, .int .u8 0, .int .u64 0, .int .u64 0, .int .u64 0, .slice none 0 0, .int .u64 0, .bool false] 44 (0, 0)) := by rw [hN, hp]; exact heap_alloc_new _ _
          have Lq : wr.heap.size ≤ q := by rw [hp]; exact C0.size
          clear hN hp
          refine hKK.out _ _ ?_ (fun hHeld => ?_)
          · exact C5
          clear hKK KK hHeld
          (try simp only [Act.put]); (try simp only [List.setIfInBounds_toArray]); (try simp only [List.getElem_toArray]); (repeat (first | simp only [List.getElem_cons_succ] | simp only [List.getElem_cons_zero])); (repeat (first | simp only [List.set_cons_succ] | simp only [List.set_cons_zero]))
          refine wpAnyH_ready (rs := [11]) (by kernel_rfl) (by simp) ?_
          refine AllReadyH.cons rfl ?_ AllReadyH.nil
          intro KK hKK
          go_simp
          obtain ⟨x6, hN⟩ : ∃ x, x = x5.alloc (.cells #[.int .i64 0, .int .u8 0, .int .u64 0, .int .u64 0, .int .u64 0, .slice none 0 0, .int .u64 0, .bool false] 44) := ⟨_, rfl⟩
          obtain ⟨p, hp⟩ : ∃ p, p = x5.heap.size := ⟨_, rfl⟩
          rw [← hN, ← hp]
          have B6 : Below x5.heap.size x5 x6 := by rw [hN]; exact below_alloc _ _
          have C6 := below_chain C5 B6
          have P6 : x6.heap[p]? = some (.cells #[.int .i64 0, .int .u8 0, .int .u64 0, .int .u64 0, .int .u64 0, .slice none 0 0, .int .u64 0, .bool false] 44 (0, 0)) := by rw [hN, hp]; exact heap_alloc_new _ _
          have Lp : wr.heap.size ≤ p := by rw [hp]; exact C5.size
          have hq := (Array.getElem?_eq_some_iff.1 Q5).1
          have Q6 := (B6.block q hq).trans Q5
          have hpq : p ≠ q := by omega
          clear hq
          clear hN hp
          refine hKK.out _ _ ?_ (fun hHeld => ?_)
          · exact C6
          clear hKK KK hHeld
          (try simp only [Act.put]); (try simp only [List.setIfInBounds_toArray]); (try simp only [List.getElem_toArray]); (repeat (first | simp only [List.getElem_cons_succ] | simp only [List.getElem_cons_zero])); (repeat (first | simp only [List.set_cons_succ] | simp only [List.set_cons_zero]))
          refine wpAnyH_ready (rs := [13]) (by kernel_rfl) (by simp) ?_
          refine AllReadyH.cons rfl ?_ AllReadyH.nil
          intro KK hKK
          refine step_store_row rfl 44 _ _ rfl p #[.int .i64 a1, .int .u8 (xk : Int), .int .u64 (xad : Int), .int .u64 (xa : Int), .int .u64 (xb : Int), .slice vp xn vc, .int .u64 (xgot : Int), .bool xok] rfl rfl 44 #[.int .i64 0, .int .u8 0, .int .u64 0, .int .u64 0, .int .u64 0, .slice none 0 0, .int .u64 0, .bool false] P6 (by kernel_rfl) rfl (by simp [Value.oneCell']) ?_
          obtain ⟨x7, hN⟩ : ∃ x, x = x6.setRow p #[.int .i64 a1, .int .u8 (xk : Int), .int .u64 (xad : Int), .int .u64 (xa : Int), .int .u64 (xb : Int), .slice vp xn vc, .int .u64 (xgot : Int), .bool xok] := ⟨_, rfl⟩
          rw [← hN]
          have C7 : Below wr.heap.size wr x7 := by rw [hN]; exact below_setRow C6 Lp _
          have P7 : x7.heap[p]? = some (.cells #[.int .i64 a1, .int .u8 (xk : Int), .int .u64 (xad : Int), .int .u64 (xa : Int), .int .u64 (xb : Int), .slice vp xn vc, .int .u64 (xgot : Int), .bool xok] 44 (0, 0)) := by rw [hN]; exact setRow_heap _ _ _ _ _ _ P6
          have Q7 : x7.heap[q]? = some (.cells #[.int .i64 0, .int .u8 0, .int .u64 0, .int .u64 0, .int .u64 0, .slice none 0 0, .int .u64 0, .bool false] 44 (0, 0)) := by rw [hN, setRow_other _ _ _ _ (by omega)]; exact Q6
          clear hN
          refine hKK.out _ _ ?_ (fun hHeld => ?_)
          · exact C7
          clear hKK KK hHeld
          (try simp only [Act.put]); (try simp only [List.setIfInBounds_toArray]); (try simp only [List.getElem_toArray]); (repeat (first | simp only [List.getElem_cons_succ] | simp only [List.getElem_cons_zero])); (repeat (first | simp only [List.set_cons_succ] | simp only [List.set_cons_zero]))
          refine wpAnyH_ready (rs := [14]) (by kernel_rfl) (by simp) ?_
          refine AllReadyH.cons rfl ?_ AllReadyH.nil
          intro KK hKK
          refine step_store_row rfl 44 _ _ rfl q #[.int .i64 b1', .int .u8 (yk : Int), .int .u64 (yad : Int), .int .u64 (ya : Int), .int .u64 (yb : Int), .slice vp' yn vc', .int .u64 (ygot : Int), .bool yok] rfl rfl 44 #[.int .i64 0, .int .u8 0, .int .u64 0, .int .u64 0, .int .u64 0, .slice none 0 0, .int .u64 0, .bool false] Q7 (by kernel_rfl) rfl (by simp [Value.oneCell']) ?_
          obtain ⟨x8, hN⟩ : ∃ x, x = x7.setRow q #[.int .i64 b1', .int .u8 (yk : Int), .int .u64 (yad : Int), .int .u64 (ya : Int), .int .u64 (yb : Int), .slice vp' yn vc', .int .u64 (ygot : Int), .bool yok] := ⟨_, rfl⟩
          rw [← hN]
          have C8 : Below wr.heap.size wr x8 := by rw [hN]; exact below_setRow C7 Lq _
          have Q8 : x8.heap[q]? = some (.cells #[.int .i64 b1', .int .u8 (yk : Int), .int .u64 (yad : Int), .int .u64 (ya : Int), .int .u64 (yb : Int), .slice vp' yn vc', .int .u64 (ygot : Int), .bool yok] 44 (0, 0)) := by rw [hN]; exact setRow_heap _ _ _ _ _ _ Q7
          have P8 : x8.heap[p]? = some (.cells #[.int .i64 a1, .int .u8 (xk : Int), .int .u64 (xad : Int), .int .u64 (xa : Int), .int .u64 (xb : Int), .slice vp xn vc, .int .u64 (xgot : Int), .bool xok] 44 (0, 0)) := by rw [hN, setRow_other _ _ _ _ (by omega)]; exact P7
          clear hN
          refine hKK.out _ _ ?_ (fun hHeld => ?_)
          · exact C8
          clear hKK KK hHeld
          (try simp only [Act.put]); (try simp only [List.setIfInBounds_toArray]); (try simp only [List.getElem_toArray]); (repeat (first | simp only [List.getElem_cons_succ] | simp only [List.getElem_cons_zero])); (repeat (first | simp only [List.set_cons_succ] | simp only [List.set_cons_zero]))
          refine wpAnyH_done (by kernel_rfl) ?_ _
          go_simp
          go_wp2_with fail
          go_meet
          exact ⟨p, q, rfl, rfl, keepH ⟨P8, Q8, C8⟩⟩
      case rest =>
        obtain ⟨p, q, rfl, rfl, HX6⟩ := hcut
        have HC := keepH HX6.out.2.2
        have p0 : wc.cell? ⟨p, 0, none⟩ = some (.int .i64 a1) := cell_of HX6.out.1 0
        have p1 : wc.cell? ⟨p, 1, none⟩ = some (.int .u8 (xk : Int)) := cell_of HX6.out.1 1
        have p2 : wc.cell? ⟨p, 2, none⟩ = some (.int .u64 (xad : Int)) := cell_of HX6.out.1 2
        have p3 : wc.cell? ⟨p, 3, none⟩ = some (.int .u64 (xa : Int)) := cell_of HX6.out.1 3
        have p4 : wc.cell? ⟨p, 4, none⟩ = some (.int .u64 (xb : Int)) := cell_of HX6.out.1 4
        have p5 : wc.cell? ⟨p, 5, none⟩ = some (.slice vp xn vc) := cell_of HX6.out.1 5
        have p6 : wc.cell? ⟨p, 6, none⟩ = some (.int .u64 (xgot : Int)) := cell_of HX6.out.1 6
        have p7 : wc.cell? ⟨p, 7, none⟩ = some (.bool xok) := cell_of HX6.out.1 7
        have q0 : wc.cell? ⟨q, 0, none⟩ = some (.int .i64 b1') := cell_of HX6.out.2.1 0
        have q1 : wc.cell? ⟨q, 1, none⟩ = some (.int .u8 (yk : Int)) := cell_of HX6.out.2.1 1
        have q2 : wc.cell? ⟨q, 2, none⟩ = some (.int .u64 (yad : Int)) := cell_of HX6.out.2.1 2
        have q3 : wc.cell? ⟨q, 3, none⟩ = some (.int .u64 (ya : Int)) := cell_of HX6.out.2.1 3
        have q4 : wc.cell? ⟨q, 4, none⟩ = some (.int .u64 (yb : Int)) := cell_of HX6.out.2.1 4
        have q5 : wc.cell? ⟨q, 5, none⟩ = some (.slice vp' yn vc') := cell_of HX6.out.2.1 5
        have q6 : wc.cell? ⟨q, 6, none⟩ = some (.int .u64 (ygot : Int)) := cell_of HX6.out.2.1 6
        have q7 : wc.cell? ⟨q, 7, none⟩ = some (.bool yok) := cell_of HX6.out.2.1 7
        have HKC := keepH (HK.out.on HC.out)
        have HBX0 := keepH b0
        have HBX1 := keepH b1
        have HBX2 := keepH b2
        have c2 := cell_below b2 HC.out
        clear b0 b1 b2 HX6
        by_cases hx1 : i < m
        · have s1 : (i : Int) < (m : Int) := by omega
          obtain ⟨z, hz⟩ : ∃ z, st[i]? = some z := ⟨st[i]'(by have := HMM.out; omega), List.getElem?_eq_getElem _⟩
          obtain ⟨bs, os, rfl, hbs, k0⟩ := (HS.out.on (below_chain HSR.out.bel HC.out)).get i z hz
          obtain rfl : a2 = z := by rw [HEA.out, hz]; rfl
          clear hz
          by_cases hx2 : j < m
          · have s2 : (j : Int) < (m : Int) := by omega
            obtain ⟨z', hz⟩ : ∃ z, st[j]? = some z := ⟨st[j]'(by have := HMM.out; omega), List.getElem?_eq_getElem _⟩
            obtain ⟨bs', os', e8, hbs', k1⟩ := (HS.out.on (below_chain HSR.out.bel HC.out)).get j z' hz
            obtain ⟨rfl, rfl⟩ : bs = bs' ∧ os = os' := by simpa using e8
            obtain rfl : b2' = z' := by rw [HEB.out, hz]; rfl
            clear hz e8
            go_upto_region 11 with fail
            clear k0 k1 c2
            by_cases e1 : a1 = b1'
            · have f1 : (a1 != b1') = false := by simpa using e1
              have HNX := keepH (show SwSt w1 (swL tr st ds j) u3 _ from by rw [HJ.out, swL_no (by rw [HSB.out]; simp [e1])]; exact HKC.out)
              go_wp2_with fail
              go_roundw
              case rel => exact SwR.mk ⟨j, by have := HJ.out; omega, rfl, HNX.out⟩
              case measure => have := HJ.out; simp [intOf]; omega
            have f1 : (a1 != b1') = true := by simpa using e1
            by_cases e2 : a2 = b2'
            · have f2 : (a2 != b2') = false := by simpa using e2
              have HNX := keepH (show SwSt w1 (swL tr st ds j) u3 _ from by rw [HJ.out, swL_no (by rw [HSB.out]; simp [e2])]; exact HKC.out)
              go_wp2_with fail
              go_roundw
              case rel => exact SwR.mk ⟨j, by have := HJ.out; omega, rfl, HNX.out⟩
              case measure => have := HJ.out; simp [intOf]; omega
            have f2 : (a2 != b2') = true := by simpa using e2
            have HE2 := keepH e2
            go_wp2_with fail
            refine (HCL.out wc).mono ?_
            rintro e w5 ⟨rfl, D5⟩
            have HC5 := keepH (below_chain HC.out D5)
            clear p0 p1 p2 p3 p4 p5 p6 p7 q0 q1 q2 q3 q4 q5 q6 q7 D5
            cases g3 with
            | true =>
              have HNX := keepH (show SwSt w1 (swL tr st ds j) u3 _ from by rw [HJ.out, swL_no (by rw [HSB.out]; simp)]; exact HK.out.on HC5.out)
              go_wp2_with fail
              go_roundw
              case rel => exact SwR.mk ⟨j, by have := HJ.out; omega, rfl, HNX.out⟩
              case measure => have := HJ.out; simp [intOf]; omega
            | false =>
              have c0 := cell_below HBX0.out HC5.out
              have c1 := cell_below HBX1.out HC5.out
              have c2 := cell_below HBX2.out HC5.out
              go_wp2_with fail
              refine (HM1.out w5 HC5.out).mono ?_
              rintro e w6 ⟨rfl, D6⟩
              have HC6 := keepH (below_chain HC5.out D6)
              clear c0 c1 c2 D6
              cases g1 with
              | true =>
                have HNX := keepH (show SwSt w1 (swL tr st ds j) u3 _ from by rw [HJ.out, swL_no (by rw [HSB.out]; simp)]; exact HK.out.on HC6.out)
                go_wp2_with fail
                go_roundw
                case rel => exact SwR.mk ⟨j, by have := HJ.out; omega, rfl, HNX.out⟩
                case measure => have := HJ.out; simp [intOf]; omega
              | false =>
                have c0 := cell_below HBX0.out HC6.out
                have c1 := cell_below HBX1.out HC6.out
                have c2 := cell_below HBX2.out HC6.out
                go_wp2_with fail
                refine (HM2.out w6 HC6.out).mono ?_
                rintro e w8 ⟨rfl, D8⟩
                have HC8 := keepH (below_chain HC6.out D8)
                clear c0 c1 c2 D8
                cases g2 with
                | true =>
                  have HNX := keepH (show SwSt w1 (swL tr st ds j) u3 _ from by rw [HJ.out, swL_no (by rw [HSB.out]; simp)]; exact HK.out.on HC8.out)
                  go_wp2_with fail
                  go_roundw
                  case rel => exact SwR.mk ⟨j, by have := HJ.out; omega, rfl, HNX.out⟩
                  case measure => have := HJ.out; simp [intOf]; omega
                | false =>
                  have HK8 := keepH (HK.out.on HC8.out)
                  obtain ⟨fl, hfl⟩ : ∃ fl, fl = (swL tr st ds i).length := ⟨_, rfl⟩
                  have hfl2 : fl ≤ 1048576 := by have := swL_len tr st ds i; omega
                  have HRW : Hid (w8.ownsRow 0 3 1 u3 fl (iRow (swL tr st ds i))) := keepH (by rw [hfl]; exact HK8.out.row)
                  have hi := HI.out
                  have HFL := keepH hfl
                  clear hfl
                  go_wp2_with (first | (at_builtin; refine wpList_append_own_at _ rfl (.tmp 79) (.tmp 81) 35 rfl 0 3 i0 (.int .i64 0) 1 8 Tryz.underlying35 hi hz0 hz1 hz2 rfl (by decide) u3 fl (iRow (swL tr st ds i)) rfl (HRW.out.alloc _) ⟨w8.heap.size, 0, none⟩ 1 1 [.int .i64 (i : Int)] rfl rfl (cells_newW _ _ rfl _ _) (by intro u hu; simp at hu; subst hu; rfl) (by unfold maxLen; omega) (by omega) (Nat.zero_le _) ?_; intro v2 w9 r1 r2 r3 r4; have R1 := keepH r1; have R2 := keepH r2; have R4 := keepH r4; clear r1 r2 r3 r4) | go_in)
                  have HNX := keepH (show SwSt w1 (swL tr st ds j) v2 w9 from by
                    rw [HJ.out, swL_yes (by rw [HSB.out]; simp [e1, HE2.out])]
                    exact HK8.out.more (by rw [← HFL.out]; exact R1.out) R2.out R4.out)
                  go_roundw
                  case rel => exact SwR.mk ⟨j, by have := HJ.out; omega, rfl, HNX.out⟩
                  case measure => have := HJ.out; simp [intOf]; omega
          · have s2 : ¬ (j : Int) < (m : Int) := by omega
            obtain rfl : b2' = -1 := by rw [HEB.out, List.getElem?_eq_none (by have := HMM.out; omega)]; rfl
            go_upto_region 11 with fail
            clear k0 c2
            by_cases e1 : a1 = b1'
            · have f1 : (a1 != b1') = false := by simpa using e1
              have HNX := keepH (show SwSt w1 (swL tr st ds j) u3 _ from by rw [HJ.out, swL_no (by rw [HSB.out]; simp [e1])]; exact HKC.out)
              go_wp2_with fail
              go_roundw
              case rel => exact SwR.mk ⟨j, by have := HJ.out; omega, rfl, HNX.out⟩
              case measure => have := HJ.out; simp [intOf]; omega
            have f1 : (a1 != b1') = true := by simpa using e1
            by_cases e2 : a2 = (-1)
            · have f2 : (a2 != (-1)) = false := by simpa using e2
              have HNX := keepH (show SwSt w1 (swL tr st ds j) u3 _ from by rw [HJ.out, swL_no (by rw [HSB.out]; simp [e2])]; exact HKC.out)
              go_wp2_with fail
              go_roundw
              case rel => exact SwR.mk ⟨j, by have := HJ.out; omega, rfl, HNX.out⟩
              case measure => have := HJ.out; simp [intOf]; omega
            have f2 : (a2 != (-1)) = true := by simpa using e2
            have HE2 := keepH e2
            go_wp2_with fail
            refine (HCL.out wc).mono ?_
            rintro e w5 ⟨rfl, D5⟩
            have HC5 := keepH (below_chain HC.out D5)
            clear p0 p1 p2 p3 p4 p5 p6 p7 q0 q1 q2 q3 q4 q5 q6 q7 D5
            cases g3 with
            | true =>
              have HNX := keepH (show SwSt w1 (swL tr st ds j) u3 _ from by rw [HJ.out, swL_no (by rw [HSB.out]; simp)]; exact HK.out.on HC5.out)
              go_wp2_with fail
              go_roundw
              case rel => exact SwR.mk ⟨j, by have := HJ.out; omega, rfl, HNX.out⟩
              case measure => have := HJ.out; simp [intOf]; omega
            | false =>
              have c0 := cell_below HBX0.out HC5.out
              have c1 := cell_below HBX1.out HC5.out
              have c2 := cell_below HBX2.out HC5.out
              go_wp2_with fail
              refine (HM1.out w5 HC5.out).mono ?_
              rintro e w6 ⟨rfl, D6⟩
              have HC6 := keepH (below_chain HC5.out D6)
              clear c0 c1 c2 D6
              cases g1 with
              | true =>
                have HNX := keepH (show SwSt w1 (swL tr st ds j) u3 _ from by rw [HJ.out, swL_no (by rw [HSB.out]; simp)]; exact HK.out.on HC6.out)
                go_wp2_with fail
                go_roundw
                case rel => exact SwR.mk ⟨j, by have := HJ.out; omega, rfl, HNX.out⟩
                case measure => have := HJ.out; simp [intOf]; omega
              | false =>
                have c0 := cell_below HBX0.out HC6.out
                have c1 := cell_below HBX1.out HC6.out
                have c2 := cell_below HBX2.out HC6.out
                go_wp2_with fail
                refine (HM2.out w6 HC6.out).mono ?_
                rintro e w8 ⟨rfl, D8⟩
                have HC8 := keepH (below_chain HC6.out D8)
                clear c0 c1 c2 D8
                cases g2 with
                | true =>
                  have HNX := keepH (show SwSt w1 (swL tr st ds j) u3 _ from by rw [HJ.out, swL_no (by rw [HSB.out]; simp)]; exact HK.out.on HC8.out)
                  go_wp2_with fail
                  go_roundw
                  case rel => exact SwR.mk ⟨j, by have := HJ.out; omega, rfl, HNX.out⟩
                  case measure => have := HJ.out; simp [intOf]; omega
                | false =>
                  have HK8 := keepH (HK.out.on HC8.out)
                  obtain ⟨fl, hfl⟩ : ∃ fl, fl = (swL tr st ds i).length := ⟨_, rfl⟩
                  have hfl2 : fl ≤ 1048576 := by have := swL_len tr st ds i; omega
                  have HRW : Hid (w8.ownsRow 0 3 1 u3 fl (iRow (swL tr st ds i))) := keepH (by rw [hfl]; exact HK8.out.row)
                  have hi := HI.out
                  have HFL := keepH hfl
                  clear hfl
                  go_wp2_with (first | (at_builtin; refine wpList_append_own_at _ rfl (.tmp 79) (.tmp 81) 35 rfl 0 3 i0 (.int .i64 0) 1 8 Tryz.underlying35 hi hz0 hz1 hz2 rfl (by decide) u3 fl (iRow (swL tr st ds i)) rfl (HRW.out.alloc _) ⟨w8.heap.size, 0, none⟩ 1 1 [.int .i64 (i : Int)] rfl rfl (cells_newW _ _ rfl _ _) (by intro u hu; simp at hu; subst hu; rfl) (by unfold maxLen; omega) (by omega) (Nat.zero_le _) ?_; intro v2 w9 r1 r2 r3 r4; have R1 := keepH r1; have R2 := keepH r2; have R4 := keepH r4; clear r1 r2 r3 r4) | go_in)
                  have HNX := keepH (show SwSt w1 (swL tr st ds j) v2 w9 from by
                    rw [HJ.out, swL_yes (by rw [HSB.out]; simp [e1, HE2.out])]
                    exact HK8.out.more (by rw [← HFL.out]; exact R1.out) R2.out R4.out)
                  go_roundw
                  case rel => exact SwR.mk ⟨j, by have := HJ.out; omega, rfl, HNX.out⟩
                  case measure => have := HJ.out; simp [intOf]; omega
        · have s1 : ¬ (i : Int) < (m : Int) := by omega
          have s2 : ¬ (j : Int) < (m : Int) := by have := HJ.out; omega
          obtain rfl : a2 = -1 := by rw [HEA.out, List.getElem?_eq_none (by have := HMM.out; omega)]; rfl
          obtain rfl : b2' = -1 := by rw [HEB.out, List.getElem?_eq_none (by have := HMM.out; have := HJ.out; omega)]; rfl
          go_upto_region 11 with fail
          clear c2
          by_cases e1 : a1 = b1'
          · have f1 : (a1 != b1') = false := by simpa using e1
            have HNX := keepH (show SwSt w1 (swL tr st ds j) u3 _ from by rw [HJ.out, swL_no (by rw [HSB.out]; simp [e1])]; exact HKC.out)
            go_wp2_with fail
            go_roundw
            case rel => exact SwR.mk ⟨j, by have := HJ.out; omega, rfl, HNX.out⟩
            case measure => have := HJ.out; simp [intOf]; omega
          · have f1 : (a1 != b1') = true := by simpa using e1
            have HNX := keepH (show SwSt w1 (swL tr st ds j) u3 _ from by rw [HJ.out, swL_no (by rw [HSB.out]; simp)]; exact HKC.out)
            go_wp2_with fail
            go_roundw
            case rel => exact SwR.mk ⟨j, by have := HJ.out; omega, rfl, HNX.out⟩
            case measure => have := HJ.out; simp [intOf]; omega
    · have t1 : ¬ (j : Int) < (n : Int) := by have := HJ.out; omega
      go_wp2_with fail
      go_ret
      have e : i = n - 1 := by omega
      have hf := HK.out
      rw [e] at hf
      refine ⟨u3, by simp, ?_, ?_⟩
      · exact hf.row
      · exact below_chain HS1.out.bel hf.bel
end Go.Proofs.YtjodechhnobkhaaGreatDoor
