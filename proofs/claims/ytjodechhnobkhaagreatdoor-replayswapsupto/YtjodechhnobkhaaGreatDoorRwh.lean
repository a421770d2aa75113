/- The law ReplaySwaps, walked. (mkRwh.py) -/
import Derived.Test.YtjodechhnobkhaaGreatDoorRwg
import Derived.Test.YtjodechhnobkhaaGreatDoorRwi
import Derived.Test.YtjodechhnobkhaaGreatDoorRpq
namespace Go.Proofs.YtjodechhnobkhaaGreatDoor
open Go.RowKit Go.Shelf
set_option linter.unusedVariables false

set_option maxRecDepth 100000 in
set_option maxHeartbeats 2000000 in
theorem same_i (p q : Option Addr) (c d : Nat) (la : List Int) (W : World) (ha : IRd W p la) (hb : IRd W q la) (hla : la.length ≤ 4194304) :
    Calls Tryz.prog 13 #[.slice p la.length c, .slice q la.length d] W fun e W' => e = .returned (.bool true) ∧ Below W.heap.size W W' := by
  have HA := keepH ha
  have HB := keepH hb
  clear ha hb
  go_enter Tryz.func13, Tryz.ntmps13
  go_wp2_with fail
  go_loopw [5] (fun s wr => ∃ k : Nat, k ≤ la.length ∧ s = .int .i64 (k : Int) ∧ Hid (Below W.heap.size W wr)) (fun s _ => la.length - (intOf s).toNat)
  case atStart => exact ⟨0, by omega, rfl, keepH (Below.refl _ _)⟩
  case round =>
    obtain ⟨k, hk, rfl, HK⟩ := hrel
    by_cases hlt : k < la.length
    · have t1 : (k : Int) < (la.length : Int) := by omega
      have t0 : (0 : Int) ≤ (k : Int) := by omega
      obtain ⟨x, hx⟩ : ∃ x, la[k]? = some x := ⟨la[k], List.getElem?_eq_getElem hlt⟩
      obtain ⟨bk, off, rfl, _, c0⟩ := (HA.out.on HK.out).get k x hx
      obtain ⟨bk', off', rfl, _, d0⟩ := (HB.out.on HK.out).get k x hx
      clear hx
      go_wp2_with fail
      go_quiet (fail)
      go_wp2_with fail
      go_roundw
      case rel => exact ⟨k + 1, by omega, by first | rfl | go_num, keepH (HK.out.trans ⟨rfl, rfl, rfl, Nat.le_refl _, fun _ _ => rfl⟩)⟩
      case measure => simp [intOf]; omega
    · obtain rfl : k = la.length := by omega
      have t1 : ¬ (la.length : Int) < (la.length : Int) := by omega
      go_wp2_with fail
      go_ret
      exact ⟨by simp, HK.out⟩
theorem row_ir {W : World} {v : Value} {l : List Nat} (h : W.ownsRow 0 3 1 v l.length (iRow l)) : ∃ p c, v = .slice p l.length c ∧ IRd W p (l.map fun n => ((n : Nat) : Int)) := by
  have hl := fun k hk => row_lt h k hk
  have hc := fun g (hg : v.ownBlock = some g) => h.cells (g := g) hg
  rcases h.2 with ⟨hv, h0⟩ | ⟨g, cap, cur, hv, _⟩
  · refine ⟨none, 0, by rw [hv, h0], Or.inl ?_⟩
    rw [List.eq_nil_of_length_eq_zero h0]
    rfl
  · refine ⟨_, _, hv, Or.inr ⟨g, 0, rfl, hl g (by rw [hv]; rfl), fun i z hz => ?_⟩⟩
    have := hc g (by rw [hv]; rfl) i (.int .i64 z) (by
      unfold iRow
      rw [List.getElem?_map] at hz ⊢
      obtain ⟨y, hy, rfl⟩ := Option.map_eq_some_iff.mp hz
      rw [hy]
      rfl)
    rw [Addr.add_mid] at this
    simpa using this

set_option maxRecDepth 100000 in
set_option maxHeartbeats 4000000 in
theorem swaps_walk (pd : Option Addr) (cd : Nat) (ds : List Dx) (pt : Option Addr) (ct : Nat) (tr : List Ax) (ps : Option Addr) (cs : Nat) (st : List Int) (W : World) (h : InR W pd ds pt tr ps st) (T : Tb W) :
    Calls Tryz.prog 4 #[ResV pd ds.length cd pt tr.length ct ps st.length cs] W fun e W' => e = .returned (.bool true) ∧ Below W.heap.size W W' := by
  obtain ⟨w1, hw1⟩ : ∃ w1, w1 = W.alloc (.cells #[.slice pd ds.length cd, .slice pt tr.length ct, .slice ps st.length cs] 37) := ⟨_, rfl⟩
  obtain ⟨B, hB⟩ : ∃ B, B = W.heap.size := ⟨_, rfl⟩
  have S1 : BxSt W B #[.slice pd ds.length cd, .slice pt tr.length ct, .slice ps st.length cs] w1 := by
    rw [hw1, hB]
    exact ⟨heap_alloc_new _ _, below_alloc _ _⟩
  have h1 := h.on S1.bel
  have HLV := keepH (fun w (hb : Below w1.heap.size w1 w) => live_21 w ((T.on S1.bel).on hb))
  have HSW := keepH (fun w (hb : Below w1.heap.size w1 w) => swaps_any pd cd ds pt ct tr ps cs st w (h1.on hb).dd (h1.on hb).tt (h1.on hb).ss h.dok h.tok h.sok h.tl h.sl h.dl)
  have HRS := keepH (fun w (hb : Below w1.heap.size w1 w) => rswaps_any pd cd ds pt ct tr ps cs st w (h1.on hb).dd (h1.on hb).tt (h1.on hb).ss h.dok h.tok h.sok h.tl h.sl h.dl)
  obtain ⟨L, hL⟩ : ∃ L, L = swL tr st ds (tr.length - 1) := ⟨_, rfl⟩
  have hLl : L.length ≤ 1048576 := by have := swL_len tr st ds (tr.length - 1); have := h.tl; rw [hL]; omega
  rw [← hL] at HSW HRS
  have hsi := fun (p q : Option Addr) (c d : Nat) (w : World) (ha : IRd w p (L.map fun n => ((n : Nat) : Int))) (hb : IRd w q (L.map fun n => ((n : Nat) : Int))) => same_i p q c d _ w ha hb (by rw [List.length_map]; omega)
  rw [List.length_map] at hsi
  obtain ⟨k, hk⟩ : ∃ k, k = L.length := ⟨_, rfl⟩
  rw [← hk] at hsi
  have HSI := keepH hsi
  have HK := keepH hk
  obtain ⟨n, hn⟩ : ∃ n, n = tr.length := ⟨_, rfl⟩
  obtain ⟨m, hm⟩ : ∃ m, m = st.length := ⟨_, rfl⟩
  obtain ⟨nd, hnd⟩ : ∃ nd, nd = ds.length := ⟨_, rfl⟩
  unfold ResV at HSW HRS ⊢
  rw [← hn, ← hm, ← hnd] at S1 hw1 HSW HRS ⊢
  have HS1 := keepH S1
  have HW1 := keepH hw1
  have HBB := keepH hB
  have HB0 : Hid (w1.cell? ⟨B, 0, none⟩ = some (.slice pd nd cd)) := keepH (cell_of S1.bx 0)
  have HB1 : Hid (w1.cell? ⟨B, 1, none⟩ = some (.slice pt n ct)) := keepH (cell_of S1.bx 1)
  have HB2 : Hid (w1.cell? ⟨B, 2, none⟩ = some (.slice ps m cs)) := keepH (cell_of S1.bx 2)
  clear h h1 S1 hw1 hB hsi hk hn hm hnd hL hLl T
  go_enter Tryz.func4, Tryz.ntmps4
  go_upto_region 1 with fail
  rw [← HW1.out, ← HBB.out]
  refine wp_region_held_drew (S := fun w => Below w1.heap.size w1 w) (by kernel_rfl) (below_drewN (Below.refl _ _) 1) ?_
  intro hHeld
  refine wpAnyH_ready (rs := [0]) (by kernel_rfl) (by simp) ?_
  refine AllReadyH.cons rfl (fun KK hKK => ?_) AllReadyH.nil
  go_simp
  refine (HLV.out _ hHeld).mono ?_
  rintro e w2 ⟨rfl, D2⟩
  have E2 := below_chain hHeld D2
  clear D2
  refine hKK.out _ _ ?_ (fun hHeld => ?_)
  · exact E2
  clear hKK KK
  (try simp only [Act.put]); (try simp only [List.setIfInBounds_toArray]); (try simp only [List.getElem_toArray]); (repeat (first | simp only [List.getElem_cons_succ] | simp only [List.getElem_cons_zero])); (repeat (first | simp only [List.set_cons_succ] | simp only [List.set_cons_zero]))
  refine wpAnyH_take (i := 1) (v := ?_) rfl (by kernel_rfl) (by kernel_rfl) (by kernel_rfl) (fun _ _ _ h => h) (Or.inl ⟨by rfl, ?_⟩) hHeld ?_
  rotate_left
  · intro w hSw
    (try dsimp only at hSw)
    go_simp
    try with_reducible rfl
  (try simp only [Act.put]); (try simp only [List.setIfInBounds_toArray]); (try simp only [List.getElem_toArray]); (repeat (first | simp only [List.getElem_cons_succ] | simp only [List.getElem_cons_zero])); (repeat (first | simp only [List.set_cons_succ] | simp only [List.set_cons_zero]))
  refine wpAnyH_take (i := 2) (v := ?_) rfl (by kernel_rfl) (by kernel_rfl) (by kernel_rfl) (fun _ _ _ h => h) (Or.inl ⟨by rfl, ?_⟩) hHeld ?_
  rotate_left
  · intro w hSw
    (try dsimp only at hSw)
    have z0 := cell_below HB0.out hSw
    have z1 := cell_below HB1.out hSw
    have z2 := cell_below HB2.out hSw
    go_simp
    try with_reducible rfl
  (try simp only [Act.put]); (try simp only [List.setIfInBounds_toArray]); (try simp only [List.getElem_toArray]); (repeat (first | simp only [List.getElem_cons_succ] | simp only [List.getElem_cons_zero])); (repeat (first | simp only [List.set_cons_succ] | simp only [List.set_cons_zero]))
  refine wpAnyH_take (i := 4) (v := ?_) rfl (by kernel_rfl) (by kernel_rfl) (by kernel_rfl) (fun _ _ _ h => h) (Or.inl ⟨by rfl, ?_⟩) hHeld ?_
  rotate_left
  · intro w hSw
    (try dsimp only at hSw)
    have z0 := cell_below HB0.out hSw
    have z1 := cell_below HB1.out hSw
    have z2 := cell_below HB2.out hSw
    go_simp
    try with_reducible rfl
  (try simp only [Act.put]); (try simp only [List.setIfInBounds_toArray]); (try simp only [List.getElem_toArray]); (repeat (first | simp only [List.getElem_cons_succ] | simp only [List.getElem_cons_zero])); (repeat (first | simp only [List.set_cons_succ] | simp only [List.set_cons_zero]))
  refine wpAnyH_ready (rs := [3]) (by kernel_rfl) (by simp) ?_
  refine AllReadyH.cons rfl (fun KK hKK => ?_) AllReadyH.nil
  go_simp
  refine (HSW.out _ hHeld).mono ?_
  rintro e w3 ⟨v, rfl, hrow, D3⟩
  obtain ⟨p3, c3, rfl, hird3⟩ := row_ir hrow
  have HR3 := keepH hird3
  have E3 := below_chain hHeld D3
  rw [← HK.out]
  clear hrow hird3 D3
  refine hKK.out _ _ ?_ (fun hHeld => ?_)
  · exact E3
  clear hKK KK
  (try simp only [Act.put]); (try simp only [List.setIfInBounds_toArray]); (try simp only [List.getElem_toArray]); (repeat (first | simp only [List.getElem_cons_succ] | simp only [List.getElem_cons_zero])); (repeat (first | simp only [List.set_cons_succ] | simp only [List.set_cons_zero]))
  refine wpAnyH_ready (rs := [5]) (by kernel_rfl) (by simp) ?_
  refine AllReadyH.cons rfl (fun KK hKK => ?_) AllReadyH.nil
  go_simp
  refine (HRS.out _ hHeld).mono ?_
  rintro e w5 ⟨v, rfl, hrow, D5⟩
  obtain ⟨p5, c5, rfl, hird5⟩ := row_ir hrow
  have HR5 := keepH hird5
  have HR35 := keepH (HR3.out.on D5)
  have E5 := below_chain hHeld D5
  rw [← HK.out]
  clear hrow hird5 D5
  refine hKK.out _ _ ?_ (fun hHeld => ?_)
  · exact E5
  clear hKK KK
  (try simp only [Act.put]); (try simp only [List.setIfInBounds_toArray]); (try simp only [List.getElem_toArray]); (repeat (first | simp only [List.getElem_cons_succ] | simp only [List.getElem_cons_zero])); (repeat (first | simp only [List.set_cons_succ] | simp only [List.set_cons_zero]))
  refine wpAnyH_ready (rs := [6]) (by kernel_rfl) (by simp) ?_
  refine AllReadyH.cons rfl (fun KK hKK => ?_) AllReadyH.nil
  go_simp
  refine (HSI.out p3 p5 c3 c5 _ HR35.out HR5.out).mono ?_
  rintro e w6 ⟨rfl, D6⟩
  have E6 := below_chain hHeld D6
  have HE6 := keepH E6
  clear D6
  refine hKK.out _ _ ?_ (fun hHeld => ?_)
  · exact E6
  clear hKK KK
  (try simp only [Act.put]); (try simp only [List.setIfInBounds_toArray]); (try simp only [List.getElem_toArray]); (repeat (first | simp only [List.getElem_cons_succ] | simp only [List.getElem_cons_zero])); (repeat (first | simp only [List.set_cons_succ] | simp only [List.set_cons_zero]))
  refine wpAnyH_take (i := 7) (v := ?_) rfl (by kernel_rfl) (by kernel_rfl) (by kernel_rfl) (fun _ _ _ h => h) (Or.inl ⟨by rfl, ?_⟩) hHeld ?_
  rotate_left
  · intro w hSw
    (try dsimp only at hSw)
    go_simp
    try with_reducible rfl
  (try simp only [Act.put]); (try simp only [List.setIfInBounds_toArray]); (try simp only [List.getElem_toArray]); (repeat (first | simp only [List.getElem_cons_succ] | simp only [List.getElem_cons_zero])); (repeat (first | simp only [List.set_cons_succ] | simp only [List.set_cons_zero]))
  refine wpAnyH_take (i := 8) (v := ?_) rfl (by kernel_rfl) (by kernel_rfl) (by kernel_rfl) (fun _ _ _ h => h) (Or.inl ⟨by rfl, ?_⟩) hHeld ?_
  rotate_left
  · intro w hSw
    (try dsimp only at hSw)
    go_simp
    try with_reducible rfl
  (try simp only [Act.put]); (try simp only [List.setIfInBounds_toArray]); (try simp only [List.getElem_toArray]); (repeat (first | simp only [List.getElem_cons_succ] | simp only [List.getElem_cons_zero])); (repeat (first | simp only [List.set_cons_succ] | simp only [List.set_cons_zero]))
  refine wpAnyH_done (by kernel_rfl) ?_ _
  go_simp
  go_wp2_with fail
  go_ret
  exact ⟨by first | rfl | simp, below_chain HS1.out.bel HE6.out⟩
end Go.Proofs.YtjodechhnobkhaaGreatDoor
