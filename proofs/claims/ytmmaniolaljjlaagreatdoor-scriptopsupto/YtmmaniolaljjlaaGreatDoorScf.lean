/- How a handle is written. (mkScf.py) -/
import Derived.Test.YtmmaniolaljjlaaGreatDoorSce
import Derived.Test.YtmmaniolaljjlaaGreatDoorScu
namespace Go.Proofs.YtmmaniolaljjlaaGreatDoor
open Go.RowKit Go.Shelf
set_option linter.unusedVariables false

def hText (hnd : Nat) (set : Bool) (rt ri : Int) : List UInt8 := if set then [64] ++ Lib.itoa rt ++ [46] ++ Lib.itoa ri else Lib.decDigits hnd
theorem itoa_len {n : Int} (h : isI n) : (Lib.itoa n).length ≤ 21 := Lib.itoa_length_le n h.1 (by have := h.2; omega)
theorem dec_len {u : Nat} (h : isU u) : (Lib.decDigits u).length ≤ 21 := by
  have := Lib.itoa_nonneg u
  by_cases q : u < 9223372036854775808
  · rw [← this]
    exact itoa_len ⟨by omega, by omega⟩
  · have h20 : ∀ d m : Nat, m < 10 ^ d → 0 < d → (Lib.decDigits m).length ≤ d := by
      intro d
      induction d with
      | zero => intro m _ h; omega
      | succ d ih =>
        intro m hm _
        unfold Lib.decDigits
        split
        · simp
        · rw [List.length_append]
          have hp : 10 ^ (d + 1) = 10 ^ d * 10 := Nat.pow_succ _ _
          have := ih (m / 10) (by omega) (by
            rcases Nat.eq_zero_or_pos d with rfl | h
            · omega
            · exact h)
          simp
          omega
    have := h20 20 u (by unfold isU at h; omega) (by omega)
    omega
set_option maxRecDepth 100000 in
set_option maxHeartbeats 2000000 in
theorem ph_any (k key val old hnd : Nat) (set : Bool) (rt ri : Int) (vk : Value) (lo hi : Nat) (hu : isU hnd) (ha : isI rt) (hb : isI ri) (W : World) (T : Tb W) :
    Calls Tryz.prog 70 #[.agg (opR k key val old hnd set rt ri vk lo hi)] W fun e W' => e = .returned (.string (mkS (hText hnd set rt ri))) ∧ Below W.heap.size W W' := by
  obtain ⟨w1, hw1⟩ : ∃ w1, w1 = W.alloc (.cells (opR k key val old hnd set rt ri vk lo hi) 28) := ⟨_, rfl⟩
  obtain ⟨P, hP⟩ : ∃ P, P = W.heap.size := ⟨_, rfl⟩
  have B1 : Below W.heap.size W w1 := by rw [hw1]; exact below_alloc _ _
  have X1 : w1.heap[P]? = some (.cells (opR k key val old hnd set rt ri vk lo hi) 28 (0, 0)) := by rw [hw1, hP]; exact heap_alloc_new _ _
  have c4 : w1.cell? ⟨P, 4, none⟩ = _ := cell_of X1 4
  have c5 : w1.cell? ⟨P, 5, none⟩ = _ := cell_of X1 5
  have HC6 : Hid (w1.cell? ⟨P, 6, none⟩ = some (.int .i64 rt)) := keepH (cell_of X1 6)
  have HC7 : Hid (w1.cell? ⟨P, 7, none⟩ = some (.int .i64 ri)) := keepH (cell_of X1 7)
  have hi1 := fun w (h : Below w1.heap.size w1 w) => itoa_any rt ha.1 ha.2 w ((T.on B1).on h)
  have hi2 := fun w (h : Below w1.heap.size w1 w) => itoa_any ri hb.1 hb.2 w ((T.on B1).on h)
  have hde := dec_any hnd hu w1 (T.on B1)
  have HW1 := keepH hw1
  have HP := keepH hP
  have HB1 := keepH B1
  cases set with
  | false =>
    obtain ⟨s, hs⟩ : ∃ s, s = mkS (hText hnd false rt ri) := ⟨_, rfl⟩
    have e : mkS (Lib.decDigits hnd) = s := hs.symm
    rw [e] at hde
    rw [← hs]
    clear hs e hw1 hP B1 X1 hi1 hi2 hu ha hb T
    go_enter Tryz.func70, Tryz.ntmps70
    go_upto_region 1 with fail
    rw [← HW1.out, ← HP.out]
    go_wp2_with fail
    refine hde.mono ?_
    rintro e w2 ⟨rfl, D2⟩
    have E2 := below_chain HB1.out D2
    clear D2
    go_wp2_with fail
    go_ret
    exact ⟨by simp, E2⟩
  | true =>
    obtain ⟨s1, hs1⟩ : ∃ s, s = mkS (Lib.itoa rt) := ⟨_, rfl⟩
    obtain ⟨s2, hs2⟩ : ∃ s, s = mkS (Lib.itoa ri) := ⟨_, rfl⟩
    rw [← hs1] at hi1
    rw [← hs2] at hi2
    have l1 := itoa_len ha
    have l2 := itoa_len hb
    have k1 := add_str [64] (Lib.itoa rt) (by simp only [List.length_cons, List.length_nil]; omega)
    have k2 := add_str ([64] ++ Lib.itoa rt) [46] (by simp only [List.length_append, List.length_cons, List.length_nil]; omega)
    have k3 := add_str ([64] ++ Lib.itoa rt ++ [46]) (Lib.itoa ri) (by simp only [List.length_append, List.length_cons, List.length_nil]; omega)
    rw [show mkS [64] = ⟨#[64]⟩ from rfl, ← hs1] at k1
    rw [show mkS [46] = ⟨#[46]⟩ from rfl] at k2
    rw [← hs2] at k3
    obtain ⟨g1, hg1⟩ : ∃ g, g = mkS ([64] ++ Lib.itoa rt) := ⟨_, rfl⟩
    obtain ⟨g2, hg2⟩ : ∃ g, g = mkS ([64] ++ Lib.itoa rt ++ [46]) := ⟨_, rfl⟩
    obtain ⟨g3, hg3⟩ : ∃ g, g = mkS ([64] ++ Lib.itoa rt ++ [46] ++ Lib.itoa ri) := ⟨_, rfl⟩
    rw [← hg1] at k1 k2
    rw [← hg2] at k2 k3
    rw [← hg3] at k3
    have hs : mkS (hText hnd true rt ri) = g3 := hg3.symm
    rw [hs]
    clear hg1 hg2 hg3 l1 l2
    have HI1 := keepH hi1
    have HI2 := keepH hi2
    clear hs hs1 hs2 hw1 hP B1 X1 hi1 hi2 hde hu ha hb T
    go_enter Tryz.func70, Tryz.ntmps70
    go_upto_region 1 with fail
    rw [← HW1.out, ← HP.out]
    go_upto_region 2 with fail
    clear c4 c5
    refine wp_region_held_drew (S := fun w => Below w1.heap.size w1 w) (by kernel_rfl) (below_drewN (Below.refl _ _) 1) ?_
    intro hHeld
    refine wpAnyH_take (i := 0) (v := ?_) rfl (by kernel_rfl) (by kernel_rfl) (by kernel_rfl) (fun _ _ _ h => h) (Or.inl ⟨by rfl, ?_⟩) hHeld ?_
    rotate_left
    · intro w hSw
      (try dsimp only at hSw)
      go_simp
      try with_reducible rfl
    (try simp only [Act.put]); (try simp only [List.setIfInBounds_toArray]); (try simp only [List.getElem_toArray]); (repeat (first | simp only [List.getElem_cons_succ] | simp only [List.getElem_cons_zero])); (repeat (first | simp only [List.set_cons_succ] | simp only [List.set_cons_zero]))
    refine wpAnyH_take (i := 1) (v := ?_) rfl (by kernel_rfl) (by kernel_rfl) (by kernel_rfl) (fun _ _ _ h => h) (Or.inl ⟨by rfl, ?_⟩) hHeld ?_
    rotate_left
    · intro w hSw
      (try dsimp only at hSw)
      go_simp
      try with_reducible rfl
    (try simp only [Act.put]); (try simp only [List.setIfInBounds_toArray]); (try simp only [List.getElem_toArray]); (repeat (first | simp only [List.getElem_cons_succ] | simp only [List.getElem_cons_zero])); (repeat (first | simp only [List.set_cons_succ] | simp only [List.set_cons_zero]))
    refine wpAnyH_take (i := 2) (v := ?_) rfl (by kernel_rfl) (by kernel_rfl) (by kernel_rfl) (fun _ _ _ h => h) (Or.inl ⟨by rfl, ?_⟩) hHeld ?_
    rotate_left
    · intro w hSw
      (try dsimp only at hSw)
      have y6 := cell_below HC6.out hSw
      go_simp
      try with_reducible rfl
    (try simp only [Act.put]); (try simp only [List.setIfInBounds_toArray]); (try simp only [List.getElem_toArray]); (repeat (first | simp only [List.getElem_cons_succ] | simp only [List.getElem_cons_zero])); (repeat (first | simp only [List.set_cons_succ] | simp only [List.set_cons_zero]))
    refine wpAnyH_take (i := 6) (v := ?_) rfl (by kernel_rfl) (by kernel_rfl) (by kernel_rfl) (fun _ _ _ h => h) (Or.inl ⟨by rfl, ?_⟩) hHeld ?_
    rotate_left
    · intro w hSw
      (try dsimp only at hSw)
      go_simp
      try with_reducible rfl
    (try simp only [Act.put]); (try simp only [List.setIfInBounds_toArray]); (try simp only [List.getElem_toArray]); (repeat (first | simp only [List.getElem_cons_succ] | simp only [List.getElem_cons_zero])); (repeat (first | simp only [List.set_cons_succ] | simp only [List.set_cons_zero]))
    refine wpAnyH_take (i := 7) (v := ?_) rfl (by kernel_rfl) (by kernel_rfl) (by kernel_rfl) (fun _ _ _ h => h) (Or.inl ⟨by rfl, ?_⟩) hHeld ?_
    rotate_left
    · intro w hSw
      (try dsimp only at hSw)
      go_simp
      try with_reducible rfl
    (try simp only [Act.put]); (try simp only [List.setIfInBounds_toArray]); (try simp only [List.getElem_toArray]); (repeat (first | simp only [List.getElem_cons_succ] | simp only [List.getElem_cons_zero])); (repeat (first | simp only [List.set_cons_succ] | simp only [List.set_cons_zero]))
    refine wpAnyH_take (i := 8) (v := ?_) rfl (by kernel_rfl) (by kernel_rfl) (by kernel_rfl) (fun _ _ _ h => h) (Or.inl ⟨by rfl, ?_⟩) hHeld ?_
    rotate_left
    · intro w hSw
      (try dsimp only at hSw)
      have y7 := cell_below HC7.out hSw
      go_simp
      try with_reducible rfl
    (try simp only [Act.put]); (try simp only [List.setIfInBounds_toArray]); (try simp only [List.getElem_toArray]); (repeat (first | simp only [List.getElem_cons_succ] | simp only [List.getElem_cons_zero])); (repeat (first | simp only [List.set_cons_succ] | simp only [List.set_cons_zero]))
    refine wpAnyH_ready (rs := [3]) (by kernel_rfl) (by simp) ?_
    refine AllReadyH.cons rfl (fun KK hKK => ?_) AllReadyH.nil
    go_simp
    refine (HI1.out _ hHeld).mono ?_
    rintro e w2 ⟨rfl, D2⟩
    have E2 := below_chain hHeld D2
    clear D2
    refine hKK.out _ _ ?_ (fun hHeld => ?_)
    · exact E2
    clear hKK KK
    (try simp only [Act.put]); (try simp only [List.setIfInBounds_toArray]); (try simp only [List.getElem_toArray]); (repeat (first | simp only [List.getElem_cons_succ] | simp only [List.getElem_cons_zero])); (repeat (first | simp only [List.set_cons_succ] | simp only [List.set_cons_zero]))
    refine wpAnyH_take (i := 4) (v := ?_) rfl (by kernel_rfl) (by kernel_rfl) (by kernel_rfl) (fun _ _ _ h => h) (Or.inl ⟨by rfl, ?_⟩) hHeld ?_
    rotate_left
    · intro w hSw
      (try dsimp only at hSw)
      go_simp
      try with_reducible rfl
    (try simp only [Act.put]); (try simp only [List.setIfInBounds_toArray]); (try simp only [List.getElem_toArray]); (repeat (first | simp only [List.getElem_cons_succ] | simp only [List.getElem_cons_zero])); (repeat (first | simp only [List.set_cons_succ] | simp only [List.set_cons_zero]))
    refine wpAnyH_take (i := 5) (v := ?_) rfl (by kernel_rfl) (by kernel_rfl) (by kernel_rfl) (fun _ _ _ h => h) (Or.inl ⟨by rfl, ?_⟩) hHeld ?_
    rotate_left
    · intro w hSw
      (try dsimp only at hSw)
      go_simp
      try with_reducible rfl
    (try simp only [Act.put]); (try simp only [List.setIfInBounds_toArray]); (try simp only [List.getElem_toArray]); (repeat (first | simp only [List.getElem_cons_succ] | simp only [List.getElem_cons_zero])); (repeat (first | simp only [List.set_cons_succ] | simp only [List.set_cons_zero]))
    refine wpAnyH_ready (rs := [9]) (by kernel_rfl) (by simp) ?_
    refine AllReadyH.cons rfl (fun KK hKK => ?_) AllReadyH.nil
    go_simp
    refine (HI2.out _ hHeld).mono ?_
    rintro e w3 ⟨rfl, D3⟩
    have E3 := below_chain hHeld D3
    have HE3 := keepH E3
    clear D3
    refine hKK.out _ _ ?_ (fun hHeld => ?_)
    · exact E3
    clear hKK KK
    (try simp only [Act.put]); (try simp only [List.setIfInBounds_toArray]); (try simp only [List.getElem_toArray]); (repeat (first | simp only [List.getElem_cons_succ] | simp only [List.getElem_cons_zero])); (repeat (first | simp only [List.set_cons_succ] | simp only [List.set_cons_zero]))
    refine wpAnyH_take (i := 10) (v := ?_) rfl (by kernel_rfl) (by kernel_rfl) (by kernel_rfl) (fun _ _ _ h => h) (Or.inl ⟨by rfl, ?_⟩) hHeld ?_
    rotate_left
    · intro w hSw
      (try dsimp only at hSw)
      go_simp
      try with_reducible rfl
    (try simp only [Act.put]); (try simp only [List.setIfInBounds_toArray]); (try simp only [List.getElem_toArray]); (repeat (first | simp only [List.getElem_cons_succ] | simp only [List.getElem_cons_zero])); (repeat (first | simp only [List.set_cons_succ] | simp only [List.set_cons_zero]))
    refine wpAnyH_take (i := 11) (v := ?_) rfl (by kernel_rfl) (by kernel_rfl) (by kernel_rfl) (fun _ _ _ h => h) (Or.inl ⟨by rfl, ?_⟩) hHeld ?_
    rotate_left
    · intro w hSw
      (try dsimp only at hSw)
      go_simp
      try with_reducible rfl
    (try simp only [Act.put]); (try simp only [List.setIfInBounds_toArray]); (try simp only [List.getElem_toArray]); (repeat (first | simp only [List.getElem_cons_succ] | simp only [List.getElem_cons_zero])); (repeat (first | simp only [List.set_cons_succ] | simp only [List.set_cons_zero]))
    refine wpAnyH_done (by kernel_rfl) ?_ _
    go_simp
    go_wp2_with fail
    go_ret
    exact ⟨by simp, below_chain HB1.out HE3.out⟩
end Go.Proofs.YtmmaniolaljjlaaGreatDoor
