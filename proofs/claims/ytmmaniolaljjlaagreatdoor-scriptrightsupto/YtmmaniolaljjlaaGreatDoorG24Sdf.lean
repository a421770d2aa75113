/- The pairs of an answer as a line, by the document; all answers. (mkSde.py) -/
import Derived.Test.YtmmaniolaljjlaaGreatDoorG23Sdd
namespace Go.Proofs.YtmmaniolaljjlaaGreatDoor
open Go.RowKit Go.Shelf
set_option linter.unusedVariables false

def flatP (l : List (Nat × Nat)) : List UInt8 := (l.map (fun p => 32 :: prT p)).flatten
theorem join_flat2 : ∀ (a : List UInt8) (fs : List (List UInt8)), Lib.join (a :: fs) [32] = a ++ (fs.map (fun f => 32 :: f)).flatten
  | a, [] => by simp [Lib.join_one]
  | a, b :: r => by rw [join_cc, join_flat2 b r]; simp
theorem prsT_flat (l : List (Nat × Nat)) : prsT l = [112, 97, 105, 114, 115] ++ flatP l := by
  unfold prsT flatP
  rw [join_flat2, List.map_map]
  rfl
theorem flatP_next {l : List (Nat × Nat)} {i x y : Nat} (h : l[i]? = some (x, y)) : flatP (l.take (i + 1)) = flatP (l.take i) ++ ([32] ++ Lib.decDigits x ++ [58] ++ Lib.decDigits y) := by
  unfold flatP
  rw [List.take_add_one, h]
  simp [prT]
theorem flatP_len (l : List (Nat × Nat)) (h : ∀ q ∈ l, isU q.1 ∧ isU q.2) : (flatP l).length ≤ 44 * l.length := by
  induction l with
  | nil => simp [flatP]
  | cons a r ih =>
    have h0 := h a (by simp)
    have h1 := ih (fun u hu => h u (by simp [hu]))
    have l1 := dec_len h0.1
    have l2 := dec_len h0.2
    unfold flatP prT at h1 ⊢
    simp only [List.map_cons, List.flatten_cons, List.length_append, List.length_cons, List.length_nil] at h1 ⊢
    omega
set_option maxRecDepth 100000 in
set_option maxHeartbeats 8000000 in
theorem da_prs7 (f : Bool) (v : Nat) (dn : Bool) (h : Nat) (pp : Option Addr) (l : List (Nat × Nat)) (pc ct : Nat) (hl : l.length ≤ 10000000) (hu : ∀ q ∈ l, isU q.1 ∧ isU q.2) (W : World) (T : Tb W) (hR : PRd W pp l) :
    Calls Tryz.prog 14 #[.int .u8 7, .agg (ansR 0 f v dn h pp l.length pc ct)] W fun e W' => e = .returned (.string (mkS (prsT l))) ∧ Below W.heap.size W W' := by
  have HDN := keepH (fun u (hu : isU u) w (hb : Below W.heap.size W w) => dNum_any u hu w (T.on hb))
  have HU := keepH hu
  have HFIN := keepH (prsT_flat l)
  obtain ⟨m, hm⟩ : ∃ m, m = l.length := ⟨_, rfl⟩
  have HM := keepH hm
  rw [← hm] at hl ⊢
  obtain ⟨w1, hw1⟩ : ∃ w1, w1 = W.alloc (.cells (ansR 0 f v dn h pp m pc ct) 32) := ⟨_, rfl⟩
  obtain ⟨P, hP⟩ : ∃ P, P = W.heap.size := ⟨_, rfl⟩
  have B1 : Below W.heap.size W w1 := by rw [hw1]; exact below_alloc _ _
  have X1 : w1.heap[P]? = some (.cells (ansR 0 f v dn h pp m pc ct) 32 (0, 0)) := by rw [hw1, hP]; exact heap_alloc_new _ _
  have HW1 := keepH hw1
  have HP := keepH hP
  have HB1 := keepH B1
  have HX1 := keepH X1
  have HR := keepH (hR.on B1)
  have c0 : w1.cell? ⟨P, 0, none⟩ = _ := cell_of X1 0
  clear hw1 hP B1 X1 hu hR T hm
  go_enter Tryz.func14, Tryz.ntmps14
  go_upto_region 1 with fail
  rw [← HW1.out, ← HP.out]
  go_wp2_with fail
  clear c0
  go_loopw [6, 7] (fun s6 s7 wr => ∃ i : Nat, i ≤ m ∧ s7 = .int .i64 (i : Int) ∧ s6 = .string (mkS ([112, 97, 105, 114, 115] ++ flatP (l.take i))) ∧ Hid (Below w1.heap.size w1 wr)) (fun _ s7 _ => m - (intOf s7).toNat)
  case atStart => exact ⟨0, by omega, rfl, rfl, keepH (Below.refl _ _)⟩
  case round =>
    obtain ⟨i, him, rfl, rfl, HRR⟩ := hrel
    have p5 : wr.cell? ⟨P, 5, none⟩ = some (.slice pp m pc) := cell_of (heap_below HX1.out HRR.out) 5
    have HP5 := keepH p5
    by_cases hlt : i < m
    · have t1 : (i : Int) < (m : Int) := by omega
      have t0 : (0 : Int) ≤ (i : Int) := by omega
      obtain ⟨⟨x, y⟩, hx⟩ : ∃ q, l[i]? = some q := ⟨l[i]'(by have := HM.out; omega), List.getElem?_eq_getElem _⟩
      obtain ⟨bk, off, rfl, hbk, c0, c1⟩ := (HR.out.on HRR.out).get i x y hx
      obtain ⟨hux, huy⟩ := HU.out (x, y) (List.mem_of_getElem? hx)
      simp only at hux huy
      have HC0 := keepH c0
      have HC1 := keepH c1
      have HBW := keepH (below_chain HB1.out HRR.out)
      have HD1 := keepH (fun w (hb : Below W.heap.size W w) => HDN.out x hux w hb)
      have HD2 := keepH (fun w (hb : Below W.heap.size W w) => HDN.out y huy w hb)
      have lx := dec_len hux
      have ly := dec_len huy
      have lf := flatP_len (l.take i) (fun q hq => HU.out q (List.mem_of_mem_take hq))
      have lt : (l.take i).length ≤ i := by simp; omega
      have k1 := add_str [32] (Lib.decDigits x) (by simp; omega)
      have k2 := add_str ([32] ++ Lib.decDigits x) [58] (by simp; omega)
      have k3 := add_str ([32] ++ Lib.decDigits x ++ [58]) (Lib.decDigits y) (by simp; omega)
      have k4 := add_str ([112, 97, 105, 114, 115] ++ flatP (l.take i)) ([32] ++ Lib.decDigits x ++ [58] ++ Lib.decDigits y) (by simp; omega)
      rw [show mkS [32] = ⟨#[32]⟩ from rfl] at k1
      rw [show mkS [58] = ⟨#[58]⟩ from rfl] at k2
      have hnx : mkS ([112, 97, 105, 114, 115] ++ flatP (l.take i) ++ ([32] ++ Lib.decDigits x ++ [58] ++ Lib.decDigits y)) = mkS ([112, 97, 105, 114, 115] ++ flatP (l.take (i + 1))) := by rw [flatP_next hx]; simp
      rw [hnx] at k4
      obtain ⟨sx, hsx⟩ : ∃ s, s = mkS (Lib.decDigits x) := ⟨_, rfl⟩
      obtain ⟨sy, hsy⟩ : ∃ s, s = mkS (Lib.decDigits y) := ⟨_, rfl⟩
      obtain ⟨g1, hg1⟩ : ∃ s, s = mkS ([32] ++ Lib.decDigits x) := ⟨_, rfl⟩
      obtain ⟨g2, hg2⟩ : ∃ s, s = mkS ([32] ++ Lib.decDigits x ++ [58]) := ⟨_, rfl⟩
      obtain ⟨g3, hg3⟩ : ∃ s, s = mkS ([32] ++ Lib.decDigits x ++ [58] ++ Lib.decDigits y) := ⟨_, rfl⟩
      obtain ⟨g4, hg4⟩ : ∃ s, s = mkS ([112, 97, 105, 114, 115] ++ flatP (l.take i)) := ⟨_, rfl⟩
      obtain ⟨g5, hg5⟩ : ∃ s, s = mkS ([112, 97, 105, 114, 115] ++ flatP (l.take (i + 1))) := ⟨_, rfl⟩
      rw [← hsx, ← hg1] at k1
      rw [← hg1, ← hg2] at k2
      rw [← hg2, ← hsy, ← hg3] at k3
      rw [← hg4, ← hg3, ← hg5] at k4
      rw [← hsx] at HD1
      rw [← hsy] at HD2
      rw [← hg4]
      have HG5 := keepH hg5
      clear hx hux huy lx ly lf lt hnx hsx hsy hg1 hg2 hg3 hg4 hg5 c0 c1
      go_upto_region 23 with fail
      clear p5
      refine wp_region_held_drew (S := fun w => Below wr.heap.size wr w) (by kernel_rfl) (below_drewN (Below.refl _ _) 1) ?_
      intro hHeld
      refine wpAnyH_take (i := 0) (v := ?_) rfl (by kernel_rfl) (by kernel_rfl) (by kernel_rfl) (fun _ _ _ h => h) (Or.inl ⟨by rfl, ?_⟩) hHeld ?_
      rotate_left
      · intro w hSw
        (try dsimp only at hSw)
        go_simp
        try with_reducible rfl
      (try simp only [Act.put]); (try simp only [List.setIfInBounds_toArray]); (try simp only [List.getElem_toArray]); (repeat (first | simp only [List.getElem_cons_succ] | simp only [List.getElem_cons_zero])); (repeat (first | simp only [List.set_cons_succ] | simp only [List.set_cons_zero]))
      refine wpAnyH_take (i := 1) (v := ?_) rfl (by kernel_rfl) (by kernel_rfl) (by kernel_rfl) (fun _ _ _ h => h) (Or.inl ⟨by rfl, ?_⟩) hHeld ?_
      rotate_left
      · intro w hSw
        (try dsimp only at hSw)
        go_simp
        try with_reducible rfl
      (try simp only [Act.put]); (try simp only [List.setIfInBounds_toArray]); (try simp only [List.getElem_toArray]); (repeat (first | simp only [List.getElem_cons_succ] | simp only [List.getElem_cons_zero])); (repeat (first | simp only [List.set_cons_succ] | simp only [List.set_cons_zero]))
      refine wpAnyH_take (i := 2) (v := ?_) rfl (by kernel_rfl) (by kernel_rfl) (by kernel_rfl) (fun _ _ _ h => h) (Or.inl ⟨by rfl, ?_⟩) hHeld ?_
      rotate_left
      · intro w hSw
        (try dsimp only at hSw)
        have y5 := cell_below HP5.out hSw
        go_simp
        try with_reducible rfl
      (try simp only [Act.put]); (try simp only [List.setIfInBounds_toArray]); (try simp only [List.getElem_toArray]); (repeat (first | simp only [List.getElem_cons_succ] | simp only [List.getElem_cons_zero])); (repeat (first | simp only [List.set_cons_succ] | simp only [List.set_cons_zero]))
      refine wpAnyH_take (i := 3) (v := ?_) rfl (by kernel_rfl) (by kernel_rfl) (by kernel_rfl) (fun _ _ _ h => h) (Or.inl ⟨by rfl, ?_⟩) hHeld ?_
      rotate_left
      · intro w hSw
        (try dsimp only at hSw)
        go_simp
        try with_reducible rfl
      (try simp only [Act.put]); (try simp only [List.setIfInBounds_toArray]); (try simp only [List.getElem_toArray]); (repeat (first | simp only [List.getElem_cons_succ] | simp only [List.getElem_cons_zero])); (repeat (first | simp only [List.set_cons_succ] | simp only [List.set_cons_zero]))
      refine wpAnyH_take (i := 4) (v := ?_) rfl (by kernel_rfl) (by kernel_rfl) (by kernel_rfl) (fun _ _ _ h => h) (Or.inl ⟨by rfl, ?_⟩) hHeld ?_
      rotate_left
      · intro w hSw
        (try dsimp only at hSw)
        go_simp
        try with_reducible rfl
      (try simp only [Act.put]); (try simp only [List.setIfInBounds_toArray]); (try simp only [List.getElem_toArray]); (repeat (first | simp only [List.getElem_cons_succ] | simp only [List.getElem_cons_zero])); (repeat (first | simp only [List.set_cons_succ] | simp only [List.set_cons_zero]))
      refine wpAnyH_take (i := 5) (v := ?_) rfl (by kernel_rfl) (by kernel_rfl) (by kernel_rfl) (fun _ _ _ h => h) (Or.inl ⟨by rfl, ?_⟩) hHeld ?_
      rotate_left
      · intro w hSw
        (try dsimp only at hSw)
        go_simp
        try with_reducible rfl
      (try simp only [Act.put]); (try simp only [List.setIfInBounds_toArray]); (try simp only [List.getElem_toArray]); (repeat (first | simp only [List.getElem_cons_succ] | simp only [List.getElem_cons_zero])); (repeat (first | simp only [List.set_cons_succ] | simp only [List.set_cons_zero]))
      refine wpAnyH_take (i := 6) (v := ?_) rfl (by kernel_rfl) (by kernel_rfl) (by kernel_rfl) (fun _ _ _ h => h) (Or.inl ⟨by rfl, ?_⟩) hHeld ?_
      rotate_left
      · intro w hSw
        (try dsimp only at hSw)
        have y0 := cell_below HC0.out hSw
        go_simp
        try with_reducible rfl
      (try simp only [Act.put]); (try simp only [List.setIfInBounds_toArray]); (try simp only [List.getElem_toArray]); (repeat (first | simp only [List.getElem_cons_succ] | simp only [List.getElem_cons_zero])); (repeat (first | simp only [List.set_cons_succ] | simp only [List.set_cons_zero]))
      refine wpAnyH_take (i := 10) (v := ?_) rfl (by kernel_rfl) (by kernel_rfl) (by kernel_rfl) (fun _ _ _ h => h) (Or.inl ⟨by rfl, ?_⟩) hHeld ?_
      rotate_left
      · intro w hSw
        (try dsimp only at hSw)
        go_simp
        try with_reducible rfl
      (try simp only [Act.put]); (try simp only [List.setIfInBounds_toArray]); (try simp only [List.getElem_toArray]); (repeat (first | simp only [List.getElem_cons_succ] | simp only [List.getElem_cons_zero])); (repeat (first | simp only [List.set_cons_succ] | simp only [List.set_cons_zero]))
      refine wpAnyH_take (i := 11) (v := ?_) rfl (by kernel_rfl) (by kernel_rfl) (by kernel_rfl) (fun _ _ _ h => h) (Or.inl ⟨by rfl, ?_⟩) hHeld ?_
      rotate_left
      · intro w hSw
        (try dsimp only at hSw)
        have y5 := cell_below HP5.out hSw
        go_simp
        try with_reducible rfl
      (try simp only [Act.put]); (try simp only [List.setIfInBounds_toArray]); (try simp only [List.getElem_toArray]); (repeat (first | simp only [List.getElem_cons_succ] | simp only [List.getElem_cons_zero])); (repeat (first | simp only [List.set_cons_succ] | simp only [List.set_cons_zero]))
      refine wpAnyH_take (i := 12) (v := ?_) rfl (by kernel_rfl) (by kernel_rfl) (by kernel_rfl) (fun _ _ _ h => h) (Or.inl ⟨by rfl, ?_⟩) hHeld ?_
      rotate_left
      · intro w hSw
        (try dsimp only at hSw)
        go_simp
        try with_reducible rfl
      (try simp only [Act.put]); (try simp only [List.setIfInBounds_toArray]); (try simp only [List.getElem_toArray]); (repeat (first | simp only [List.getElem_cons_succ] | simp only [List.getElem_cons_zero])); (repeat (first | simp only [List.set_cons_succ] | simp only [List.set_cons_zero]))
      refine wpAnyH_take (i := 13) (v := ?_) rfl (by kernel_rfl) (by kernel_rfl) (by kernel_rfl) (fun _ _ _ h => h) (Or.inl ⟨by rfl, ?_⟩) hHeld ?_
      rotate_left
      · intro w hSw
        (try dsimp only at hSw)
        go_simp
        try with_reducible rfl
      (try simp only [Act.put]); (try simp only [List.setIfInBounds_toArray]); (try simp only [List.getElem_toArray]); (repeat (first | simp only [List.getElem_cons_succ] | simp only [List.getElem_cons_zero])); (repeat (first | simp only [List.set_cons_succ] | simp only [List.set_cons_zero]))
      refine wpAnyH_take (i := 14) (v := ?_) rfl (by kernel_rfl) (by kernel_rfl) (by kernel_rfl) (fun _ _ _ h => h) (Or.inl ⟨by rfl, ?_⟩) hHeld ?_
      rotate_left
      · intro w hSw
        (try dsimp only at hSw)
        go_simp
        try with_reducible rfl
      (try simp only [Act.put]); (try simp only [List.setIfInBounds_toArray]); (try simp only [List.getElem_toArray]); (repeat (first | simp only [List.getElem_cons_succ] | simp only [List.getElem_cons_zero])); (repeat (first | simp only [List.set_cons_succ] | simp only [List.set_cons_zero]))
      refine wpAnyH_take (i := 15) (v := ?_) rfl (by kernel_rfl) (by kernel_rfl) (by kernel_rfl) (fun _ _ _ h => h) (Or.inl ⟨by rfl, ?_⟩) hHeld ?_
      rotate_left
      · intro w hSw
        (try dsimp only at hSw)
        have y1 := cell_below HC1.out hSw
        go_simp
        try with_reducible rfl
      (try simp only [Act.put]); (try simp only [List.setIfInBounds_toArray]); (try simp only [List.getElem_toArray]); (repeat (first | simp only [List.getElem_cons_succ] | simp only [List.getElem_cons_zero])); (repeat (first | simp only [List.set_cons_succ] | simp only [List.set_cons_zero]))
      refine wpAnyH_ready (rs := [7]) (by kernel_rfl) (by simp) ?_
      refine AllReadyH.cons rfl (fun KK hKK => ?_) AllReadyH.nil
      go_simp
      refine (HD1.out _ (below_chain HBW.out hHeld)).mono ?_
      rintro e v1 ⟨rfl, D1⟩
      have E1 := below_chain hHeld D1
      clear D1
      refine hKK.out _ _ ?_ (fun hHeld => ?_)
      · exact E1
      clear hKK KK
      (try simp only [Act.put]); (try simp only [List.setIfInBounds_toArray]); (try simp only [List.getElem_toArray]); (repeat (first | simp only [List.getElem_cons_succ] | simp only [List.getElem_cons_zero])); (repeat (first | simp only [List.set_cons_succ] | simp only [List.set_cons_zero]))
      refine wpAnyH_take (i := 8) (v := ?_) rfl (by kernel_rfl) (by kernel_rfl) (by kernel_rfl) (fun _ _ _ h => h) (Or.inl ⟨by rfl, ?_⟩) hHeld ?_
      rotate_left
      · intro w hSw
        (try dsimp only at hSw)
        go_simp
        try with_reducible rfl
      (try simp only [Act.put]); (try simp only [List.setIfInBounds_toArray]); (try simp only [List.getElem_toArray]); (repeat (first | simp only [List.getElem_cons_succ] | simp only [List.getElem_cons_zero])); (repeat (first | simp only [List.set_cons_succ] | simp only [List.set_cons_zero]))
      refine wpAnyH_take (i := 9) (v := ?_) rfl (by kernel_rfl) (by kernel_rfl) (by kernel_rfl) (fun _ _ _ h => h) (Or.inl ⟨by rfl, ?_⟩) hHeld ?_
      rotate_left
      · intro w hSw
        (try dsimp only at hSw)
        go_simp
        try with_reducible rfl
      (try simp only [Act.put]); (try simp only [List.setIfInBounds_toArray]); (try simp only [List.getElem_toArray]); (repeat (first | simp only [List.getElem_cons_succ] | simp only [List.getElem_cons_zero])); (repeat (first | simp only [List.set_cons_succ] | simp only [List.set_cons_zero]))
      refine wpAnyH_ready (rs := [16]) (by kernel_rfl) (by simp) ?_
      refine AllReadyH.cons rfl (fun KK hKK => ?_) AllReadyH.nil
      go_simp
      refine (HD2.out _ (below_chain HBW.out hHeld)).mono ?_
      rintro e v2 ⟨rfl, D2⟩
      have E2 := below_chain hHeld D2
      have HE2 := keepH E2
      clear D2
      refine hKK.out _ _ ?_ (fun hHeld => ?_)
      · exact E2
      clear hKK KK
      (try simp only [Act.put]); (try simp only [List.setIfInBounds_toArray]); (try simp only [List.getElem_toArray]); (repeat (first | simp only [List.getElem_cons_succ] | simp only [List.getElem_cons_zero])); (repeat (first | simp only [List.set_cons_succ] | simp only [List.set_cons_zero]))
      refine wpAnyH_take (i := 17) (v := ?_) rfl (by kernel_rfl) (by kernel_rfl) (by kernel_rfl) (fun _ _ _ h => h) (Or.inl ⟨by rfl, ?_⟩) hHeld ?_
      rotate_left
      · intro w hSw
        (try dsimp only at hSw)
        go_simp
        try with_reducible rfl
      (try simp only [Act.put]); (try simp only [List.setIfInBounds_toArray]); (try simp only [List.getElem_toArray]); (repeat (first | simp only [List.getElem_cons_succ] | simp only [List.getElem_cons_zero])); (repeat (first | simp only [List.set_cons_succ] | simp only [List.set_cons_zero]))
      refine wpAnyH_take (i := 18) (v := ?_) rfl (by kernel_rfl) (by kernel_rfl) (by kernel_rfl) (fun _ _ _ h => h) (Or.inl ⟨by rfl, ?_⟩) hHeld ?_
      rotate_left
      · intro w hSw
        (try dsimp only at hSw)
        go_simp
        try with_reducible rfl
      (try simp only [Act.put]); (try simp only [List.setIfInBounds_toArray]); (try simp only [List.getElem_toArray]); (repeat (first | simp only [List.getElem_cons_succ] | simp only [List.getElem_cons_zero])); (repeat (first | simp only [List.set_cons_succ] | simp only [List.set_cons_zero]))
      refine wpAnyH_take (i := 19) (v := ?_) rfl (by kernel_rfl) (by kernel_rfl) (by kernel_rfl) (fun _ _ _ h => h) (Or.inl ⟨by rfl, ?_⟩) hHeld ?_
      rotate_left
      · intro w hSw
        (try dsimp only at hSw)
        go_simp
        try with_reducible rfl
      (try simp only [Act.put]); (try simp only [List.setIfInBounds_toArray]); (try simp only [List.getElem_toArray]); (repeat (first | simp only [List.getElem_cons_succ] | simp only [List.getElem_cons_zero])); (repeat (first | simp only [List.set_cons_succ] | simp only [List.set_cons_zero]))
      refine wpAnyH_done (by kernel_rfl) ?_ _
      go_simp
      have HRZ := keepH (below_chain HRR.out HE2.out)
      go_wp2_with fail
      go_roundw
      case rel => exact ⟨i + 1, by omega, by first | rfl | go_num, by rw [HG5.out], HRZ⟩
      case measure => simp [intOf]; omega
    · obtain rfl : i = m := by omega
      have t1 : ¬ (i : Int) < (i : Int) := by omega
      have HTT : Hid (mkS ([112, 97, 105, 114, 115] ++ flatP (l.take i)) = mkS (prsT l)) := keepH (by rw [HFIN.out, HM.out, List.take_length])
      rw [HTT.out]
      obtain ⟨tt, htt⟩ : ∃ s, s = mkS (prsT l) := ⟨_, rfl⟩
      rw [← htt]
      have HT2 := keepH htt
      clear htt HTT
      go_wp2_with fail
      go_ret
      exact ⟨by rw [← HT2.out]; simp, below_chain HB1.out HRR.out⟩
set_option maxRecDepth 100000 in
set_option maxHeartbeats 4000000 in
theorem pa_prs7 (f : Bool) (v : Nat) (dn : Bool) (h : Nat) (pp : Option Addr) (l : List (Nat × Nat)) (pc ct : Nat) (hl : l.length ≤ 10000000) (hu : ∀ q ∈ l, isU q.1 ∧ isU q.2) (W : World) (T : Tb W) (hR : PRd W pp l) :
    Calls Tryz.prog 13 #[.int .u8 7, .agg (ansR 0 f v dn h pp l.length pc ct)] W fun e W' => e = .returned (.string (mkS (prsT l))) ∧ Below W.heap.size W W' := by
  have HD := keepH (fun w (hb : Below W.heap.size W w) => pairs_any pp pc l hl hu w (T.on hb) (hR.on hb))
  obtain ⟨m, hm⟩ : ∃ m, m = l.length := ⟨_, rfl⟩
  rw [← hm] at HD ⊢
  obtain ⟨g, hg⟩ : ∃ g, g = mkS (prsT l) := ⟨_, rfl⟩
  rw [← hg] at HD ⊢
  obtain ⟨w1, hw1⟩ : ∃ w1, w1 = W.alloc (.cells (ansR 0 f v dn h pp m pc ct) 32) := ⟨_, rfl⟩
  obtain ⟨P, hP⟩ : ∃ P, P = W.heap.size := ⟨_, rfl⟩
  have B1 : Below W.heap.size W w1 := by rw [hw1]; exact below_alloc _ _
  have X1 : w1.heap[P]? = some (.cells (ansR 0 f v dn h pp m pc ct) 32 (0, 0)) := by rw [hw1, hP]; exact heap_alloc_new _ _
  have HW1 := keepH hw1
  have HP := keepH hP
  have HB1 := keepH B1
  have c0 : w1.cell? ⟨P, 0, none⟩ = _ := cell_of X1 0
  have c5 : w1.cell? ⟨P, 5, none⟩ = _ := cell_of X1 5
  clear hw1 hP B1 X1 hu hR T hm hg hl
  go_enter Tryz.func13, Tryz.ntmps13
  go_upto_region 1 with fail
  rw [← HW1.out, ← HP.out]
  go_wp2_with fail
  refine (HD.out w1 HB1.out).mono ?_
  rintro e' w2 ⟨rfl, B2⟩
  have HB2 := keepH (below_chain HB1.out B2)
  clear B2 c0 c5
  go_wp2_with fail
  go_ret
  exact ⟨by simp, HB2.out⟩
set_option maxRecDepth 100000 in
set_option maxHeartbeats 8000000 in
theorem da_prs8 (f : Bool) (v : Nat) (dn : Bool) (h : Nat) (pp : Option Addr) (l : List (Nat × Nat)) (pc ct : Nat) (hl : l.length ≤ 10000000) (hu : ∀ q ∈ l, isU q.1 ∧ isU q.2) (W : World) (T : Tb W) (hR : PRd W pp l) :
    Calls Tryz.prog 14 #[.int .u8 8, .agg (ansR 0 f v dn h pp l.length pc ct)] W fun e W' => e = .returned (.string (mkS (prsT l))) ∧ Below W.heap.size W W' := by
  have HDN := keepH (fun u (hu : isU u) w (hb : Below W.heap.size W w) => dNum_any u hu w (T.on hb))
  have HU := keepH hu
  have HFIN := keepH (prsT_flat l)
  obtain ⟨m, hm⟩ : ∃ m, m = l.length := ⟨_, rfl⟩
  have HM := keepH hm
  rw [← hm] at hl ⊢
  obtain ⟨w1, hw1⟩ : ∃ w1, w1 = W.alloc (.cells (ansR 0 f v dn h pp m pc ct) 32) := ⟨_, rfl⟩
  obtain ⟨P, hP⟩ : ∃ P, P = W.heap.size := ⟨_, rfl⟩
  have B1 : Below W.heap.size W w1 := by rw [hw1]; exact below_alloc _ _
  have X1 : w1.heap[P]? = some (.cells (ansR 0 f v dn h pp m pc ct) 32 (0, 0)) := by rw [hw1, hP]; exact heap_alloc_new _ _
  have HW1 := keepH hw1
  have HP := keepH hP
  have HB1 := keepH B1
  have HX1 := keepH X1
  have HR := keepH (hR.on B1)
  have c0 : w1.cell? ⟨P, 0, none⟩ = _ := cell_of X1 0
  clear hw1 hP B1 X1 hu hR T hm
  go_enter Tryz.func14, Tryz.ntmps14
  go_upto_region 1 with fail
  rw [← HW1.out, ← HP.out]
  go_wp2_with fail
  clear c0
  go_loopw [6, 7] (fun s6 s7 wr => ∃ i : Nat, i ≤ m ∧ s7 = .int .i64 (i : Int) ∧ s6 = .string (mkS ([112, 97, 105, 114, 115] ++ flatP (l.take i))) ∧ Hid (Below w1.heap.size w1 wr)) (fun _ s7 _ => m - (intOf s7).toNat)
  case atStart => exact ⟨0, by omega, rfl, rfl, keepH (Below.refl _ _)⟩
  case round =>
    obtain ⟨i, him, rfl, rfl, HRR⟩ := hrel
    have p5 : wr.cell? ⟨P, 5, none⟩ = some (.slice pp m pc) := cell_of (heap_below HX1.out HRR.out) 5
    have HP5 := keepH p5
    by_cases hlt : i < m
    · have t1 : (i : Int) < (m : Int) := by omega
      have t0 : (0 : Int) ≤ (i : Int) := by omega
      obtain ⟨⟨x, y⟩, hx⟩ : ∃ q, l[i]? = some q := ⟨l[i]'(by have := HM.out; omega), List.getElem?_eq_getElem _⟩
      obtain ⟨bk, off, rfl, hbk, c0, c1⟩ := (HR.out.on HRR.out).get i x y hx
      obtain ⟨hux, huy⟩ := HU.out (x, y) (List.mem_of_getElem? hx)
      simp only at hux huy
      have HC0 := keepH c0
      have HC1 := keepH c1
      have HBW := keepH (below_chain HB1.out HRR.out)
      have HD1 := keepH (fun w (hb : Below W.heap.size W w) => HDN.out x hux w hb)
      have HD2 := keepH (fun w (hb : Below W.heap.size W w) => HDN.out y huy w hb)
      have lx := dec_len hux
      have ly := dec_len huy
      have lf := flatP_len (l.take i) (fun q hq => HU.out q (List.mem_of_mem_take hq))
      have lt : (l.take i).length ≤ i := by simp; omega
      have k1 := add_str [32] (Lib.decDigits x) (by simp; omega)
      have k2 := add_str ([32] ++ Lib.decDigits x) [58] (by simp; omega)
      have k3 := add_str ([32] ++ Lib.decDigits x ++ [58]) (Lib.decDigits y) (by simp; omega)
      have k4 := add_str ([112, 97, 105, 114, 115] ++ flatP (l.take i)) ([32] ++ Lib.decDigits x ++ [58] ++ Lib.decDigits y) (by simp; omega)
      rw [show mkS [32] = ⟨#[32]⟩ from rfl] at k1
      rw [show mkS [58] = ⟨#[58]⟩ from rfl] at k2
      have hnx : mkS ([112, 97, 105, 114, 115] ++ flatP (l.take i) ++ ([32] ++ Lib.decDigits x ++ [58] ++ Lib.decDigits y)) = mkS ([112, 97, 105, 114, 115] ++ flatP (l.take (i + 1))) := by rw [flatP_next hx]; simp
      rw [hnx] at k4
      obtain ⟨sx, hsx⟩ : ∃ s, s = mkS (Lib.decDigits x) := ⟨_, rfl⟩
      obtain ⟨sy, hsy⟩ : ∃ s, s = mkS (Lib.decDigits y) := ⟨_, rfl⟩
      obtain ⟨g1, hg1⟩ : ∃ s, s = mkS ([32] ++ Lib.decDigits x) := ⟨_, rfl⟩
      obtain ⟨g2, hg2⟩ : ∃ s, s = mkS ([32] ++ Lib.decDigits x ++ [58]) := ⟨_, rfl⟩
      obtain ⟨g3, hg3⟩ : ∃ s, s = mkS ([32] ++ Lib.decDigits x ++ [58] ++ Lib.decDigits y) := ⟨_, rfl⟩
      obtain ⟨g4, hg4⟩ : ∃ s, s = mkS ([112, 97, 105, 114, 115] ++ flatP (l.take i)) := ⟨_, rfl⟩
      obtain ⟨g5, hg5⟩ : ∃ s, s = mkS ([112, 97, 105, 114, 115] ++ flatP (l.take (i + 1))) := ⟨_, rfl⟩
      rw [← hsx, ← hg1] at k1
      rw [← hg1, ← hg2] at k2
      rw [← hg2, ← hsy, ← hg3] at k3
      rw [← hg4, ← hg3, ← hg5] at k4
      rw [← hsx] at HD1
      rw [← hsy] at HD2
      rw [← hg4]
      have HG5 := keepH hg5
      clear hx hux huy lx ly lf lt hnx hsx hsy hg1 hg2 hg3 hg4 hg5 c0 c1
      go_upto_region 23 with fail
      clear p5
      refine wp_region_held_drew (S := fun w => Below wr.heap.size wr w) (by kernel_rfl) (below_drewN (Below.refl _ _) 1) ?_
      intro hHeld
      refine wpAnyH_take (i := 0) (v := ?_) rfl (by kernel_rfl) (by kernel_rfl) (by kernel_rfl) (fun _ _ _ h => h) (Or.inl ⟨by rfl, ?_⟩) hHeld ?_
      rotate_left
      · intro w hSw
        (try dsimp only at hSw)
        go_simp
        try with_reducible rfl
      (try simp only [Act.put]); (try simp only [List.setIfInBounds_toArray]); (try simp only [List.getElem_toArray]); (repeat (first | simp only [List.getElem_cons_succ] | simp only [List.getElem_cons_zero])); (repeat (first | simp only [List.set_cons_succ] | simp only [List.set_cons_zero]))
      refine wpAnyH_take (i := 1) (v := ?_) rfl (by kernel_rfl) (by kernel_rfl) (by kernel_rfl) (fun _ _ _ h => h) (Or.inl ⟨by rfl, ?_⟩) hHeld ?_
      rotate_left
      · intro w hSw
        (try dsimp only at hSw)
        go_simp
        try with_reducible rfl
      (try simp only [Act.put]); (try simp only [List.setIfInBounds_toArray]); (try simp only [List.getElem_toArray]); (repeat (first | simp only [List.getElem_cons_succ] | simp only [List.getElem_cons_zero])); (repeat (first | simp only [List.set_cons_succ] | simp only [List.set_cons_zero]))
      refine wpAnyH_take (i := 2) (v := ?_) rfl (by kernel_rfl) (by kernel_rfl) (by kernel_rfl) (fun _ _ _ h => h) (Or.inl ⟨by rfl, ?_⟩) hHeld ?_
      rotate_left
      · intro w hSw
        (try dsimp only at hSw)
        have y5 := cell_below HP5.out hSw
        go_simp
        try with_reducible rfl
      (try simp only [Act.put]); (try simp only [List.setIfInBounds_toArray]); (try simp only [List.getElem_toArray]); (repeat (first | simp only [List.getElem_cons_succ] | simp only [List.getElem_cons_zero])); (repeat (first | simp only [List.set_cons_succ] | simp only [List.set_cons_zero]))
      refine wpAnyH_take (i := 3) (v := ?_) rfl (by kernel_rfl) (by kernel_rfl) (by kernel_rfl) (fun _ _ _ h => h) (Or.inl ⟨by rfl, ?_⟩) hHeld ?_
      rotate_left
      · intro w hSw
        (try dsimp only at hSw)
        go_simp
        try with_reducible rfl
      (try simp only [Act.put]); (try simp only [List.setIfInBounds_toArray]); (try simp only [List.getElem_toArray]); (repeat (first | simp only [List.getElem_cons_succ] | simp only [List.getElem_cons_zero])); (repeat (first | simp only [List.set_cons_succ] | simp only [List.set_cons_zero]))
      refine wpAnyH_take (i := 4) (v := ?_) rfl (by kernel_rfl) (by kernel_rfl) (by kernel_rfl) (fun _ _ _ h => h) (Or.inl ⟨by rfl, ?_⟩) hHeld ?_
      rotate_left
      · intro w hSw
        (try dsimp only at hSw)
        go_simp
        try with_reducible rfl
      (try simp only [Act.put]); (try simp only [List.setIfInBounds_toArray]); (try simp only [List.getElem_toArray]); (repeat (first | simp only [List.getElem_cons_succ] | simp only [List.getElem_cons_zero])); (repeat (first | simp only [List.set_cons_succ] | simp only [List.set_cons_zero]))
      refine wpAnyH_take (i := 5) (v := ?_) rfl (by kernel_rfl) (by kernel_rfl) (by kernel_rfl) (fun _ _ _ h => h) (Or.inl ⟨by rfl, ?_⟩) hHeld ?_
      rotate_left
      · intro w hSw
        (try dsimp only at hSw)
        go_simp
        try with_reducible rfl
      (try simp only [Act.put]); (try simp only [List.setIfInBounds_toArray]); (try simp only [List.getElem_toArray]); (repeat (first | simp only [List.getElem_cons_succ] | simp only [List.getElem_cons_zero])); (repeat (first | simp only [List.set_cons_succ] | simp only [List.set_cons_zero]))
      refine wpAnyH_take (i := 6) (v := ?_) rfl (by kernel_rfl) (by kernel_rfl) (by kernel_rfl) (fun _ _ _ h => h) (Or.inl ⟨by rfl, ?_⟩) hHeld ?_
      rotate_left
      · intro w hSw
        (try dsimp only at hSw)
        have y0 := cell_below HC0.out hSw
        go_simp
        try with_reducible rfl
      (try simp only [Act.put]); (try simp only [List.setIfInBounds_toArray]); (try simp only [List.getElem_toArray]); (repeat (first | simp only [List.getElem_cons_succ] | simp only [List.getElem_cons_zero])); (repeat (first | simp only [List.set_cons_succ] | simp only [List.set_cons_zero]))
      refine wpAnyH_take (i := 10) (v := ?_) rfl (by kernel_rfl) (by kernel_rfl) (by kernel_rfl) (fun _ _ _ h => h) (Or.inl ⟨by rfl, ?_⟩) hHeld ?_
      rotate_left
      · intro w hSw
        (try dsimp only at hSw)
        go_simp
        try with_reducible rfl
      (try simp only [Act.put]); (try simp only [List.setIfInBounds_toArray]); (try simp only [List.getElem_toArray]); (repeat (first | simp only [List.getElem_cons_succ] | simp only [List.getElem_cons_zero])); (repeat (first | simp only [List.set_cons_succ] | simp only [List.set_cons_zero]))
      refine wpAnyH_take (i := 11) (v := ?_) rfl (by kernel_rfl) (by kernel_rfl) (by kernel_rfl) (fun _ _ _ h => h) (Or.inl ⟨by rfl, ?_⟩) hHeld ?_
      rotate_left
      · intro w hSw
        (try dsimp only at hSw)
        have y5 := cell_below HP5.out hSw
        go_simp
        try with_reducible rfl
      (try simp only [Act.put]); (try simp only [List.setIfInBounds_toArray]); (try simp only [List.getElem_toArray]); (repeat (first | simp only [List.getElem_cons_succ] | simp only [List.getElem_cons_zero])); (repeat (first | simp only [List.set_cons_succ] | simp only [List.set_cons_zero]))
      refine wpAnyH_take (i := 12) (v := ?_) rfl (by kernel_rfl) (by kernel_rfl) (by kernel_rfl) (fun _ _ _ h => h) (Or.inl ⟨by rfl, ?_⟩) hHeld ?_
      rotate_left
      · intro w hSw
        (try dsimp only at hSw)
        go_simp
        try with_reducible rfl
      (try simp only [Act.put]); (try simp only [List.setIfInBounds_toArray]); (try simp only [List.getElem_toArray]); (repeat (first | simp only [List.getElem_cons_succ] | simp only [List.getElem_cons_zero])); (repeat (first | simp only [List.set_cons_succ] | simp only [List.set_cons_zero]))
      refine wpAnyH_take (i := 13) (v := ?_) rfl (by kernel_rfl) (by kernel_rfl) (by kernel_rfl) (fun _ _ _ h => h) (Or.inl ⟨by rfl, ?_⟩) hHeld ?_
      rotate_left
      · intro w hSw
        (try dsimp only at hSw)
        go_simp
        try with_reducible rfl
      (try simp only [Act.put]); (try simp only [List.setIfInBounds_toArray]); (try simp only [List.getElem_toArray]); (repeat (first | simp only [List.getElem_cons_succ] | simp only [List.getElem_cons_zero])); (repeat (first | simp only [List.set_cons_succ] | simp only [List.set_cons_zero]))
      refine wpAnyH_take (i := 14) (v := ?_) rfl (by kernel_rfl) (by kernel_rfl) (by kernel_rfl) (fun _ _ _ h => h) (Or.inl ⟨by rfl, ?_⟩) hHeld ?_
      rotate_left
      · intro w hSw
        (try dsimp only at hSw)
        go_simp
        try with_reducible rfl
      (try simp only [Act.put]); (try simp only [List.setIfInBounds_toArray]); (try simp only [List.getElem_toArray]); (repeat (first | simp only [List.getElem_cons_succ] | simp only [List.getElem_cons_zero])); (repeat (first | simp only [List.set_cons_succ] | simp only [List.set_cons_zero]))
      refine wpAnyH_take (i := 15) (v := ?_) rfl (by kernel_rfl) (by kernel_rfl) (by kernel_rfl) (fun _ _ _ h => h) (Or.inl ⟨by rfl, ?_⟩) hHeld ?_
      rotate_left
      · intro w hSw
        (try dsimp only at hSw)
        have y1 := cell_below HC1.out hSw
        go_simp
        try with_reducible rfl
      (try simp only [Act.put]); (try simp only [List.setIfInBounds_toArray]); (try simp only [List.getElem_toArray]); (repeat (first | simp only [List.getElem_cons_succ] | simp only [List.getElem_cons_zero])); (repeat (first | simp only [List.set_cons_succ] | simp only [List.set_cons_zero]))
      refine wpAnyH_ready (rs := [7]) (by kernel_rfl) (by simp) ?_
      refine AllReadyH.cons rfl (fun KK hKK => ?_) AllReadyH.nil
      go_simp
      refine (HD1.out _ (below_chain HBW.out hHeld)).mono ?_
      rintro e v1 ⟨rfl, D1⟩
      have E1 := below_chain hHeld D1
      clear D1
      refine hKK.out _ _ ?_ (fun hHeld => ?_)
      · exact E1
      clear hKK KK
      (try simp only [Act.put]); (try simp only [List.setIfInBounds_toArray]); (try simp only [List.getElem_toArray]); (repeat (first | simp only [List.getElem_cons_succ] | simp only [List.getElem_cons_zero])); (repeat (first | simp only [List.set_cons_succ] | simp only [List.set_cons_zero]))
      refine wpAnyH_take (i := 8) (v := ?_) rfl (by kernel_rfl) (by kernel_rfl) (by kernel_rfl) (fun _ _ _ h => h) (Or.inl ⟨by rfl, ?_⟩) hHeld ?_
      rotate_left
      · intro w hSw
        (try dsimp only at hSw)
        go_simp
        try with_reducible rfl
      (try simp only [Act.put]); (try simp only [List.setIfInBounds_toArray]); (try simp only [List.getElem_toArray]); (repeat (first | simp only [List.getElem_cons_succ] | simp only [List.getElem_cons_zero])); (repeat (first | simp only [List.set_cons_succ] | simp only [List.set_cons_zero]))
      refine wpAnyH_take (i := 9) (v := ?_) rfl (by kernel_rfl) (by kernel_rfl) (by kernel_rfl) (fun _ _ _ h => h) (Or.inl ⟨by rfl, ?_⟩) hHeld ?_
      rotate_left
      · intro w hSw
        (try dsimp only at hSw)
        go_simp
        try with_reducible rfl
      (try simp only [Act.put]); (try simp only [List.setIfInBounds_toArray]); (try simp only [List.getElem_toArray]); (repeat (first | simp only [List.getElem_cons_succ] | simp only [List.getElem_cons_zero])); (repeat (first | simp only [List.set_cons_succ] | simp only [List.set_cons_zero]))
      refine wpAnyH_ready (rs := [16]) (by kernel_rfl) (by simp) ?_
      refine AllReadyH.cons rfl (fun KK hKK => ?_) AllReadyH.nil
      go_simp
      refine (HD2.out _ (below_chain HBW.out hHeld)).mono ?_
      rintro e v2 ⟨rfl, D2⟩
      have E2 := below_chain hHeld D2
      have HE2 := keepH E2
      clear D2
      refine hKK.out _ _ ?_ (fun hHeld => ?_)
      · exact E2
      clear hKK KK
      (try simp only [Act.put]); (try simp only [List.setIfInBounds_toArray]); (try simp only [List.getElem_toArray]); (repeat (first | simp only [List.getElem_cons_succ] | simp only [List.getElem_cons_zero])); (repeat (first | simp only [List.set_cons_succ] | simp only [List.set_cons_zero]))
      refine wpAnyH_take (i := 17) (v := ?_) rfl (by kernel_rfl) (by kernel_rfl) (by kernel_rfl) (fun _ _ _ h => h) (Or.inl ⟨by rfl, ?_⟩) hHeld ?_
      rotate_left
      · intro w hSw
        (try dsimp only at hSw)
        go_simp
        try with_reducible rfl
      (try simp only [Act.put]); (try simp only [List.setIfInBounds_toArray]); (try simp only [List.getElem_toArray]); (repeat (first | simp only [List.getElem_cons_succ] | simp only [List.getElem_cons_zero])); (repeat (first | simp only [List.set_cons_succ] | simp only [List.set_cons_zero]))
      refine wpAnyH_take (i := 18) (v := ?_) rfl (by kernel_rfl) (by kernel_rfl) (by kernel_rfl) (fun _ _ _ h => h) (Or.inl ⟨by rfl, ?_⟩) hHeld ?_
      rotate_left
      · intro w hSw
        (try dsimp only at hSw)
        go_simp
        try with_reducible rfl
      (try simp only [Act.put]); (try simp only [List.setIfInBounds_toArray]); (try simp only [List.getElem_toArray]); (repeat (first | simp only [List.getElem_cons_succ] | simp only [List.getElem_cons_zero])); (repeat (first | simp only [List.set_cons_succ] | simp only [List.set_cons_zero]))
      refine wpAnyH_take (i := 19) (v := ?_) rfl (by kernel_rfl) (by kernel_rfl) (by kernel_rfl) (fun _ _ _ h => h) (Or.inl ⟨by rfl, ?_⟩) hHeld ?_
      rotate_left
      · intro w hSw
        (try dsimp only at hSw)
        go_simp
        try with_reducible rfl
      (try simp only [Act.put]); (try simp only [List.setIfInBounds_toArray]); (try simp only [List.getElem_toArray]); (repeat (first | simp only [List.getElem_cons_succ] | simp only [List.getElem_cons_zero])); (repeat (first | simp only [List.set_cons_succ] | simp only [List.set_cons_zero]))
      refine wpAnyH_done (by kernel_rfl) ?_ _
      go_simp
      have HRZ := keepH (below_chain HRR.out HE2.out)
      go_wp2_with fail
      go_roundw
      case rel => exact ⟨i + 1, by omega, by first | rfl | go_num, by rw [HG5.out], HRZ⟩
      case measure => simp [intOf]; omega
    · obtain rfl : i = m := by omega
      have t1 : ¬ (i : Int) < (i : Int) := by omega
      have HTT : Hid (mkS ([112, 97, 105, 114, 115] ++ flatP (l.take i)) = mkS (prsT l)) := keepH (by rw [HFIN.out, HM.out, List.take_length])
      rw [HTT.out]
      obtain ⟨tt, htt⟩ : ∃ s, s = mkS (prsT l) := ⟨_, rfl⟩
      rw [← htt]
      have HT2 := keepH htt
      clear htt HTT
      go_wp2_with fail
      go_ret
      exact ⟨by rw [← HT2.out]; simp, below_chain HB1.out HRR.out⟩
set_option maxRecDepth 100000 in
set_option maxHeartbeats 4000000 in
theorem pa_prs8 (f : Bool) (v : Nat) (dn : Bool) (h : Nat) (pp : Option Addr) (l : List (Nat × Nat)) (pc ct : Nat) (hl : l.length ≤ 10000000) (hu : ∀ q ∈ l, isU q.1 ∧ isU q.2) (W : World) (T : Tb W) (hR : PRd W pp l) :
    Calls Tryz.prog 13 #[.int .u8 8, .agg (ansR 0 f v dn h pp l.length pc ct)] W fun e W' => e = .returned (.string (mkS (prsT l))) ∧ Below W.heap.size W W' := by
  have HD := keepH (fun w (hb : Below W.heap.size W w) => pairs_any pp pc l hl hu w (T.on hb) (hR.on hb))
  obtain ⟨m, hm⟩ : ∃ m, m = l.length := ⟨_, rfl⟩
  rw [← hm] at HD ⊢
  obtain ⟨g, hg⟩ : ∃ g, g = mkS (prsT l) := ⟨_, rfl⟩
  rw [← hg] at HD ⊢
  obtain ⟨w1, hw1⟩ : ∃ w1, w1 = W.alloc (.cells (ansR 0 f v dn h pp m pc ct) 32) := ⟨_, rfl⟩
  obtain ⟨P, hP⟩ : ∃ P, P = W.heap.size := ⟨_, rfl⟩
  have B1 : Below W.heap.size W w1 := by rw [hw1]; exact below_alloc _ _
  have X1 : w1.heap[P]? = some (.cells (ansR 0 f v dn h pp m pc ct) 32 (0, 0)) := by rw [hw1, hP]; exact heap_alloc_new _ _
  have HW1 := keepH hw1
  have HP := keepH hP
  have HB1 := keepH B1
  have c0 : w1.cell? ⟨P, 0, none⟩ = _ := cell_of X1 0
  have c5 : w1.cell? ⟨P, 5, none⟩ = _ := cell_of X1 5
  clear hw1 hP B1 X1 hu hR T hm hg hl
  go_enter Tryz.func13, Tryz.ntmps13
  go_upto_region 1 with fail
  rw [← HW1.out, ← HP.out]
  go_wp2_with fail
  refine (HD.out w1 HB1.out).mono ?_
  rintro e' w2 ⟨rfl, B2⟩
  have HB2 := keepH (below_chain HB1.out B2)
  clear B2 c0 c5
  go_wp2_with fail
  go_ret
  exact ⟨by simp, HB2.out⟩
end Go.Proofs.YtmmaniolaljjlaaGreatDoor
/- An answer as a line: both say the same. (mkSdf.py) -/
namespace Go.Proofs.YtmmaniolaljjlaaGreatDoor
open Go.RowKit Go.Shelf
set_option linter.unusedVariables false

theorem ans_both (k : Nat) (e : Int) (f : Bool) (v : Nat) (dn : Bool) (h : Nat) (pp : Option Addr) (l : List (Nat × Nat)) (pc ct : Nat) (hk : k < 256) (he : -9223372036854775808 ≤ e ∧ e < 9223372036854775808) (hv : isU v) (hh : isU h) (hct : isU ct) (hl : l.length ≤ 10000000) (hu : ∀ q ∈ l, isU q.1 ∧ isU q.2) (W : World) (T : Tb W) (hR : PRd W pp l) :
    ∃ t : List UInt8, (∀ w, Below W.heap.size W w → Calls Tryz.prog 13 #[.int .u8 (k : Int), .agg (ansR e f v dn h pp l.length pc ct)] w fun e' W' => e' = .returned (.string (mkS t)) ∧ Below w.heap.size w W') ∧
      (∀ w, Below W.heap.size W w → Calls Tryz.prog 14 #[.int .u8 (k : Int), .agg (ansR e f v dn h pp l.length pc ct)] w fun e' W' => e' = .returned (.string (mkS t)) ∧ Below w.heap.size w W') := by
  by_cases h0 : e = 0
  · by_cases hok : k ≠ 1 ∧ k ≠ 2 ∧ k ≠ 3 ∧ k ≠ 4 ∧ k ≠ 5 ∧ k ≠ 7 ∧ k ≠ 8 ∧ k ≠ 9 ∧ k ≠ 10
    · exact ⟨_, fun w hb => pa_ok k e f v dn h pp l.length pc ct h0 hok hk he hv hh hct w (T.on hb), fun w hb => da_ok k e f v dn h pp l.length pc ct h0 hok hk he hv hh hct w (T.on hb)⟩
    · have : k = 1 ∨ k = 2 ∨ k = 3 ∨ k = 4 ∨ k = 5 ∨ k = 7 ∨ k = 8 ∨ k = 9 ∨ k = 10 := by omega
      rcases this with rfl | rfl | rfl | rfl | rfl | rfl | rfl | rfl | rfl
      · subst h0
        refine ⟨fndT f v, fun w hb => pa_fnd1 0 f v dn h pp l.length pc ct rfl hv w (T.on hb), fun w hb => ?_⟩
        cases f with
        | true => exact da_fnd1t dn v h pp l.length pc ct hv w (T.on hb)
        | false => exact da_fnd1f dn v h pp l.length pc ct hv w (T.on hb)
      · subst h0
        refine ⟨fndT f v, fun w hb => pa_fnd2 0 f v dn h pp l.length pc ct rfl hv w (T.on hb), fun w hb => ?_⟩
        cases f with
        | true => exact da_fnd2t dn v h pp l.length pc ct hv w (T.on hb)
        | false => exact da_fnd2f dn v h pp l.length pc ct hv w (T.on hb)
      · subst h0
        refine ⟨fndT f v, fun w hb => pa_fnd3 0 f v dn h pp l.length pc ct rfl hv w (T.on hb), fun w hb => ?_⟩
        cases f with
        | true => exact da_fnd3t dn v h pp l.length pc ct hv w (T.on hb)
        | false => exact da_fnd3f dn v h pp l.length pc ct hv w (T.on hb)
      · subst h0
        cases dn with
        | true =>
          refine ⟨_, fun w hb => pa_done f v h pp l.length pc ct hv w (T.on hb), fun w hb => ?_⟩
          cases f with
          | true => exact da_4tt v h pp l.length pc ct hv w (T.on hb)
          | false => exact da_4ft v h pp l.length pc ct hv w (T.on hb)
        | false =>
          refine ⟨fndT f v, fun w hb => pa_fnd4 0 f v false h pp l.length pc ct rfl rfl hv w (T.on hb), fun w hb => ?_⟩
          cases f with
          | true => exact da_4tf v h pp l.length pc ct hv w (T.on hb)
          | false => exact da_4ff v h pp l.length pc ct hv w (T.on hb)
      · exact ⟨_, fun w hb => pa_hnd 5 e f v dn h pp l.length pc ct h0 rfl hk he hv hh hct w (T.on hb), fun w hb => da_hnd 5 e f v dn h pp l.length pc ct h0 rfl hk he hv hh hct w (T.on hb)⟩
      · subst h0
        exact ⟨_, fun w hb => pa_prs7 f v dn h pp l pc ct hl hu w (T.on hb) (hR.on hb), fun w hb => da_prs7 f v dn h pp l pc ct hl hu w (T.on hb) (hR.on hb)⟩
      · subst h0
        exact ⟨_, fun w hb => pa_prs8 f v dn h pp l pc ct hl hu w (T.on hb) (hR.on hb), fun w hb => da_prs8 f v dn h pp l pc ct hl hu w (T.on hb) (hR.on hb)⟩
      · exact ⟨_, fun w hb => pa_cnt9 9 e f v dn h pp l.length pc ct h0 rfl hk he hv hh hct w (T.on hb), fun w hb => da_cnt9 9 e f v dn h pp l.length pc ct h0 rfl hk he hv hh hct w (T.on hb)⟩
      · exact ⟨_, fun w hb => pa_cnt10 10 e f v dn h pp l.length pc ct h0 rfl hk he hv hh hct w (T.on hb), fun w hb => da_cnt10 10 e f v dn h pp l.length pc ct h0 rfl hk he hv hh hct w (T.on hb)⟩
  · exact ⟨_, fun w hb => pa_err k e f v dn h pp l.length pc ct h0 hk he hv hh hct w (T.on hb), fun w hb => da_err k e f v dn h pp l.length pc ct h0 hk he hv hh hct w (T.on hb)⟩
end Go.Proofs.YtmmaniolaljjlaaGreatDoor
