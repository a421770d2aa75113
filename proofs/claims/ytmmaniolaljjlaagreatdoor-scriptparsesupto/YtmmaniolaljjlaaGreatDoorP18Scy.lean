/- An operation as a line, by the document. (mkScy.py) -/
import Derived.Test.YtmmaniolaljjlaaGreatDoorP12Sec
namespace Go.Proofs.YtmmaniolaljjlaaGreatDoor
open Go.RowKit Go.Shelf
set_option linter.unusedVariables false

theorem join_flat : ∀ (a : List UInt8) (fs : List (List UInt8)), Lib.join (a :: fs) [32] = a ++ (fs.map (fun f => 32 :: f)).flatten
  | a, [] => by simp [Lib.join_one]
  | a, b :: r => by rw [join_cc, join_flat b r]; simp
def flatK (keys : List Nat) : List UInt8 := (keys.map (fun u => 32 :: Lib.decDigits u)).flatten
theorem flatK_next {keys : List Nat} {i x : Nat} (h : keys[i]? = some x) : flatK (keys.take (i + 1)) = flatK (keys.take i) ++ ([32] ++ Lib.decDigits x) := by
  unfold flatK
  rw [List.take_add_one, h]
  simp
theorem flatK_len {keys : List Nat} (i : Nat) (h : ∀ u ∈ keys.take i, (Lib.decDigits u).length ≤ 21) : (flatK (keys.take i)).length ≤ 22 * i := by
  have e : ∀ l : List Nat, (∀ u ∈ l, (Lib.decDigits u).length ≤ 21) → (flatK l).length ≤ 22 * l.length := by
    intro l
    induction l with
    | nil => intro _; simp [flatK]
    | cons a r ih =>
      intro h
      have h0 := h a (by simp)
      have h1 := ih (fun u hu => h u (by simp [hu]))
      unfold flatK at h1 ⊢
      simp only [List.map_cons, List.flatten_cons, List.length_append, List.length_cons] at h1 ⊢
      omega
  have := e _ h
  have hl : (keys.take i).length ≤ i := by simp; omega
  omega
set_option maxRecDepth 100000 in
set_option maxHeartbeats 8000000 in
theorem dPrint_1 (key val old hnd : Nat) (set : Bool) (rt ri : Int) (kp : Option Addr) (kc lo hi : Nat) (keys : List Nat) (h1 : isU key) (h2 : isU val) (h3 : isU old) (h4 : isU hnd) (h5 : isU lo) (h6 : isU hi) (ha : isI rt) (hb : isI ri) (hf : faultN 1 key val old hnd set rt ri kp keys.length kc lo hi = 0) (W : World) (T : Tb W) :
    Calls Tryz.prog 8 #[.agg (opR 1 key val old hnd set rt ri (.slice kp keys.length kc) lo hi)] W fun e W' => e = .returned (.tuple #[.string (mkS (opT 1 key val old hnd set rt ri keys lo hi)), .int .i64 0]) ∧ Below W.heap.size W W' := by
  have hop := fun w => dOp_any 1 key val old hnd set rt ri kp keys.length kc lo hi (by omega) h1 h2 h3 h4 h5 h6 ha hb w
  rw [hf] at hop
  have HOP := keepH hop
  have HWO := keepH (fun w => dWord_any 1 (by omega) w)
  have HHD := keepH (fun w => dHandled_any 1 w)
  rw [show hndK 1 = false from rfl] at HHD
  have l0 := opW_len 1
  have lkey := dec_len h1
  obtain ⟨skey, hskey⟩ : ∃ s, s = mkS (Lib.decDigits key) := ⟨_, rfl⟩
  have hnkey := fun w (hbe : Below W.heap.size W w) => dNum_any key h1 w (T.on hbe)
  rw [← hskey] at hnkey
  have HNkey := keepH hnkey
  clear hnkey
  obtain ⟨s0, hs0⟩ : ∃ s, s = mkS (opW 1) := ⟨_, rfl⟩
  rw [← hs0] at HWO
  have k1 := add_str [32] (Lib.decDigits key) (by (try simp only [List.length_append]); (try simp only [List.length_cons]); (try simp only [List.length_nil]); omega)
  rw [show mkS [32] = ⟨#[32]⟩ from rfl] at k1
  rw [← hskey] at k1
  obtain ⟨g1, hg1⟩ : ∃ g, g = mkS ([32] ++ (Lib.decDigits key)) := ⟨_, rfl⟩
  rw [← hg1] at k1
  have k2 := add_str (opW 1) ([32] ++ (Lib.decDigits key)) (by (try simp only [List.length_append]); (try simp only [List.length_cons]); (try simp only [List.length_nil]); omega)
  rw [← hs0] at k2
  rw [← hg1] at k2
  obtain ⟨g2, hg2⟩ : ∃ g, g = mkS ((opW 1) ++ ([32] ++ (Lib.decDigits key))) := ⟨_, rfl⟩
  rw [← hg2] at k2
  have hfin : mkS (opT 1 key val old hnd set rt ri keys lo hi) = g2 := by
    rw [hg2]
    first | rfl | (congr 1; unfold opT partsO; rw [show hndK 1 = false from rfl, show kysK 1 = false from rfl, show numK 1 = [1] from rfl]; simp [join_flat, numAt]) | (exact congrArg mkS (by unfold opT partsO; simp [hndK, kysK, numK, Lib.join_one]))
  rw [hfin]
  obtain ⟨w1, hw1⟩ : ∃ w1, w1 = W.alloc (.cells (opR 1 key val old hnd set rt ri (.slice kp keys.length kc) lo hi) 28) := ⟨_, rfl⟩
  obtain ⟨P, hP⟩ : ∃ P, P = W.heap.size := ⟨_, rfl⟩
  have B1 : Below W.heap.size W w1 := by rw [hw1]; exact below_alloc _ _
  have X1 : w1.heap[P]? = some (.cells (opR 1 key val old hnd set rt ri (.slice kp keys.length kc) lo hi) 28 (0, 0)) := by rw [hw1, hP]; exact heap_alloc_new _ _
  have HW1 := keepH hw1
  have HP := keepH hP
  have HB1 := keepH B1
  have HX1 := keepH X1
  obtain ⟨n, hn⟩ : ∃ n, n = keys.length := ⟨_, rfl⟩
  rw [← hn] at HOP HX1 HW1 ⊢
  have HN := keepH hn
  clear hop hw1 hP B1 X1 hf T h1 h2 h3 h4 h5 h6 ha hb hn
  clear hs0 l0 hskey lkey hg1 hg2 hfin
  go_enter Tryz.func8, Tryz.ntmps8
  go_upto_region 1 with fail
  rw [← HW1.out, ← HP.out]
  have c0 : w1.cell? ⟨P, 0, none⟩ = _ := cell_of HX1.out 0
  have c1 : w1.cell? ⟨P, 1, none⟩ = _ := cell_of HX1.out 1
  have c2 : w1.cell? ⟨P, 2, none⟩ = _ := cell_of HX1.out 2
  have c3 : w1.cell? ⟨P, 3, none⟩ = _ := cell_of HX1.out 3
  have c4 : w1.cell? ⟨P, 4, none⟩ = _ := cell_of HX1.out 4
  have c5 : w1.cell? ⟨P, 5, none⟩ = _ := cell_of HX1.out 5
  have c6 : w1.cell? ⟨P, 6, none⟩ = _ := cell_of HX1.out 6
  have c7 : w1.cell? ⟨P, 7, none⟩ = _ := cell_of HX1.out 7
  have c8 : w1.cell? ⟨P, 8, none⟩ = _ := cell_of HX1.out 8
  have c9 : w1.cell? ⟨P, 9, none⟩ = _ := cell_of HX1.out 9
  have c10 : w1.cell? ⟨P, 10, none⟩ = _ := cell_of HX1.out 10
  go_wp2_with fail
  refine (HOP.out w1).mono ?_
  rintro e w2 ⟨rfl, B2⟩
  have HX2 := keepH (heap_below HX1.out B2)
  have HB2 := keepH (below_chain HB1.out B2)
  clear B2 c0 c1 c2 c3 c4 c5 c6 c7 c8 c9 c10
  have c0 : w2.cell? ⟨P, 0, none⟩ = _ := cell_of HX2.out 0
  have c1 : w2.cell? ⟨P, 1, none⟩ = _ := cell_of HX2.out 1
  have c2 : w2.cell? ⟨P, 2, none⟩ = _ := cell_of HX2.out 2
  have c3 : w2.cell? ⟨P, 3, none⟩ = _ := cell_of HX2.out 3
  have c4 : w2.cell? ⟨P, 4, none⟩ = _ := cell_of HX2.out 4
  have c5 : w2.cell? ⟨P, 5, none⟩ = _ := cell_of HX2.out 5
  have c6 : w2.cell? ⟨P, 6, none⟩ = _ := cell_of HX2.out 6
  have c7 : w2.cell? ⟨P, 7, none⟩ = _ := cell_of HX2.out 7
  have c8 : w2.cell? ⟨P, 8, none⟩ = _ := cell_of HX2.out 8
  have c9 : w2.cell? ⟨P, 9, none⟩ = _ := cell_of HX2.out 9
  have c10 : w2.cell? ⟨P, 10, none⟩ = _ := cell_of HX2.out 10
  go_wp2_with fail
  refine (HWO.out w2).mono ?_
  rintro e w3 ⟨rfl, B3⟩
  have HX3 := keepH (heap_below HX2.out B3)
  have HB3 := keepH (below_chain HB2.out B3)
  clear B3 c0 c1 c2 c3 c4 c5 c6 c7 c8 c9 c10
  have c0 : w3.cell? ⟨P, 0, none⟩ = _ := cell_of HX3.out 0
  have c1 : w3.cell? ⟨P, 1, none⟩ = _ := cell_of HX3.out 1
  have c2 : w3.cell? ⟨P, 2, none⟩ = _ := cell_of HX3.out 2
  have c3 : w3.cell? ⟨P, 3, none⟩ = _ := cell_of HX3.out 3
  have c4 : w3.cell? ⟨P, 4, none⟩ = _ := cell_of HX3.out 4
  have c5 : w3.cell? ⟨P, 5, none⟩ = _ := cell_of HX3.out 5
  have c6 : w3.cell? ⟨P, 6, none⟩ = _ := cell_of HX3.out 6
  have c7 : w3.cell? ⟨P, 7, none⟩ = _ := cell_of HX3.out 7
  have c8 : w3.cell? ⟨P, 8, none⟩ = _ := cell_of HX3.out 8
  have c9 : w3.cell? ⟨P, 9, none⟩ = _ := cell_of HX3.out 9
  have c10 : w3.cell? ⟨P, 10, none⟩ = _ := cell_of HX3.out 10
  go_wp2_with fail
  refine (HHD.out w3).mono ?_
  rintro e wx ⟨rfl, hwx⟩
  rw [hwx]
  clear hwx
  go_wp2_with fail
  refine (HNkey.out w3 HB3.out).mono ?_
  rintro e w5 ⟨rfl, B5⟩
  have HB5 := keepH (below_chain HB3.out B5)
  clear B5 c0 c1 c2 c3 c4 c5 c6 c7 c8 c9 c10
  go_wp2_with fail
  go_ret2
  exact ⟨by simp, HB5.out⟩
set_option maxRecDepth 100000 in
set_option maxHeartbeats 8000000 in
theorem dPrint_2 (key val old hnd : Nat) (set : Bool) (rt ri : Int) (kp : Option Addr) (kc lo hi : Nat) (keys : List Nat) (h1 : isU key) (h2 : isU val) (h3 : isU old) (h4 : isU hnd) (h5 : isU lo) (h6 : isU hi) (ha : isI rt) (hb : isI ri) (hf : faultN 2 key val old hnd set rt ri kp keys.length kc lo hi = 0) (W : World) (T : Tb W) :
    Calls Tryz.prog 8 #[.agg (opR 2 key val old hnd set rt ri (.slice kp keys.length kc) lo hi)] W fun e W' => e = .returned (.tuple #[.string (mkS (opT 2 key val old hnd set rt ri keys lo hi)), .int .i64 0]) ∧ Below W.heap.size W W' := by
  have hop := fun w => dOp_any 2 key val old hnd set rt ri kp keys.length kc lo hi (by omega) h1 h2 h3 h4 h5 h6 ha hb w
  rw [hf] at hop
  have HOP := keepH hop
  have HWO := keepH (fun w => dWord_any 2 (by omega) w)
  have HHD := keepH (fun w => dHandled_any 2 w)
  rw [show hndK 2 = false from rfl] at HHD
  have l0 := opW_len 2
  have lkey := dec_len h1
  obtain ⟨skey, hskey⟩ : ∃ s, s = mkS (Lib.decDigits key) := ⟨_, rfl⟩
  have hnkey := fun w (hbe : Below W.heap.size W w) => dNum_any key h1 w (T.on hbe)
  rw [← hskey] at hnkey
  have HNkey := keepH hnkey
  clear hnkey
  have lval := dec_len h2
  obtain ⟨sval, hsval⟩ : ∃ s, s = mkS (Lib.decDigits val) := ⟨_, rfl⟩
  have hnval := fun w (hbe : Below W.heap.size W w) => dNum_any val h2 w (T.on hbe)
  rw [← hsval] at hnval
  have HNval := keepH hnval
  clear hnval
  obtain ⟨s0, hs0⟩ : ∃ s, s = mkS (opW 2) := ⟨_, rfl⟩
  rw [← hs0] at HWO
  have k1 := add_str [32] (Lib.decDigits key) (by (try simp only [List.length_append]); (try simp only [List.length_cons]); (try simp only [List.length_nil]); omega)
  rw [show mkS [32] = ⟨#[32]⟩ from rfl] at k1
  rw [← hskey] at k1
  obtain ⟨g1, hg1⟩ : ∃ g, g = mkS ([32] ++ (Lib.decDigits key)) := ⟨_, rfl⟩
  rw [← hg1] at k1
  have k2 := add_str ([32] ++ (Lib.decDigits key)) [32] (by (try simp only [List.length_append]); (try simp only [List.length_cons]); (try simp only [List.length_nil]); omega)
  rw [← hg1] at k2
  rw [show mkS [32] = ⟨#[32]⟩ from rfl] at k2
  obtain ⟨g2, hg2⟩ : ∃ g, g = mkS (([32] ++ (Lib.decDigits key)) ++ [32]) := ⟨_, rfl⟩
  rw [← hg2] at k2
  have k3 := add_str (([32] ++ (Lib.decDigits key)) ++ [32]) (Lib.decDigits val) (by (try simp only [List.length_append]); (try simp only [List.length_cons]); (try simp only [List.length_nil]); omega)
  rw [← hg2] at k3
  rw [← hsval] at k3
  obtain ⟨g3, hg3⟩ : ∃ g, g = mkS ((([32] ++ (Lib.decDigits key)) ++ [32]) ++ (Lib.decDigits val)) := ⟨_, rfl⟩
  rw [← hg3] at k3
  have k4 := add_str (opW 2) ((([32] ++ (Lib.decDigits key)) ++ [32]) ++ (Lib.decDigits val)) (by (try simp only [List.length_append]); (try simp only [List.length_cons]); (try simp only [List.length_nil]); omega)
  rw [← hs0] at k4
  rw [← hg3] at k4
  obtain ⟨g4, hg4⟩ : ∃ g, g = mkS ((opW 2) ++ ((([32] ++ (Lib.decDigits key)) ++ [32]) ++ (Lib.decDigits val))) := ⟨_, rfl⟩
  rw [← hg4] at k4
  have hfin : mkS (opT 2 key val old hnd set rt ri keys lo hi) = g4 := by
    rw [hg4]
    first | rfl | (congr 1; unfold opT partsO; rw [show hndK 2 = false from rfl, show kysK 2 = false from rfl, show numK 2 = [1, 2] from rfl]; simp [join_flat, numAt]) | (exact congrArg mkS (by unfold opT partsO; simp [hndK, kysK, numK, Lib.join_one]))
  rw [hfin]
  obtain ⟨w1, hw1⟩ : ∃ w1, w1 = W.alloc (.cells (opR 2 key val old hnd set rt ri (.slice kp keys.length kc) lo hi) 28) := ⟨_, rfl⟩
  obtain ⟨P, hP⟩ : ∃ P, P = W.heap.size := ⟨_, rfl⟩
  have B1 : Below W.heap.size W w1 := by rw [hw1]; exact below_alloc _ _
  have X1 : w1.heap[P]? = some (.cells (opR 2 key val old hnd set rt ri (.slice kp keys.length kc) lo hi) 28 (0, 0)) := by rw [hw1, hP]; exact heap_alloc_new _ _
  have HW1 := keepH hw1
  have HP := keepH hP
  have HB1 := keepH B1
  have HX1 := keepH X1
  obtain ⟨n, hn⟩ : ∃ n, n = keys.length := ⟨_, rfl⟩
  rw [← hn] at HOP HX1 HW1 ⊢
  have HN := keepH hn
  clear hop hw1 hP B1 X1 hf T h1 h2 h3 h4 h5 h6 ha hb hn
  clear hs0 l0 hskey lkey hsval lval hg1 hg2 hg3 hg4 hfin
  go_enter Tryz.func8, Tryz.ntmps8
  go_upto_region 1 with fail
  rw [← HW1.out, ← HP.out]
  have c0 : w1.cell? ⟨P, 0, none⟩ = _ := cell_of HX1.out 0
  have c1 : w1.cell? ⟨P, 1, none⟩ = _ := cell_of HX1.out 1
  have c2 : w1.cell? ⟨P, 2, none⟩ = _ := cell_of HX1.out 2
  have c3 : w1.cell? ⟨P, 3, none⟩ = _ := cell_of HX1.out 3
  have c4 : w1.cell? ⟨P, 4, none⟩ = _ := cell_of HX1.out 4
  have c5 : w1.cell? ⟨P, 5, none⟩ = _ := cell_of HX1.out 5
  have c6 : w1.cell? ⟨P, 6, none⟩ = _ := cell_of HX1.out 6
  have c7 : w1.cell? ⟨P, 7, none⟩ = _ := cell_of HX1.out 7
  have c8 : w1.cell? ⟨P, 8, none⟩ = _ := cell_of HX1.out 8
  have c9 : w1.cell? ⟨P, 9, none⟩ = _ := cell_of HX1.out 9
  have c10 : w1.cell? ⟨P, 10, none⟩ = _ := cell_of HX1.out 10
  go_wp2_with fail
  refine (HOP.out w1).mono ?_
  rintro e w2 ⟨rfl, B2⟩
  have HX2 := keepH (heap_below HX1.out B2)
  have HB2 := keepH (below_chain HB1.out B2)
  clear B2 c0 c1 c2 c3 c4 c5 c6 c7 c8 c9 c10
  have c0 : w2.cell? ⟨P, 0, none⟩ = _ := cell_of HX2.out 0
  have c1 : w2.cell? ⟨P, 1, none⟩ = _ := cell_of HX2.out 1
  have c2 : w2.cell? ⟨P, 2, none⟩ = _ := cell_of HX2.out 2
  have c3 : w2.cell? ⟨P, 3, none⟩ = _ := cell_of HX2.out 3
  have c4 : w2.cell? ⟨P, 4, none⟩ = _ := cell_of HX2.out 4
  have c5 : w2.cell? ⟨P, 5, none⟩ = _ := cell_of HX2.out 5
  have c6 : w2.cell? ⟨P, 6, none⟩ = _ := cell_of HX2.out 6
  have c7 : w2.cell? ⟨P, 7, none⟩ = _ := cell_of HX2.out 7
  have c8 : w2.cell? ⟨P, 8, none⟩ = _ := cell_of HX2.out 8
  have c9 : w2.cell? ⟨P, 9, none⟩ = _ := cell_of HX2.out 9
  have c10 : w2.cell? ⟨P, 10, none⟩ = _ := cell_of HX2.out 10
  go_wp2_with fail
  refine (HWO.out w2).mono ?_
  rintro e w3 ⟨rfl, B3⟩
  have HX3 := keepH (heap_below HX2.out B3)
  have HB3 := keepH (below_chain HB2.out B3)
  clear B3 c0 c1 c2 c3 c4 c5 c6 c7 c8 c9 c10
  have c0 : w3.cell? ⟨P, 0, none⟩ = _ := cell_of HX3.out 0
  have c1 : w3.cell? ⟨P, 1, none⟩ = _ := cell_of HX3.out 1
  have c2 : w3.cell? ⟨P, 2, none⟩ = _ := cell_of HX3.out 2
  have c3 : w3.cell? ⟨P, 3, none⟩ = _ := cell_of HX3.out 3
  have c4 : w3.cell? ⟨P, 4, none⟩ = _ := cell_of HX3.out 4
  have c5 : w3.cell? ⟨P, 5, none⟩ = _ := cell_of HX3.out 5
  have c6 : w3.cell? ⟨P, 6, none⟩ = _ := cell_of HX3.out 6
  have c7 : w3.cell? ⟨P, 7, none⟩ = _ := cell_of HX3.out 7
  have c8 : w3.cell? ⟨P, 8, none⟩ = _ := cell_of HX3.out 8
  have c9 : w3.cell? ⟨P, 9, none⟩ = _ := cell_of HX3.out 9
  have c10 : w3.cell? ⟨P, 10, none⟩ = _ := cell_of HX3.out 10
  go_wp2_with fail
  refine (HHD.out w3).mono ?_
  rintro e wx ⟨rfl, hwx⟩
  rw [hwx]
  clear hwx
  go_upto_region 14 with fail
  have HQ1 := keepH c1
  have HQ2 := keepH c2
  clear c0 c1 c2 c3 c4 c5 c6 c7 c8 c9 c10
  refine wp_region_held_drew (S := fun w => Below w3.heap.size w3 w) (by kernel_rfl) (below_drewN (Below.refl _ _) 1) ?_
  intro hHeld
  refine wpAnyH_take (i := 0) (v := ?_) rfl (by kernel_rfl) (by kernel_rfl) (by kernel_rfl) (fun _ _ _ h => h) (Or.inl ⟨by rfl, ?_⟩) hHeld ?_
  rotate_left
  · intro w hSw
    (try dsimp only at hSw)
    go_simp
    try with_reducible rfl
  (try simp only [Act.put]); (try simp only [List.setIfInBounds_toArray]); (try simp only [List.getElem_toArray]); (repeat (first | simp only [List.getElem_cons_succ] | simp only [List.getElem_cons_zero])); (repeat (first | simp only [List.set_cons_succ] | simp only [List.set_cons_zero]))
  refine wpAnyH_take (i := 1) (v := ?_) rfl (by kernel_rfl) (by kernel_rfl) (by kernel_rfl) (fun _ _ _ h => h) (Or.inl ⟨by rfl, ?_⟩) hHeld ?_
  rotate_left
  · intro w hSw
    (try dsimp only at hSw)
    go_simp
    try with_reducible rfl
  (try simp only [Act.put]); (try simp only [List.setIfInBounds_toArray]); (try simp only [List.getElem_toArray]); (repeat (first | simp only [List.getElem_cons_succ] | simp only [List.getElem_cons_zero])); (repeat (first | simp only [List.set_cons_succ] | simp only [List.set_cons_zero]))
  refine wpAnyH_take (i := 2) (v := ?_) rfl (by kernel_rfl) (by kernel_rfl) (by kernel_rfl) (fun _ _ _ h => h) (Or.inl ⟨by rfl, ?_⟩) hHeld ?_
  rotate_left
  · intro w hSw
    (try dsimp only at hSw)
    have y := cell_below HQ1.out hSw
    go_simp
    try with_reducible rfl
  (try simp only [Act.put]); (try simp only [List.setIfInBounds_toArray]); (try simp only [List.getElem_toArray]); (repeat (first | simp only [List.getElem_cons_succ] | simp only [List.getElem_cons_zero])); (repeat (first | simp only [List.set_cons_succ] | simp only [List.set_cons_zero]))
  refine wpAnyH_take (i := 6) (v := ?_) rfl (by kernel_rfl) (by kernel_rfl) (by kernel_rfl) (fun _ _ _ h => h) (Or.inl ⟨by rfl, ?_⟩) hHeld ?_
  rotate_left
  · intro w hSw
    (try dsimp only at hSw)
    go_simp
    try with_reducible rfl
  (try simp only [Act.put]); (try simp only [List.setIfInBounds_toArray]); (try simp only [List.getElem_toArray]); (repeat (first | simp only [List.getElem_cons_succ] | simp only [List.getElem_cons_zero])); (repeat (first | simp only [List.set_cons_succ] | simp only [List.set_cons_zero]))
  refine wpAnyH_take (i := 7) (v := ?_) rfl (by kernel_rfl) (by kernel_rfl) (by kernel_rfl) (fun _ _ _ h => h) (Or.inl ⟨by rfl, ?_⟩) hHeld ?_
  rotate_left
  · intro w hSw
    (try dsimp only at hSw)
    have y := cell_below HQ2.out hSw
    go_simp
    try with_reducible rfl
  (try simp only [Act.put]); (try simp only [List.setIfInBounds_toArray]); (try simp only [List.getElem_toArray]); (repeat (first | simp only [List.getElem_cons_succ] | simp only [List.getElem_cons_zero])); (repeat (first | simp only [List.set_cons_succ] | simp only [List.set_cons_zero]))
  refine wpAnyH_ready (rs := [3]) (by kernel_rfl) (by simp) ?_
  refine AllReadyH.cons rfl (fun KK hKK => ?_) AllReadyH.nil
  go_simp
  refine (HNkey.out _ (below_chain HB3.out hHeld)).mono ?_
  rintro e v3 ⟨rfl, D3⟩
  have E3 := below_chain hHeld D3
  clear D3
  refine hKK.out _ _ ?_ (fun hHeld => ?_)
  · exact E3
  clear hKK KK
  (try simp only [Act.put]); (try simp only [List.setIfInBounds_toArray]); (try simp only [List.getElem_toArray]); (repeat (first | simp only [List.getElem_cons_succ] | simp only [List.getElem_cons_zero])); (repeat (first | simp only [List.set_cons_succ] | simp only [List.set_cons_zero]))
  refine wpAnyH_take (i := 4) (v := ?_) rfl (by kernel_rfl) (by kernel_rfl) (by kernel_rfl) (fun _ _ _ h => h) (Or.inl ⟨by rfl, ?_⟩) hHeld ?_
  rotate_left
  · intro w hSw
    (try dsimp only at hSw)
    go_simp
    try with_reducible rfl
  (try simp only [Act.put]); (try simp only [List.setIfInBounds_toArray]); (try simp only [List.getElem_toArray]); (repeat (first | simp only [List.getElem_cons_succ] | simp only [List.getElem_cons_zero])); (repeat (first | simp only [List.set_cons_succ] | simp only [List.set_cons_zero]))
  refine wpAnyH_take (i := 5) (v := ?_) rfl (by kernel_rfl) (by kernel_rfl) (by kernel_rfl) (fun _ _ _ h => h) (Or.inl ⟨by rfl, ?_⟩) hHeld ?_
  rotate_left
  · intro w hSw
    (try dsimp only at hSw)
    go_simp
    try with_reducible rfl
  (try simp only [Act.put]); (try simp only [List.setIfInBounds_toArray]); (try simp only [List.getElem_toArray]); (repeat (first | simp only [List.getElem_cons_succ] | simp only [List.getElem_cons_zero])); (repeat (first | simp only [List.set_cons_succ] | simp only [List.set_cons_zero]))
  refine wpAnyH_ready (rs := [8]) (by kernel_rfl) (by simp) ?_
  refine AllReadyH.cons rfl (fun KK hKK => ?_) AllReadyH.nil
  go_simp
  refine (HNval.out _ (below_chain HB3.out hHeld)).mono ?_
  rintro e v4 ⟨rfl, D4⟩
  have E4 := below_chain hHeld D4
  have HEE := keepH E4
  clear D4
  refine hKK.out _ _ ?_ (fun hHeld => ?_)
  · exact E4
  clear hKK KK
  (try simp only [Act.put]); (try simp only [List.setIfInBounds_toArray]); (try simp only [List.getElem_toArray]); (repeat (first | simp only [List.getElem_cons_succ] | simp only [List.getElem_cons_zero])); (repeat (first | simp only [List.set_cons_succ] | simp only [List.set_cons_zero]))
  refine wpAnyH_take (i := 9) (v := ?_) rfl (by kernel_rfl) (by kernel_rfl) (by kernel_rfl) (fun _ _ _ h => h) (Or.inl ⟨by rfl, ?_⟩) hHeld ?_
  rotate_left
  · intro w hSw
    (try dsimp only at hSw)
    go_simp
    try with_reducible rfl
  (try simp only [Act.put]); (try simp only [List.setIfInBounds_toArray]); (try simp only [List.getElem_toArray]); (repeat (first | simp only [List.getElem_cons_succ] | simp only [List.getElem_cons_zero])); (repeat (first | simp only [List.set_cons_succ] | simp only [List.set_cons_zero]))
  refine wpAnyH_take (i := 10) (v := ?_) rfl (by kernel_rfl) (by kernel_rfl) (by kernel_rfl) (fun _ _ _ h => h) (Or.inl ⟨by rfl, ?_⟩) hHeld ?_
  rotate_left
  · intro w hSw
    (try dsimp only at hSw)
    go_simp
    try with_reducible rfl
  (try simp only [Act.put]); (try simp only [List.setIfInBounds_toArray]); (try simp only [List.getElem_toArray]); (repeat (first | simp only [List.getElem_cons_succ] | simp only [List.getElem_cons_zero])); (repeat (first | simp only [List.set_cons_succ] | simp only [List.set_cons_zero]))
  refine wpAnyH_take (i := 11) (v := ?_) rfl (by kernel_rfl) (by kernel_rfl) (by kernel_rfl) (fun _ _ _ h => h) (Or.inl ⟨by rfl, ?_⟩) hHeld ?_
  rotate_left
  · intro w hSw
    (try dsimp only at hSw)
    go_simp
    try with_reducible rfl
  (try simp only [Act.put]); (try simp only [List.setIfInBounds_toArray]); (try simp only [List.getElem_toArray]); (repeat (first | simp only [List.getElem_cons_succ] | simp only [List.getElem_cons_zero])); (repeat (first | simp only [List.set_cons_succ] | simp only [List.set_cons_zero]))
  refine wpAnyH_done (by kernel_rfl) ?_ _
  go_simp
  have HB6 := keepH (below_chain HB3.out HEE.out)
  go_wp2_with fail
  go_ret2
  exact ⟨by simp, HB6.out⟩
set_option maxRecDepth 100000 in
set_option maxHeartbeats 8000000 in
theorem dPrint_3 (key val old hnd : Nat) (set : Bool) (rt ri : Int) (kp : Option Addr) (kc lo hi : Nat) (keys : List Nat) (h1 : isU key) (h2 : isU val) (h3 : isU old) (h4 : isU hnd) (h5 : isU lo) (h6 : isU hi) (ha : isI rt) (hb : isI ri) (hf : faultN 3 key val old hnd set rt ri kp keys.length kc lo hi = 0) (W : World) (T : Tb W) :
    Calls Tryz.prog 8 #[.agg (opR 3 key val old hnd set rt ri (.slice kp keys.length kc) lo hi)] W fun e W' => e = .returned (.tuple #[.string (mkS (opT 3 key val old hnd set rt ri keys lo hi)), .int .i64 0]) ∧ Below W.heap.size W W' := by
  have hop := fun w => dOp_any 3 key val old hnd set rt ri kp keys.length kc lo hi (by omega) h1 h2 h3 h4 h5 h6 ha hb w
  rw [hf] at hop
  have HOP := keepH hop
  have HWO := keepH (fun w => dWord_any 3 (by omega) w)
  have HHD := keepH (fun w => dHandled_any 3 w)
  rw [show hndK 3 = false from rfl] at HHD
  have l0 := opW_len 3
  have lkey := dec_len h1
  obtain ⟨skey, hskey⟩ : ∃ s, s = mkS (Lib.decDigits key) := ⟨_, rfl⟩
  have hnkey := fun w (hbe : Below W.heap.size W w) => dNum_any key h1 w (T.on hbe)
  rw [← hskey] at hnkey
  have HNkey := keepH hnkey
  clear hnkey
  obtain ⟨s0, hs0⟩ : ∃ s, s = mkS (opW 3) := ⟨_, rfl⟩
  rw [← hs0] at HWO
  have k1 := add_str [32] (Lib.decDigits key) (by (try simp only [List.length_append]); (try simp only [List.length_cons]); (try simp only [List.length_nil]); omega)
  rw [show mkS [32] = ⟨#[32]⟩ from rfl] at k1
  rw [← hskey] at k1
  obtain ⟨g1, hg1⟩ : ∃ g, g = mkS ([32] ++ (Lib.decDigits key)) := ⟨_, rfl⟩
  rw [← hg1] at k1
  have k2 := add_str (opW 3) ([32] ++ (Lib.decDigits key)) (by (try simp only [List.length_append]); (try simp only [List.length_cons]); (try simp only [List.length_nil]); omega)
  rw [← hs0] at k2
  rw [← hg1] at k2
  obtain ⟨g2, hg2⟩ : ∃ g, g = mkS ((opW 3) ++ ([32] ++ (Lib.decDigits key))) := ⟨_, rfl⟩
  rw [← hg2] at k2
  have hfin : mkS (opT 3 key val old hnd set rt ri keys lo hi) = g2 := by
    rw [hg2]
    first | rfl | (congr 1; unfold opT partsO; rw [show hndK 3 = false from rfl, show kysK 3 = false from rfl, show numK 3 = [1] from rfl]; simp [join_flat, numAt]) | (exact congrArg mkS (by unfold opT partsO; simp [hndK, kysK, numK, Lib.join_one]))
  rw [hfin]
  obtain ⟨w1, hw1⟩ : ∃ w1, w1 = W.alloc (.cells (opR 3 key val old hnd set rt ri (.slice kp keys.length kc) lo hi) 28) := ⟨_, rfl⟩
  obtain ⟨P, hP⟩ : ∃ P, P = W.heap.size := ⟨_, rfl⟩
  have B1 : Below W.heap.size W w1 := by rw [hw1]; exact below_alloc _ _
  have X1 : w1.heap[P]? = some (.cells (opR 3 key val old hnd set rt ri (.slice kp keys.length kc) lo hi) 28 (0, 0)) := by rw [hw1, hP]; exact heap_alloc_new _ _
  have HW1 := keepH hw1
  have HP := keepH hP
  have HB1 := keepH B1
  have HX1 := keepH X1
  obtain ⟨n, hn⟩ : ∃ n, n = keys.length := ⟨_, rfl⟩
  rw [← hn] at HOP HX1 HW1 ⊢
  have HN := keepH hn
  clear hop hw1 hP B1 X1 hf T h1 h2 h3 h4 h5 h6 ha hb hn
  clear hs0 l0 hskey lkey hg1 hg2 hfin
  go_enter Tryz.func8, Tryz.ntmps8
  go_upto_region 1 with fail
  rw [← HW1.out, ← HP.out]
  have c0 : w1.cell? ⟨P, 0, none⟩ = _ := cell_of HX1.out 0
  have c1 : w1.cell? ⟨P, 1, none⟩ = _ := cell_of HX1.out 1
  have c2 : w1.cell? ⟨P, 2, none⟩ = _ := cell_of HX1.out 2
  have c3 : w1.cell? ⟨P, 3, none⟩ = _ := cell_of HX1.out 3
  have c4 : w1.cell? ⟨P, 4, none⟩ = _ := cell_of HX1.out 4
  have c5 : w1.cell? ⟨P, 5, none⟩ = _ := cell_of HX1.out 5
  have c6 : w1.cell? ⟨P, 6, none⟩ = _ := cell_of HX1.out 6
  have c7 : w1.cell? ⟨P, 7, none⟩ = _ := cell_of HX1.out 7
  have c8 : w1.cell? ⟨P, 8, none⟩ = _ := cell_of HX1.out 8
  have c9 : w1.cell? ⟨P, 9, none⟩ = _ := cell_of HX1.out 9
  have c10 : w1.cell? ⟨P, 10, none⟩ = _ := cell_of HX1.out 10
  go_wp2_with fail
  refine (HOP.out w1).mono ?_
  rintro e w2 ⟨rfl, B2⟩
  have HX2 := keepH (heap_below HX1.out B2)
  have HB2 := keepH (below_chain HB1.out B2)
  clear B2 c0 c1 c2 c3 c4 c5 c6 c7 c8 c9 c10
  have c0 : w2.cell? ⟨P, 0, none⟩ = _ := cell_of HX2.out 0
  have c1 : w2.cell? ⟨P, 1, none⟩ = _ := cell_of HX2.out 1
  have c2 : w2.cell? ⟨P, 2, none⟩ = _ := cell_of HX2.out 2
  have c3 : w2.cell? ⟨P, 3, none⟩ = _ := cell_of HX2.out 3
  have c4 : w2.cell? ⟨P, 4, none⟩ = _ := cell_of HX2.out 4
  have c5 : w2.cell? ⟨P, 5, none⟩ = _ := cell_of HX2.out 5
  have c6 : w2.cell? ⟨P, 6, none⟩ = _ := cell_of HX2.out 6
  have c7 : w2.cell? ⟨P, 7, none⟩ = _ := cell_of HX2.out 7
  have c8 : w2.cell? ⟨P, 8, none⟩ = _ := cell_of HX2.out 8
  have c9 : w2.cell? ⟨P, 9, none⟩ = _ := cell_of HX2.out 9
  have c10 : w2.cell? ⟨P, 10, none⟩ = _ := cell_of HX2.out 10
  go_wp2_with fail
  refine (HWO.out w2).mono ?_
  rintro e w3 ⟨rfl, B3⟩
  have HX3 := keepH (heap_below HX2.out B3)
  have HB3 := keepH (below_chain HB2.out B3)
  clear B3 c0 c1 c2 c3 c4 c5 c6 c7 c8 c9 c10
  have c0 : w3.cell? ⟨P, 0, none⟩ = _ := cell_of HX3.out 0
  have c1 : w3.cell? ⟨P, 1, none⟩ = _ := cell_of HX3.out 1
  have c2 : w3.cell? ⟨P, 2, none⟩ = _ := cell_of HX3.out 2
  have c3 : w3.cell? ⟨P, 3, none⟩ = _ := cell_of HX3.out 3
  have c4 : w3.cell? ⟨P, 4, none⟩ = _ := cell_of HX3.out 4
  have c5 : w3.cell? ⟨P, 5, none⟩ = _ := cell_of HX3.out 5
  have c6 : w3.cell? ⟨P, 6, none⟩ = _ := cell_of HX3.out 6
  have c7 : w3.cell? ⟨P, 7, none⟩ = _ := cell_of HX3.out 7
  have c8 : w3.cell? ⟨P, 8, none⟩ = _ := cell_of HX3.out 8
  have c9 : w3.cell? ⟨P, 9, none⟩ = _ := cell_of HX3.out 9
  have c10 : w3.cell? ⟨P, 10, none⟩ = _ := cell_of HX3.out 10
  go_wp2_with fail
  refine (HHD.out w3).mono ?_
  rintro e wx ⟨rfl, hwx⟩
  rw [hwx]
  clear hwx
  go_wp2_with fail
  refine (HNkey.out w3 HB3.out).mono ?_
  rintro e w5 ⟨rfl, B5⟩
  have HB5 := keepH (below_chain HB3.out B5)
  clear B5 c0 c1 c2 c3 c4 c5 c6 c7 c8 c9 c10
  go_wp2_with fail
  go_ret2
  exact ⟨by simp, HB5.out⟩
set_option maxRecDepth 100000 in
set_option maxHeartbeats 8000000 in
theorem dPrint_4 (key val old hnd : Nat) (set : Bool) (rt ri : Int) (kp : Option Addr) (kc lo hi : Nat) (keys : List Nat) (h1 : isU key) (h2 : isU val) (h3 : isU old) (h4 : isU hnd) (h5 : isU lo) (h6 : isU hi) (ha : isI rt) (hb : isI ri) (hf : faultN 4 key val old hnd set rt ri kp keys.length kc lo hi = 0) (W : World) (T : Tb W) :
    Calls Tryz.prog 8 #[.agg (opR 4 key val old hnd set rt ri (.slice kp keys.length kc) lo hi)] W fun e W' => e = .returned (.tuple #[.string (mkS (opT 4 key val old hnd set rt ri keys lo hi)), .int .i64 0]) ∧ Below W.heap.size W W' := by
  have hop := fun w => dOp_any 4 key val old hnd set rt ri kp keys.length kc lo hi (by omega) h1 h2 h3 h4 h5 h6 ha hb w
  rw [hf] at hop
  have HOP := keepH hop
  have HWO := keepH (fun w => dWord_any 4 (by omega) w)
  have HHD := keepH (fun w => dHandled_any 4 w)
  rw [show hndK 4 = false from rfl] at HHD
  have l0 := opW_len 4
  have lkey := dec_len h1
  obtain ⟨skey, hskey⟩ : ∃ s, s = mkS (Lib.decDigits key) := ⟨_, rfl⟩
  have hnkey := fun w (hbe : Below W.heap.size W w) => dNum_any key h1 w (T.on hbe)
  rw [← hskey] at hnkey
  have HNkey := keepH hnkey
  clear hnkey
  have lold := dec_len h3
  obtain ⟨sold, hsold⟩ : ∃ s, s = mkS (Lib.decDigits old) := ⟨_, rfl⟩
  have hnold := fun w (hbe : Below W.heap.size W w) => dNum_any old h3 w (T.on hbe)
  rw [← hsold] at hnold
  have HNold := keepH hnold
  clear hnold
  have lval := dec_len h2
  obtain ⟨sval, hsval⟩ : ∃ s, s = mkS (Lib.decDigits val) := ⟨_, rfl⟩
  have hnval := fun w (hbe : Below W.heap.size W w) => dNum_any val h2 w (T.on hbe)
  rw [← hsval] at hnval
  have HNval := keepH hnval
  clear hnval
  obtain ⟨s0, hs0⟩ : ∃ s, s = mkS (opW 4) := ⟨_, rfl⟩
  rw [← hs0] at HWO
  have k1 := add_str [32] (Lib.decDigits key) (by (try simp only [List.length_append]); (try simp only [List.length_cons]); (try simp only [List.length_nil]); omega)
  rw [show mkS [32] = ⟨#[32]⟩ from rfl] at k1
  rw [← hskey] at k1
  obtain ⟨g1, hg1⟩ : ∃ g, g = mkS ([32] ++ (Lib.decDigits key)) := ⟨_, rfl⟩
  rw [← hg1] at k1
  have k2 := add_str ([32] ++ (Lib.decDigits key)) [32] (by (try simp only [List.length_append]); (try simp only [List.length_cons]); (try simp only [List.length_nil]); omega)
  rw [← hg1] at k2
  rw [show mkS [32] = ⟨#[32]⟩ from rfl] at k2
  obtain ⟨g2, hg2⟩ : ∃ g, g = mkS (([32] ++ (Lib.decDigits key)) ++ [32]) := ⟨_, rfl⟩
  rw [← hg2] at k2
  have k3 := add_str (([32] ++ (Lib.decDigits key)) ++ [32]) (Lib.decDigits old) (by (try simp only [List.length_append]); (try simp only [List.length_cons]); (try simp only [List.length_nil]); omega)
  rw [← hg2] at k3
  rw [← hsold] at k3
  obtain ⟨g3, hg3⟩ : ∃ g, g = mkS ((([32] ++ (Lib.decDigits key)) ++ [32]) ++ (Lib.decDigits old)) := ⟨_, rfl⟩
  rw [← hg3] at k3
  have k4 := add_str ((([32] ++ (Lib.decDigits key)) ++ [32]) ++ (Lib.decDigits old)) [32] (by (try simp only [List.length_append]); (try simp only [List.length_cons]); (try simp only [List.length_nil]); omega)
  rw [← hg3] at k4
  rw [show mkS [32] = ⟨#[32]⟩ from rfl] at k4
  obtain ⟨g4, hg4⟩ : ∃ g, g = mkS (((([32] ++ (Lib.decDigits key)) ++ [32]) ++ (Lib.decDigits old)) ++ [32]) := ⟨_, rfl⟩
  rw [← hg4] at k4
  have k5 := add_str (((([32] ++ (Lib.decDigits key)) ++ [32]) ++ (Lib.decDigits old)) ++ [32]) (Lib.decDigits val) (by (try simp only [List.length_append]); (try simp only [List.length_cons]); (try simp only [List.length_nil]); omega)
  rw [← hg4] at k5
  rw [← hsval] at k5
  obtain ⟨g5, hg5⟩ : ∃ g, g = mkS ((((([32] ++ (Lib.decDigits key)) ++ [32]) ++ (Lib.decDigits old)) ++ [32]) ++ (Lib.decDigits val)) := ⟨_, rfl⟩
  rw [← hg5] at k5
  have k6 := add_str (opW 4) ((((([32] ++ (Lib.decDigits key)) ++ [32]) ++ (Lib.decDigits old)) ++ [32]) ++ (Lib.decDigits val)) (by (try simp only [List.length_append]); (try simp only [List.length_cons]); (try simp only [List.length_nil]); omega)
  rw [← hs0] at k6
  rw [← hg5] at k6
  obtain ⟨g6, hg6⟩ : ∃ g, g = mkS ((opW 4) ++ ((((([32] ++ (Lib.decDigits key)) ++ [32]) ++ (Lib.decDigits old)) ++ [32]) ++ (Lib.decDigits val))) := ⟨_, rfl⟩
  rw [← hg6] at k6
  have hfin : mkS (opT 4 key val old hnd set rt ri keys lo hi) = g6 := by
    rw [hg6]
    first | rfl | (congr 1; unfold opT partsO; rw [show hndK 4 = false from rfl, show kysK 4 = false from rfl, show numK 4 = [1, 3, 2] from rfl]; simp [join_flat, numAt]) | (exact congrArg mkS (by unfold opT partsO; simp [hndK, kysK, numK, Lib.join_one]))
  rw [hfin]
  obtain ⟨w1, hw1⟩ : ∃ w1, w1 = W.alloc (.cells (opR 4 key val old hnd set rt ri (.slice kp keys.length kc) lo hi) 28) := ⟨_, rfl⟩
  obtain ⟨P, hP⟩ : ∃ P, P = W.heap.size := ⟨_, rfl⟩
  have B1 : Below W.heap.size W w1 := by rw [hw1]; exact below_alloc _ _
  have X1 : w1.heap[P]? = some (.cells (opR 4 key val old hnd set rt ri (.slice kp keys.length kc) lo hi) 28 (0, 0)) := by rw [hw1, hP]; exact heap_alloc_new _ _
  have HW1 := keepH hw1
  have HP := keepH hP
  have HB1 := keepH B1
  have HX1 := keepH X1
  obtain ⟨n, hn⟩ : ∃ n, n = keys.length := ⟨_, rfl⟩
  rw [← hn] at HOP HX1 HW1 ⊢
  have HN := keepH hn
  clear hop hw1 hP B1 X1 hf T h1 h2 h3 h4 h5 h6 ha hb hn
  clear hs0 l0 hskey lkey hsold lold hsval lval hg1 hg2 hg3 hg4 hg5 hg6 hfin
  go_enter Tryz.func8, Tryz.ntmps8
  go_upto_region 1 with fail
  rw [← HW1.out, ← HP.out]
  have c0 : w1.cell? ⟨P, 0, none⟩ = _ := cell_of HX1.out 0
  have c1 : w1.cell? ⟨P, 1, none⟩ = _ := cell_of HX1.out 1
  have c2 : w1.cell? ⟨P, 2, none⟩ = _ := cell_of HX1.out 2
  have c3 : w1.cell? ⟨P, 3, none⟩ = _ := cell_of HX1.out 3
  have c4 : w1.cell? ⟨P, 4, none⟩ = _ := cell_of HX1.out 4
  have c5 : w1.cell? ⟨P, 5, none⟩ = _ := cell_of HX1.out 5
  have c6 : w1.cell? ⟨P, 6, none⟩ = _ := cell_of HX1.out 6
  have c7 : w1.cell? ⟨P, 7, none⟩ = _ := cell_of HX1.out 7
  have c8 : w1.cell? ⟨P, 8, none⟩ = _ := cell_of HX1.out 8
  have c9 : w1.cell? ⟨P, 9, none⟩ = _ := cell_of HX1.out 9
  have c10 : w1.cell? ⟨P, 10, none⟩ = _ := cell_of HX1.out 10
  go_wp2_with fail
  refine (HOP.out w1).mono ?_
  rintro e w2 ⟨rfl, B2⟩
  have HX2 := keepH (heap_below HX1.out B2)
  have HB2 := keepH (below_chain HB1.out B2)
  clear B2 c0 c1 c2 c3 c4 c5 c6 c7 c8 c9 c10
  have c0 : w2.cell? ⟨P, 0, none⟩ = _ := cell_of HX2.out 0
  have c1 : w2.cell? ⟨P, 1, none⟩ = _ := cell_of HX2.out 1
  have c2 : w2.cell? ⟨P, 2, none⟩ = _ := cell_of HX2.out 2
  have c3 : w2.cell? ⟨P, 3, none⟩ = _ := cell_of HX2.out 3
  have c4 : w2.cell? ⟨P, 4, none⟩ = _ := cell_of HX2.out 4
  have c5 : w2.cell? ⟨P, 5, none⟩ = _ := cell_of HX2.out 5
  have c6 : w2.cell? ⟨P, 6, none⟩ = _ := cell_of HX2.out 6
  have c7 : w2.cell? ⟨P, 7, none⟩ = _ := cell_of HX2.out 7
  have c8 : w2.cell? ⟨P, 8, none⟩ = _ := cell_of HX2.out 8
  have c9 : w2.cell? ⟨P, 9, none⟩ = _ := cell_of HX2.out 9
  have c10 : w2.cell? ⟨P, 10, none⟩ = _ := cell_of HX2.out 10
  go_wp2_with fail
  refine (HWO.out w2).mono ?_
  rintro e w3 ⟨rfl, B3⟩
  have HX3 := keepH (heap_below HX2.out B3)
  have HB3 := keepH (below_chain HB2.out B3)
  clear B3 c0 c1 c2 c3 c4 c5 c6 c7 c8 c9 c10
  have c0 : w3.cell? ⟨P, 0, none⟩ = _ := cell_of HX3.out 0
  have c1 : w3.cell? ⟨P, 1, none⟩ = _ := cell_of HX3.out 1
  have c2 : w3.cell? ⟨P, 2, none⟩ = _ := cell_of HX3.out 2
  have c3 : w3.cell? ⟨P, 3, none⟩ = _ := cell_of HX3.out 3
  have c4 : w3.cell? ⟨P, 4, none⟩ = _ := cell_of HX3.out 4
  have c5 : w3.cell? ⟨P, 5, none⟩ = _ := cell_of HX3.out 5
  have c6 : w3.cell? ⟨P, 6, none⟩ = _ := cell_of HX3.out 6
  have c7 : w3.cell? ⟨P, 7, none⟩ = _ := cell_of HX3.out 7
  have c8 : w3.cell? ⟨P, 8, none⟩ = _ := cell_of HX3.out 8
  have c9 : w3.cell? ⟨P, 9, none⟩ = _ := cell_of HX3.out 9
  have c10 : w3.cell? ⟨P, 10, none⟩ = _ := cell_of HX3.out 10
  go_wp2_with fail
  refine (HHD.out w3).mono ?_
  rintro e wx ⟨rfl, hwx⟩
  rw [hwx]
  clear hwx
  go_upto_region 16 with fail
  have HQ1 := keepH c1
  have HQ3 := keepH c3
  have HQ2 := keepH c2
  clear c0 c1 c2 c3 c4 c5 c6 c7 c8 c9 c10
  refine wp_region_held_drew (S := fun w => Below w3.heap.size w3 w) (by kernel_rfl) (below_drewN (Below.refl _ _) 1) ?_
  intro hHeld
  refine wpAnyH_take (i := 0) (v := ?_) rfl (by kernel_rfl) (by kernel_rfl) (by kernel_rfl) (fun _ _ _ h => h) (Or.inl ⟨by rfl, ?_⟩) hHeld ?_
  rotate_left
  · intro w hSw
    (try dsimp only at hSw)
    go_simp
    try with_reducible rfl
  (try simp only [Act.put]); (try simp only [List.setIfInBounds_toArray]); (try simp only [List.getElem_toArray]); (repeat (first | simp only [List.getElem_cons_succ] | simp only [List.getElem_cons_zero])); (repeat (first | simp only [List.set_cons_succ] | simp only [List.set_cons_zero]))
  refine wpAnyH_take (i := 1) (v := ?_) rfl (by kernel_rfl) (by kernel_rfl) (by kernel_rfl) (fun _ _ _ h => h) (Or.inl ⟨by rfl, ?_⟩) hHeld ?_
  rotate_left
  · intro w hSw
    (try dsimp only at hSw)
    go_simp
    try with_reducible rfl
  (try simp only [Act.put]); (try simp only [List.setIfInBounds_toArray]); (try simp only [List.getElem_toArray]); (repeat (first | simp only [List.getElem_cons_succ] | simp only [List.getElem_cons_zero])); (repeat (first | simp only [List.set_cons_succ] | simp only [List.set_cons_zero]))
  refine wpAnyH_take (i := 2) (v := ?_) rfl (by kernel_rfl) (by kernel_rfl) (by kernel_rfl) (fun _ _ _ h => h) (Or.inl ⟨by rfl, ?_⟩) hHeld ?_
  rotate_left
  · intro w hSw
    (try dsimp only at hSw)
    have y := cell_below HQ1.out hSw
    go_simp
    try with_reducible rfl
  (try simp only [Act.put]); (try simp only [List.setIfInBounds_toArray]); (try simp only [List.getElem_toArray]); (repeat (first | simp only [List.getElem_cons_succ] | simp only [List.getElem_cons_zero])); (repeat (first | simp only [List.set_cons_succ] | simp only [List.set_cons_zero]))
  refine wpAnyH_take (i := 6) (v := ?_) rfl (by kernel_rfl) (by kernel_rfl) (by kernel_rfl) (fun _ _ _ h => h) (Or.inl ⟨by rfl, ?_⟩) hHeld ?_
  rotate_left
  · intro w hSw
    (try dsimp only at hSw)
    go_simp
    try with_reducible rfl
  (try simp only [Act.put]); (try simp only [List.setIfInBounds_toArray]); (try simp only [List.getElem_toArray]); (repeat (first | simp only [List.getElem_cons_succ] | simp only [List.getElem_cons_zero])); (repeat (first | simp only [List.set_cons_succ] | simp only [List.set_cons_zero]))
  refine wpAnyH_take (i := 7) (v := ?_) rfl (by kernel_rfl) (by kernel_rfl) (by kernel_rfl) (fun _ _ _ h => h) (Or.inl ⟨by rfl, ?_⟩) hHeld ?_
  rotate_left
  · intro w hSw
    (try dsimp only at hSw)
    have y := cell_below HQ3.out hSw
    go_simp
    try with_reducible rfl
  (try simp only [Act.put]); (try simp only [List.setIfInBounds_toArray]); (try simp only [List.getElem_toArray]); (repeat (first | simp only [List.getElem_cons_succ] | simp only [List.getElem_cons_zero])); (repeat (first | simp only [List.set_cons_succ] | simp only [List.set_cons_zero]))
  refine wpAnyH_take (i := 11) (v := ?_) rfl (by kernel_rfl) (by kernel_rfl) (by kernel_rfl) (fun _ _ _ h => h) (Or.inl ⟨by rfl, ?_⟩) hHeld ?_
  rotate_left
  · intro w hSw
    (try dsimp only at hSw)
    go_simp
    try with_reducible rfl
  (try simp only [Act.put]); (try simp only [List.setIfInBounds_toArray]); (try simp only [List.getElem_toArray]); (repeat (first | simp only [List.getElem_cons_succ] | simp only [List.getElem_cons_zero])); (repeat (first | simp only [List.set_cons_succ] | simp only [List.set_cons_zero]))
  refine wpAnyH_take (i := 12) (v := ?_) rfl (by kernel_rfl) (by kernel_rfl) (by kernel_rfl) (fun _ _ _ h => h) (Or.inl ⟨by rfl, ?_⟩) hHeld ?_
  rotate_left
  · intro w hSw
    (try dsimp only at hSw)
    have y := cell_below HQ2.out hSw
    go_simp
    try with_reducible rfl
  (try simp only [Act.put]); (try simp only [List.setIfInBounds_toArray]); (try simp only [List.getElem_toArray]); (repeat (first | simp only [List.getElem_cons_succ] | simp only [List.getElem_cons_zero])); (repeat (first | simp only [List.set_cons_succ] | simp only [List.set_cons_zero]))
  refine wpAnyH_ready (rs := [3]) (by kernel_rfl) (by simp) ?_
  refine AllReadyH.cons rfl (fun KK hKK => ?_) AllReadyH.nil
  go_simp
  refine (HNkey.out _ (below_chain HB3.out hHeld)).mono ?_
  rintro e v3 ⟨rfl, D3⟩
  have E3 := below_chain hHeld D3
  clear D3
  refine hKK.out _ _ ?_ (fun hHeld => ?_)
  · exact E3
  clear hKK KK
  (try simp only [Act.put]); (try simp only [List.setIfInBounds_toArray]); (try simp only [List.getElem_toArray]); (repeat (first | simp only [List.getElem_cons_succ] | simp only [List.getElem_cons_zero])); (repeat (first | simp only [List.set_cons_succ] | simp only [List.set_cons_zero]))
  refine wpAnyH_take (i := 4) (v := ?_) rfl (by kernel_rfl) (by kernel_rfl) (by kernel_rfl) (fun _ _ _ h => h) (Or.inl ⟨by rfl, ?_⟩) hHeld ?_
  rotate_left
  · intro w hSw
    (try dsimp only at hSw)
    go_simp
    try with_reducible rfl
  (try simp only [Act.put]); (try simp only [List.setIfInBounds_toArray]); (try simp only [List.getElem_toArray]); (repeat (first | simp only [List.getElem_cons_succ] | simp only [List.getElem_cons_zero])); (repeat (first | simp only [List.set_cons_succ] | simp only [List.set_cons_zero]))
  refine wpAnyH_take (i := 5) (v := ?_) rfl (by kernel_rfl) (by kernel_rfl) (by kernel_rfl) (fun _ _ _ h => h) (Or.inl ⟨by rfl, ?_⟩) hHeld ?_
  rotate_left
  · intro w hSw
    (try dsimp only at hSw)
    go_simp
    try with_reducible rfl
  (try simp only [Act.put]); (try simp only [List.setIfInBounds_toArray]); (try simp only [List.getElem_toArray]); (repeat (first | simp only [List.getElem_cons_succ] | simp only [List.getElem_cons_zero])); (repeat (first | simp only [List.set_cons_succ] | simp only [List.set_cons_zero]))
  refine wpAnyH_ready (rs := [8]) (by kernel_rfl) (by simp) ?_
  refine AllReadyH.cons rfl (fun KK hKK => ?_) AllReadyH.nil
  go_simp
  refine (HNold.out _ (below_chain HB3.out hHeld)).mono ?_
  rintro e v4 ⟨rfl, D4⟩
  have E4 := below_chain hHeld D4
  clear D4
  refine hKK.out _ _ ?_ (fun hHeld => ?_)
  · exact E4
  clear hKK KK
  (try simp only [Act.put]); (try simp only [List.setIfInBounds_toArray]); (try simp only [List.getElem_toArray]); (repeat (first | simp only [List.getElem_cons_succ] | simp only [List.getElem_cons_zero])); (repeat (first | simp only [List.set_cons_succ] | simp only [List.set_cons_zero]))
  refine wpAnyH_take (i := 9) (v := ?_) rfl (by kernel_rfl) (by kernel_rfl) (by kernel_rfl) (fun _ _ _ h => h) (Or.inl ⟨by rfl, ?_⟩) hHeld ?_
  rotate_left
  · intro w hSw
    (try dsimp only at hSw)
    go_simp
    try with_reducible rfl
  (try simp only [Act.put]); (try simp only [List.setIfInBounds_toArray]); (try simp only [List.getElem_toArray]); (repeat (first | simp only [List.getElem_cons_succ] | simp only [List.getElem_cons_zero])); (repeat (first | simp only [List.set_cons_succ] | simp only [List.set_cons_zero]))
  refine wpAnyH_take (i := 10) (v := ?_) rfl (by kernel_rfl) (by kernel_rfl) (by kernel_rfl) (fun _ _ _ h => h) (Or.inl ⟨by rfl, ?_⟩) hHeld ?_
  rotate_left
  · intro w hSw
    (try dsimp only at hSw)
    go_simp
    try with_reducible rfl
  (try simp only [Act.put]); (try simp only [List.setIfInBounds_toArray]); (try simp only [List.getElem_toArray]); (repeat (first | simp only [List.getElem_cons_succ] | simp only [List.getElem_cons_zero])); (repeat (first | simp only [List.set_cons_succ] | simp only [List.set_cons_zero]))
  refine wpAnyH_ready (rs := [13]) (by kernel_rfl) (by simp) ?_
  refine AllReadyH.cons rfl (fun KK hKK => ?_) AllReadyH.nil
  go_simp
  refine (HNval.out _ (below_chain HB3.out hHeld)).mono ?_
  rintro e v5 ⟨rfl, D5⟩
  have E5 := below_chain hHeld D5
  have HEE := keepH E5
  clear D5
  refine hKK.out _ _ ?_ (fun hHeld => ?_)
  · exact E5
  clear hKK KK
  (try simp only [Act.put]); (try simp only [List.setIfInBounds_toArray]); (try simp only [List.getElem_toArray]); (repeat (first | simp only [List.getElem_cons_succ] | simp only [List.getElem_cons_zero])); (repeat (first | simp only [List.set_cons_succ] | simp only [List.set_cons_zero]))
  refine wpAnyH_take (i := 14) (v := ?_) rfl (by kernel_rfl) (by kernel_rfl) (by kernel_rfl) (fun _ _ _ h => h) (Or.inl ⟨by rfl, ?_⟩) hHeld ?_
  rotate_left
  · intro w hSw
    (try dsimp only at hSw)
    go_simp
    try with_reducible rfl
  (try simp only [Act.put]); (try simp only [List.setIfInBounds_toArray]); (try simp only [List.getElem_toArray]); (repeat (first | simp only [List.getElem_cons_succ] | simp only [List.getElem_cons_zero])); (repeat (first | simp only [List.set_cons_succ] | simp only [List.set_cons_zero]))
  refine wpAnyH_take (i := 15) (v := ?_) rfl (by kernel_rfl) (by kernel_rfl) (by kernel_rfl) (fun _ _ _ h => h) (Or.inl ⟨by rfl, ?_⟩) hHeld ?_
  rotate_left
  · intro w hSw
    (try dsimp only at hSw)
    go_simp
    try with_reducible rfl
  (try simp only [Act.put]); (try simp only [List.setIfInBounds_toArray]); (try simp only [List.getElem_toArray]); (repeat (first | simp only [List.getElem_cons_succ] | simp only [List.getElem_cons_zero])); (repeat (first | simp only [List.set_cons_succ] | simp only [List.set_cons_zero]))
  refine wpAnyH_take (i := 16) (v := ?_) rfl (by kernel_rfl) (by kernel_rfl) (by kernel_rfl) (fun _ _ _ h => h) (Or.inl ⟨by rfl, ?_⟩) hHeld ?_
  rotate_left
  · intro w hSw
    (try dsimp only at hSw)
    go_simp
    try with_reducible rfl
  (try simp only [Act.put]); (try simp only [List.setIfInBounds_toArray]); (try simp only [List.getElem_toArray]); (repeat (first | simp only [List.getElem_cons_succ] | simp only [List.getElem_cons_zero])); (repeat (first | simp only [List.set_cons_succ] | simp only [List.set_cons_zero]))
  refine wpAnyH_done (by kernel_rfl) ?_ _
  go_simp
  have HB6 := keepH (below_chain HB3.out HEE.out)
  go_wp2_with fail
  go_ret2
  exact ⟨by simp, HB6.out⟩
set_option maxRecDepth 100000 in
set_option maxHeartbeats 8000000 in
theorem dPrint_5 (key val old hnd : Nat) (set : Bool) (rt ri : Int) (kp : Option Addr) (kc lo hi : Nat) (keys : List Nat) (h1 : isU key) (h2 : isU val) (h3 : isU old) (h4 : isU hnd) (h5 : isU lo) (h6 : isU hi) (ha : isI rt) (hb : isI ri) (hf : faultN 5 key val old hnd set rt ri kp keys.length kc lo hi = 0) (W : World) (T : Tb W) :
    Calls Tryz.prog 8 #[.agg (opR 5 key val old hnd set rt ri (.slice kp keys.length kc) lo hi)] W fun e W' => e = .returned (.tuple #[.string (mkS (opT 5 key val old hnd set rt ri keys lo hi)), .int .i64 0]) ∧ Below W.heap.size W W' := by
  have hop := fun w => dOp_any 5 key val old hnd set rt ri kp keys.length kc lo hi (by omega) h1 h2 h3 h4 h5 h6 ha hb w
  rw [hf] at hop
  have HOP := keepH hop
  have HWO := keepH (fun w => dWord_any 5 (by omega) w)
  have HHD := keepH (fun w => dHandled_any 5 w)
  rw [show hndK 5 = false from rfl] at HHD
  have l0 := opW_len 5
  obtain ⟨s0, hs0⟩ : ∃ s, s = mkS (opW 5) := ⟨_, rfl⟩
  rw [← hs0] at HWO
  have hfin : mkS (opT 5 key val old hnd set rt ri keys lo hi) = s0 := by
    rw [hs0]
    first | rfl | (congr 1; unfold opT partsO; rw [show hndK 5 = false from rfl, show kysK 5 = false from rfl, show numK 5 = [] from rfl]; simp [join_flat]) | (exact congrArg mkS (by unfold opT partsO; simp [hndK, kysK, numK, Lib.join_one]))
  rw [hfin]
  obtain ⟨w1, hw1⟩ : ∃ w1, w1 = W.alloc (.cells (opR 5 key val old hnd set rt ri (.slice kp keys.length kc) lo hi) 28) := ⟨_, rfl⟩
  obtain ⟨P, hP⟩ : ∃ P, P = W.heap.size := ⟨_, rfl⟩
  have B1 : Below W.heap.size W w1 := by rw [hw1]; exact below_alloc _ _
  have X1 : w1.heap[P]? = some (.cells (opR 5 key val old hnd set rt ri (.slice kp keys.length kc) lo hi) 28 (0, 0)) := by rw [hw1, hP]; exact heap_alloc_new _ _
  have HW1 := keepH hw1
  have HP := keepH hP
  have HB1 := keepH B1
  have HX1 := keepH X1
  obtain ⟨n, hn⟩ : ∃ n, n = keys.length := ⟨_, rfl⟩
  rw [← hn] at HOP HX1 HW1 ⊢
  have HN := keepH hn
  clear hop hw1 hP B1 X1 hf T h1 h2 h3 h4 h5 h6 ha hb hn
  clear hs0 l0 hfin
  go_enter Tryz.func8, Tryz.ntmps8
  go_upto_region 1 with fail
  rw [← HW1.out, ← HP.out]
  have c0 : w1.cell? ⟨P, 0, none⟩ = _ := cell_of HX1.out 0
  have c1 : w1.cell? ⟨P, 1, none⟩ = _ := cell_of HX1.out 1
  have c2 : w1.cell? ⟨P, 2, none⟩ = _ := cell_of HX1.out 2
  have c3 : w1.cell? ⟨P, 3, none⟩ = _ := cell_of HX1.out 3
  have c4 : w1.cell? ⟨P, 4, none⟩ = _ := cell_of HX1.out 4
  have c5 : w1.cell? ⟨P, 5, none⟩ = _ := cell_of HX1.out 5
  have c6 : w1.cell? ⟨P, 6, none⟩ = _ := cell_of HX1.out 6
  have c7 : w1.cell? ⟨P, 7, none⟩ = _ := cell_of HX1.out 7
  have c8 : w1.cell? ⟨P, 8, none⟩ = _ := cell_of HX1.out 8
  have c9 : w1.cell? ⟨P, 9, none⟩ = _ := cell_of HX1.out 9
  have c10 : w1.cell? ⟨P, 10, none⟩ = _ := cell_of HX1.out 10
  go_wp2_with fail
  refine (HOP.out w1).mono ?_
  rintro e w2 ⟨rfl, B2⟩
  have HX2 := keepH (heap_below HX1.out B2)
  have HB2 := keepH (below_chain HB1.out B2)
  clear B2 c0 c1 c2 c3 c4 c5 c6 c7 c8 c9 c10
  have c0 : w2.cell? ⟨P, 0, none⟩ = _ := cell_of HX2.out 0
  have c1 : w2.cell? ⟨P, 1, none⟩ = _ := cell_of HX2.out 1
  have c2 : w2.cell? ⟨P, 2, none⟩ = _ := cell_of HX2.out 2
  have c3 : w2.cell? ⟨P, 3, none⟩ = _ := cell_of HX2.out 3
  have c4 : w2.cell? ⟨P, 4, none⟩ = _ := cell_of HX2.out 4
  have c5 : w2.cell? ⟨P, 5, none⟩ = _ := cell_of HX2.out 5
  have c6 : w2.cell? ⟨P, 6, none⟩ = _ := cell_of HX2.out 6
  have c7 : w2.cell? ⟨P, 7, none⟩ = _ := cell_of HX2.out 7
  have c8 : w2.cell? ⟨P, 8, none⟩ = _ := cell_of HX2.out 8
  have c9 : w2.cell? ⟨P, 9, none⟩ = _ := cell_of HX2.out 9
  have c10 : w2.cell? ⟨P, 10, none⟩ = _ := cell_of HX2.out 10
  go_wp2_with fail
  refine (HWO.out w2).mono ?_
  rintro e w3 ⟨rfl, B3⟩
  have HX3 := keepH (heap_below HX2.out B3)
  have HB3 := keepH (below_chain HB2.out B3)
  clear B3 c0 c1 c2 c3 c4 c5 c6 c7 c8 c9 c10
  have c0 : w3.cell? ⟨P, 0, none⟩ = _ := cell_of HX3.out 0
  have c1 : w3.cell? ⟨P, 1, none⟩ = _ := cell_of HX3.out 1
  have c2 : w3.cell? ⟨P, 2, none⟩ = _ := cell_of HX3.out 2
  have c3 : w3.cell? ⟨P, 3, none⟩ = _ := cell_of HX3.out 3
  have c4 : w3.cell? ⟨P, 4, none⟩ = _ := cell_of HX3.out 4
  have c5 : w3.cell? ⟨P, 5, none⟩ = _ := cell_of HX3.out 5
  have c6 : w3.cell? ⟨P, 6, none⟩ = _ := cell_of HX3.out 6
  have c7 : w3.cell? ⟨P, 7, none⟩ = _ := cell_of HX3.out 7
  have c8 : w3.cell? ⟨P, 8, none⟩ = _ := cell_of HX3.out 8
  have c9 : w3.cell? ⟨P, 9, none⟩ = _ := cell_of HX3.out 9
  have c10 : w3.cell? ⟨P, 10, none⟩ = _ := cell_of HX3.out 10
  go_wp2_with fail
  refine (HHD.out w3).mono ?_
  rintro e wx ⟨rfl, hwx⟩
  rw [hwx]
  clear hwx
  go_wp2_with fail
  go_ret2
  exact ⟨by simp, HB3.out⟩
set_option maxRecDepth 100000 in
set_option maxHeartbeats 8000000 in
theorem dPrint_6t (key val old hnd : Nat) (rt ri : Int) (kp : Option Addr) (kc lo hi : Nat) (keys : List Nat) (h1 : isU key) (h2 : isU val) (h3 : isU old) (h4 : isU hnd) (h5 : isU lo) (h6 : isU hi) (ha : isI rt) (hb : isI ri) (hf : faultN 6 key val old hnd true rt ri kp keys.length kc lo hi = 0) (W : World) (T : Tb W) :
    Calls Tryz.prog 8 #[.agg (opR 6 key val old hnd true rt ri (.slice kp keys.length kc) lo hi)] W fun e W' => e = .returned (.tuple #[.string (mkS (opT 6 key val old hnd true rt ri keys lo hi)), .int .i64 0]) ∧ Below W.heap.size W W' := by
  have hop := fun w => dOp_any 6 key val old hnd true rt ri kp keys.length kc lo hi (by omega) h1 h2 h3 h4 h5 h6 ha hb w
  rw [hf] at hop
  have HOP := keepH hop
  have HWO := keepH (fun w => dWord_any 6 (by omega) w)
  have HHD := keepH (fun w => dHandled_any 6 w)
  rw [show hndK 6 = true from rfl] at HHD
  have l0 := opW_len 6
  have lrt := itoa_len ha
  obtain ⟨srt, hsrt⟩ : ∃ s, s = mkS (Lib.itoa rt) := ⟨_, rfl⟩
  have hnrt := fun w (hbe : Below W.heap.size W w) => itoa_any rt ha.1 ha.2 w (T.on hbe)
  rw [← hsrt] at hnrt
  have HNrt := keepH hnrt
  clear hnrt
  have lri := itoa_len hb
  obtain ⟨sri, hsri⟩ : ∃ s, s = mkS (Lib.itoa ri) := ⟨_, rfl⟩
  have hnri := fun w (hbe : Below W.heap.size W w) => itoa_any ri hb.1 hb.2 w (T.on hbe)
  rw [← hsri] at hnri
  have HNri := keepH hnri
  clear hnri
  obtain ⟨s0, hs0⟩ : ∃ s, s = mkS (opW 6) := ⟨_, rfl⟩
  rw [← hs0] at HWO
  have k1 := add_str [32, 64] (Lib.itoa rt) (by (try simp only [List.length_append]); (try simp only [List.length_cons]); (try simp only [List.length_nil]); omega)
  rw [show mkS [32, 64] = ⟨#[32, 64]⟩ from rfl] at k1
  rw [← hsrt] at k1
  obtain ⟨g1, hg1⟩ : ∃ g, g = mkS ([32, 64] ++ (Lib.itoa rt)) := ⟨_, rfl⟩
  rw [← hg1] at k1
  have k2 := add_str ([32, 64] ++ (Lib.itoa rt)) [46] (by (try simp only [List.length_append]); (try simp only [List.length_cons]); (try simp only [List.length_nil]); omega)
  rw [← hg1] at k2
  rw [show mkS [46] = ⟨#[46]⟩ from rfl] at k2
  obtain ⟨g2, hg2⟩ : ∃ g, g = mkS (([32, 64] ++ (Lib.itoa rt)) ++ [46]) := ⟨_, rfl⟩
  rw [← hg2] at k2
  have k3 := add_str (([32, 64] ++ (Lib.itoa rt)) ++ [46]) (Lib.itoa ri) (by (try simp only [List.length_append]); (try simp only [List.length_cons]); (try simp only [List.length_nil]); omega)
  rw [← hg2] at k3
  rw [← hsri] at k3
  obtain ⟨g3, hg3⟩ : ∃ g, g = mkS ((([32, 64] ++ (Lib.itoa rt)) ++ [46]) ++ (Lib.itoa ri)) := ⟨_, rfl⟩
  rw [← hg3] at k3
  have k4 := add_str (opW 6) ((([32, 64] ++ (Lib.itoa rt)) ++ [46]) ++ (Lib.itoa ri)) (by (try simp only [List.length_append]); (try simp only [List.length_cons]); (try simp only [List.length_nil]); omega)
  rw [← hs0] at k4
  rw [← hg3] at k4
  obtain ⟨g4, hg4⟩ : ∃ g, g = mkS ((opW 6) ++ ((([32, 64] ++ (Lib.itoa rt)) ++ [46]) ++ (Lib.itoa ri))) := ⟨_, rfl⟩
  rw [← hg4] at k4
  have hfin : mkS (opT 6 key val old hnd true rt ri keys lo hi) = g4 := by
    rw [hg4]
    first | rfl | (congr 1; unfold opT partsO; rw [show hndK 6 = true from rfl, show kysK 6 = false from rfl, show numK 6 = [] from rfl]; simp [join_flat, hText]) | (exact congrArg mkS (by unfold opT partsO; simp [hndK, kysK, numK, Lib.join_one]))
  rw [hfin]
  obtain ⟨w1, hw1⟩ : ∃ w1, w1 = W.alloc (.cells (opR 6 key val old hnd true rt ri (.slice kp keys.length kc) lo hi) 28) := ⟨_, rfl⟩
  obtain ⟨P, hP⟩ : ∃ P, P = W.heap.size := ⟨_, rfl⟩
  have B1 : Below W.heap.size W w1 := by rw [hw1]; exact below_alloc _ _
  have X1 : w1.heap[P]? = some (.cells (opR 6 key val old hnd true rt ri (.slice kp keys.length kc) lo hi) 28 (0, 0)) := by rw [hw1, hP]; exact heap_alloc_new _ _
  have HW1 := keepH hw1
  have HP := keepH hP
  have HB1 := keepH B1
  have HX1 := keepH X1
  obtain ⟨n, hn⟩ : ∃ n, n = keys.length := ⟨_, rfl⟩
  rw [← hn] at HOP HX1 HW1 ⊢
  have HN := keepH hn
  clear hop hw1 hP B1 X1 hf T h1 h2 h3 h4 h5 h6 ha hb hn
  clear hs0 l0 hsrt lrt hsri lri hg1 hg2 hg3 hg4 hfin
  go_enter Tryz.func8, Tryz.ntmps8
  go_upto_region 1 with fail
  rw [← HW1.out, ← HP.out]
  have c0 : w1.cell? ⟨P, 0, none⟩ = _ := cell_of HX1.out 0
  have c1 : w1.cell? ⟨P, 1, none⟩ = _ := cell_of HX1.out 1
  have c2 : w1.cell? ⟨P, 2, none⟩ = _ := cell_of HX1.out 2
  have c3 : w1.cell? ⟨P, 3, none⟩ = _ := cell_of HX1.out 3
  have c4 : w1.cell? ⟨P, 4, none⟩ = _ := cell_of HX1.out 4
  have c5 : w1.cell? ⟨P, 5, none⟩ = _ := cell_of HX1.out 5
  have c6 : w1.cell? ⟨P, 6, none⟩ = _ := cell_of HX1.out 6
  have c7 : w1.cell? ⟨P, 7, none⟩ = _ := cell_of HX1.out 7
  have c8 : w1.cell? ⟨P, 8, none⟩ = _ := cell_of HX1.out 8
  have c9 : w1.cell? ⟨P, 9, none⟩ = _ := cell_of HX1.out 9
  have c10 : w1.cell? ⟨P, 10, none⟩ = _ := cell_of HX1.out 10
  go_wp2_with fail
  refine (HOP.out w1).mono ?_
  rintro e w2 ⟨rfl, B2⟩
  have HX2 := keepH (heap_below HX1.out B2)
  have HB2 := keepH (below_chain HB1.out B2)
  clear B2 c0 c1 c2 c3 c4 c5 c6 c7 c8 c9 c10
  have c0 : w2.cell? ⟨P, 0, none⟩ = _ := cell_of HX2.out 0
  have c1 : w2.cell? ⟨P, 1, none⟩ = _ := cell_of HX2.out 1
  have c2 : w2.cell? ⟨P, 2, none⟩ = _ := cell_of HX2.out 2
  have c3 : w2.cell? ⟨P, 3, none⟩ = _ := cell_of HX2.out 3
  have c4 : w2.cell? ⟨P, 4, none⟩ = _ := cell_of HX2.out 4
  have c5 : w2.cell? ⟨P, 5, none⟩ = _ := cell_of HX2.out 5
  have c6 : w2.cell? ⟨P, 6, none⟩ = _ := cell_of HX2.out 6
  have c7 : w2.cell? ⟨P, 7, none⟩ = _ := cell_of HX2.out 7
  have c8 : w2.cell? ⟨P, 8, none⟩ = _ := cell_of HX2.out 8
  have c9 : w2.cell? ⟨P, 9, none⟩ = _ := cell_of HX2.out 9
  have c10 : w2.cell? ⟨P, 10, none⟩ = _ := cell_of HX2.out 10
  go_wp2_with fail
  refine (HWO.out w2).mono ?_
  rintro e w3 ⟨rfl, B3⟩
  have HX3 := keepH (heap_below HX2.out B3)
  have HB3 := keepH (below_chain HB2.out B3)
  clear B3 c0 c1 c2 c3 c4 c5 c6 c7 c8 c9 c10
  have c0 : w3.cell? ⟨P, 0, none⟩ = _ := cell_of HX3.out 0
  have c1 : w3.cell? ⟨P, 1, none⟩ = _ := cell_of HX3.out 1
  have c2 : w3.cell? ⟨P, 2, none⟩ = _ := cell_of HX3.out 2
  have c3 : w3.cell? ⟨P, 3, none⟩ = _ := cell_of HX3.out 3
  have c4 : w3.cell? ⟨P, 4, none⟩ = _ := cell_of HX3.out 4
  have c5 : w3.cell? ⟨P, 5, none⟩ = _ := cell_of HX3.out 5
  have c6 : w3.cell? ⟨P, 6, none⟩ = _ := cell_of HX3.out 6
  have c7 : w3.cell? ⟨P, 7, none⟩ = _ := cell_of HX3.out 7
  have c8 : w3.cell? ⟨P, 8, none⟩ = _ := cell_of HX3.out 8
  have c9 : w3.cell? ⟨P, 9, none⟩ = _ := cell_of HX3.out 9
  have c10 : w3.cell? ⟨P, 10, none⟩ = _ := cell_of HX3.out 10
  go_wp2_with fail
  refine (HHD.out w3).mono ?_
  rintro e wx ⟨rfl, hwx⟩
  rw [hwx]
  clear hwx
  go_upto_region 7 with fail
  have HC6 := keepH c6
  have HC7 := keepH c7
  clear c0 c1 c2 c3 c4 c5 c6 c7 c8 c9 c10
  refine wp_region_held_drew (S := fun w => Below w3.heap.size w3 w) (by kernel_rfl) (below_drewN (Below.refl _ _) 1) ?_
  intro hHeld
  refine wpAnyH_take (i := 0) (v := ?_) rfl (by kernel_rfl) (by kernel_rfl) (by kernel_rfl) (fun _ _ _ h => h) (Or.inl ⟨by rfl, ?_⟩) hHeld ?_
  rotate_left
  · intro w hSw
    (try dsimp only at hSw)
    go_simp
    try with_reducible rfl
  (try simp only [Act.put]); (try simp only [List.setIfInBounds_toArray]); (try simp only [List.getElem_toArray]); (repeat (first | simp only [List.getElem_cons_succ] | simp only [List.getElem_cons_zero])); (repeat (first | simp only [List.set_cons_succ] | simp only [List.set_cons_zero]))
  refine wpAnyH_take (i := 1) (v := ?_) rfl (by kernel_rfl) (by kernel_rfl) (by kernel_rfl) (fun _ _ _ h => h) (Or.inl ⟨by rfl, ?_⟩) hHeld ?_
  rotate_left
  · intro w hSw
    (try dsimp only at hSw)
    go_simp
    try with_reducible rfl
  (try simp only [Act.put]); (try simp only [List.setIfInBounds_toArray]); (try simp only [List.getElem_toArray]); (repeat (first | simp only [List.getElem_cons_succ] | simp only [List.getElem_cons_zero])); (repeat (first | simp only [List.set_cons_succ] | simp only [List.set_cons_zero]))
  refine wpAnyH_take (i := 2) (v := ?_) rfl (by kernel_rfl) (by kernel_rfl) (by kernel_rfl) (fun _ _ _ h => h) (Or.inl ⟨by rfl, ?_⟩) hHeld ?_
  rotate_left
  · intro w hSw
    (try dsimp only at hSw)
    go_simp
    try with_reducible rfl
  (try simp only [Act.put]); (try simp only [List.setIfInBounds_toArray]); (try simp only [List.getElem_toArray]); (repeat (first | simp only [List.getElem_cons_succ] | simp only [List.getElem_cons_zero])); (repeat (first | simp only [List.set_cons_succ] | simp only [List.set_cons_zero]))
  refine wpAnyH_take (i := 3) (v := ?_) rfl (by kernel_rfl) (by kernel_rfl) (by kernel_rfl) (fun _ _ _ h => h) (Or.inl ⟨by rfl, ?_⟩) hHeld ?_
  rotate_left
  · intro w hSw
    (try dsimp only at hSw)
    have y6 := cell_below HC6.out hSw
    go_simp
    try with_reducible rfl
  (try simp only [Act.put]); (try simp only [List.setIfInBounds_toArray]); (try simp only [List.getElem_toArray]); (repeat (first | simp only [List.getElem_cons_succ] | simp only [List.getElem_cons_zero])); (repeat (first | simp only [List.set_cons_succ] | simp only [List.set_cons_zero]))
  refine wpAnyH_take (i := 7) (v := ?_) rfl (by kernel_rfl) (by kernel_rfl) (by kernel_rfl) (fun _ _ _ h => h) (Or.inl ⟨by rfl, ?_⟩) hHeld ?_
  rotate_left
  · intro w hSw
    (try dsimp only at hSw)
    go_simp
    try with_reducible rfl
  (try simp only [Act.put]); (try simp only [List.setIfInBounds_toArray]); (try simp only [List.getElem_toArray]); (repeat (first | simp only [List.getElem_cons_succ] | simp only [List.getElem_cons_zero])); (repeat (first | simp only [List.set_cons_succ] | simp only [List.set_cons_zero]))
  refine wpAnyH_take (i := 8) (v := ?_) rfl (by kernel_rfl) (by kernel_rfl) (by kernel_rfl) (fun _ _ _ h => h) (Or.inl ⟨by rfl, ?_⟩) hHeld ?_
  rotate_left
  · intro w hSw
    (try dsimp only at hSw)
    go_simp
    try with_reducible rfl
  (try simp only [Act.put]); (try simp only [List.setIfInBounds_toArray]); (try simp only [List.getElem_toArray]); (repeat (first | simp only [List.getElem_cons_succ] | simp only [List.getElem_cons_zero])); (repeat (first | simp only [List.set_cons_succ] | simp only [List.set_cons_zero]))
  refine wpAnyH_take (i := 9) (v := ?_) rfl (by kernel_rfl) (by kernel_rfl) (by kernel_rfl) (fun _ _ _ h => h) (Or.inl ⟨by rfl, ?_⟩) hHeld ?_
  rotate_left
  · intro w hSw
    (try dsimp only at hSw)
    have y7 := cell_below HC7.out hSw
    go_simp
    try with_reducible rfl
  (try simp only [Act.put]); (try simp only [List.setIfInBounds_toArray]); (try simp only [List.getElem_toArray]); (repeat (first | simp only [List.getElem_cons_succ] | simp only [List.getElem_cons_zero])); (repeat (first | simp only [List.set_cons_succ] | simp only [List.set_cons_zero]))
  refine wpAnyH_ready (rs := [4]) (by kernel_rfl) (by simp) ?_
  refine AllReadyH.cons rfl (fun KK hKK => ?_) AllReadyH.nil
  go_simp
  refine (HNrt.out _ (below_chain HB3.out hHeld)).mono ?_
  rintro e v1 ⟨rfl, D1⟩
  have E1 := below_chain hHeld D1
  clear D1
  refine hKK.out _ _ ?_ (fun hHeld => ?_)
  · exact E1
  clear hKK KK
  (try simp only [Act.put]); (try simp only [List.setIfInBounds_toArray]); (try simp only [List.getElem_toArray]); (repeat (first | simp only [List.getElem_cons_succ] | simp only [List.getElem_cons_zero])); (repeat (first | simp only [List.set_cons_succ] | simp only [List.set_cons_zero]))
  refine wpAnyH_take (i := 5) (v := ?_) rfl (by kernel_rfl) (by kernel_rfl) (by kernel_rfl) (fun _ _ _ h => h) (Or.inl ⟨by rfl, ?_⟩) hHeld ?_
  rotate_left
  · intro w hSw
    (try dsimp only at hSw)
    go_simp
    try with_reducible rfl
  (try simp only [Act.put]); (try simp only [List.setIfInBounds_toArray]); (try simp only [List.getElem_toArray]); (repeat (first | simp only [List.getElem_cons_succ] | simp only [List.getElem_cons_zero])); (repeat (first | simp only [List.set_cons_succ] | simp only [List.set_cons_zero]))
  refine wpAnyH_take (i := 6) (v := ?_) rfl (by kernel_rfl) (by kernel_rfl) (by kernel_rfl) (fun _ _ _ h => h) (Or.inl ⟨by rfl, ?_⟩) hHeld ?_
  rotate_left
  · intro w hSw
    (try dsimp only at hSw)
    go_simp
    try with_reducible rfl
  (try simp only [Act.put]); (try simp only [List.setIfInBounds_toArray]); (try simp only [List.getElem_toArray]); (repeat (first | simp only [List.getElem_cons_succ] | simp only [List.getElem_cons_zero])); (repeat (first | simp only [List.set_cons_succ] | simp only [List.set_cons_zero]))
  refine wpAnyH_ready (rs := [10]) (by kernel_rfl) (by simp) ?_
  refine AllReadyH.cons rfl (fun KK hKK => ?_) AllReadyH.nil
  go_simp
  refine (HNri.out _ (below_chain HB3.out hHeld)).mono ?_
  rintro e v2 ⟨rfl, D2⟩
  have E2 := below_chain hHeld D2
  have HEE := keepH E2
  clear D2
  refine hKK.out _ _ ?_ (fun hHeld => ?_)
  · exact E2
  clear hKK KK
  (try simp only [Act.put]); (try simp only [List.setIfInBounds_toArray]); (try simp only [List.getElem_toArray]); (repeat (first | simp only [List.getElem_cons_succ] | simp only [List.getElem_cons_zero])); (repeat (first | simp only [List.set_cons_succ] | simp only [List.set_cons_zero]))
  refine wpAnyH_take (i := 11) (v := ?_) rfl (by kernel_rfl) (by kernel_rfl) (by kernel_rfl) (fun _ _ _ h => h) (Or.inl ⟨by rfl, ?_⟩) hHeld ?_
  rotate_left
  · intro w hSw
    (try dsimp only at hSw)
    go_simp
    try with_reducible rfl
  (try simp only [Act.put]); (try simp only [List.setIfInBounds_toArray]); (try simp only [List.getElem_toArray]); (repeat (first | simp only [List.getElem_cons_succ] | simp only [List.getElem_cons_zero])); (repeat (first | simp only [List.set_cons_succ] | simp only [List.set_cons_zero]))
  refine wpAnyH_take (i := 12) (v := ?_) rfl (by kernel_rfl) (by kernel_rfl) (by kernel_rfl) (fun _ _ _ h => h) (Or.inl ⟨by rfl, ?_⟩) hHeld ?_
  rotate_left
  · intro w hSw
    (try dsimp only at hSw)
    go_simp
    try with_reducible rfl
  (try simp only [Act.put]); (try simp only [List.setIfInBounds_toArray]); (try simp only [List.getElem_toArray]); (repeat (first | simp only [List.getElem_cons_succ] | simp only [List.getElem_cons_zero])); (repeat (first | simp only [List.set_cons_succ] | simp only [List.set_cons_zero]))
  refine wpAnyH_take (i := 13) (v := ?_) rfl (by kernel_rfl) (by kernel_rfl) (by kernel_rfl) (fun _ _ _ h => h) (Or.inl ⟨by rfl, ?_⟩) hHeld ?_
  rotate_left
  · intro w hSw
    (try dsimp only at hSw)
    go_simp
    try with_reducible rfl
  (try simp only [Act.put]); (try simp only [List.setIfInBounds_toArray]); (try simp only [List.getElem_toArray]); (repeat (first | simp only [List.getElem_cons_succ] | simp only [List.getElem_cons_zero])); (repeat (first | simp only [List.set_cons_succ] | simp only [List.set_cons_zero]))
  refine wpAnyH_done (by kernel_rfl) ?_ _
  go_simp
  have HX4 := keepH (heap_below HX3.out HEE.out)
  have HB4 := keepH (below_chain HB3.out HEE.out)
  clear HEE
  have c0 : v2.cell? ⟨P, 0, none⟩ = _ := cell_of HX4.out 0
  have c1 : v2.cell? ⟨P, 1, none⟩ = _ := cell_of HX4.out 1
  have c2 : v2.cell? ⟨P, 2, none⟩ = _ := cell_of HX4.out 2
  have c3 : v2.cell? ⟨P, 3, none⟩ = _ := cell_of HX4.out 3
  have c4 : v2.cell? ⟨P, 4, none⟩ = _ := cell_of HX4.out 4
  have c5 : v2.cell? ⟨P, 5, none⟩ = _ := cell_of HX4.out 5
  have c6 : v2.cell? ⟨P, 6, none⟩ = _ := cell_of HX4.out 6
  have c7 : v2.cell? ⟨P, 7, none⟩ = _ := cell_of HX4.out 7
  have c8 : v2.cell? ⟨P, 8, none⟩ = _ := cell_of HX4.out 8
  have c9 : v2.cell? ⟨P, 9, none⟩ = _ := cell_of HX4.out 9
  have c10 : v2.cell? ⟨P, 10, none⟩ = _ := cell_of HX4.out 10
  go_wp2_with fail
  go_ret2
  exact ⟨by simp, HB4.out⟩
set_option maxRecDepth 100000 in
set_option maxHeartbeats 8000000 in
theorem dPrint_6f (key val old hnd : Nat) (rt ri : Int) (kp : Option Addr) (kc lo hi : Nat) (keys : List Nat) (h1 : isU key) (h2 : isU val) (h3 : isU old) (h4 : isU hnd) (h5 : isU lo) (h6 : isU hi) (ha : isI rt) (hb : isI ri) (hf : faultN 6 key val old hnd false rt ri kp keys.length kc lo hi = 0) (W : World) (T : Tb W) :
    Calls Tryz.prog 8 #[.agg (opR 6 key val old hnd false rt ri (.slice kp keys.length kc) lo hi)] W fun e W' => e = .returned (.tuple #[.string (mkS (opT 6 key val old hnd false rt ri keys lo hi)), .int .i64 0]) ∧ Below W.heap.size W W' := by
  have hop := fun w => dOp_any 6 key val old hnd false rt ri kp keys.length kc lo hi (by omega) h1 h2 h3 h4 h5 h6 ha hb w
  rw [hf] at hop
  have HOP := keepH hop
  have HWO := keepH (fun w => dWord_any 6 (by omega) w)
  have HHD := keepH (fun w => dHandled_any 6 w)
  rw [show hndK 6 = true from rfl] at HHD
  have l0 := opW_len 6
  have lhnd := dec_len h4
  obtain ⟨shnd, hshnd⟩ : ∃ s, s = mkS (Lib.decDigits hnd) := ⟨_, rfl⟩
  have hnhnd := fun w (hbe : Below W.heap.size W w) => dNum_any hnd h4 w (T.on hbe)
  rw [← hshnd] at hnhnd
  have HNhnd := keepH hnhnd
  clear hnhnd
  obtain ⟨s0, hs0⟩ : ∃ s, s = mkS (opW 6) := ⟨_, rfl⟩
  rw [← hs0] at HWO
  have k1 := add_str [32] (Lib.decDigits hnd) (by (try simp only [List.length_append]); (try simp only [List.length_cons]); (try simp only [List.length_nil]); omega)
  rw [show mkS [32] = ⟨#[32]⟩ from rfl] at k1
  rw [← hshnd] at k1
  obtain ⟨g1, hg1⟩ : ∃ g, g = mkS ([32] ++ (Lib.decDigits hnd)) := ⟨_, rfl⟩
  rw [← hg1] at k1
  have k2 := add_str (opW 6) ([32] ++ (Lib.decDigits hnd)) (by (try simp only [List.length_append]); (try simp only [List.length_cons]); (try simp only [List.length_nil]); omega)
  rw [← hs0] at k2
  rw [← hg1] at k2
  obtain ⟨g2, hg2⟩ : ∃ g, g = mkS ((opW 6) ++ ([32] ++ (Lib.decDigits hnd))) := ⟨_, rfl⟩
  rw [← hg2] at k2
  have hfin : mkS (opT 6 key val old hnd false rt ri keys lo hi) = g2 := by
    rw [hg2]
    first | rfl | (congr 1; unfold opT partsO; rw [show hndK 6 = true from rfl, show kysK 6 = false from rfl, show numK 6 = [] from rfl]; simp [join_flat, hText]) | (exact congrArg mkS (by unfold opT partsO; simp [hndK, kysK, numK, Lib.join_one]))
  rw [hfin]
  obtain ⟨w1, hw1⟩ : ∃ w1, w1 = W.alloc (.cells (opR 6 key val old hnd false rt ri (.slice kp keys.length kc) lo hi) 28) := ⟨_, rfl⟩
  obtain ⟨P, hP⟩ : ∃ P, P = W.heap.size := ⟨_, rfl⟩
  have B1 : Below W.heap.size W w1 := by rw [hw1]; exact below_alloc _ _
  have X1 : w1.heap[P]? = some (.cells (opR 6 key val old hnd false rt ri (.slice kp keys.length kc) lo hi) 28 (0, 0)) := by rw [hw1, hP]; exact heap_alloc_new _ _
  have HW1 := keepH hw1
  have HP := keepH hP
  have HB1 := keepH B1
  have HX1 := keepH X1
  obtain ⟨n, hn⟩ : ∃ n, n = keys.length := ⟨_, rfl⟩
  rw [← hn] at HOP HX1 HW1 ⊢
  have HN := keepH hn
  clear hop hw1 hP B1 X1 hf T h1 h2 h3 h4 h5 h6 ha hb hn
  clear hs0 l0 hshnd lhnd hg1 hg2 hfin
  go_enter Tryz.func8, Tryz.ntmps8
  go_upto_region 1 with fail
  rw [← HW1.out, ← HP.out]
  have c0 : w1.cell? ⟨P, 0, none⟩ = _ := cell_of HX1.out 0
  have c1 : w1.cell? ⟨P, 1, none⟩ = _ := cell_of HX1.out 1
  have c2 : w1.cell? ⟨P, 2, none⟩ = _ := cell_of HX1.out 2
  have c3 : w1.cell? ⟨P, 3, none⟩ = _ := cell_of HX1.out 3
  have c4 : w1.cell? ⟨P, 4, none⟩ = _ := cell_of HX1.out 4
  have c5 : w1.cell? ⟨P, 5, none⟩ = _ := cell_of HX1.out 5
  have c6 : w1.cell? ⟨P, 6, none⟩ = _ := cell_of HX1.out 6
  have c7 : w1.cell? ⟨P, 7, none⟩ = _ := cell_of HX1.out 7
  have c8 : w1.cell? ⟨P, 8, none⟩ = _ := cell_of HX1.out 8
  have c9 : w1.cell? ⟨P, 9, none⟩ = _ := cell_of HX1.out 9
  have c10 : w1.cell? ⟨P, 10, none⟩ = _ := cell_of HX1.out 10
  go_wp2_with fail
  refine (HOP.out w1).mono ?_
  rintro e w2 ⟨rfl, B2⟩
  have HX2 := keepH (heap_below HX1.out B2)
  have HB2 := keepH (below_chain HB1.out B2)
  clear B2 c0 c1 c2 c3 c4 c5 c6 c7 c8 c9 c10
  have c0 : w2.cell? ⟨P, 0, none⟩ = _ := cell_of HX2.out 0
  have c1 : w2.cell? ⟨P, 1, none⟩ = _ := cell_of HX2.out 1
  have c2 : w2.cell? ⟨P, 2, none⟩ = _ := cell_of HX2.out 2
  have c3 : w2.cell? ⟨P, 3, none⟩ = _ := cell_of HX2.out 3
  have c4 : w2.cell? ⟨P, 4, none⟩ = _ := cell_of HX2.out 4
  have c5 : w2.cell? ⟨P, 5, none⟩ = _ := cell_of HX2.out 5
  have c6 : w2.cell? ⟨P, 6, none⟩ = _ := cell_of HX2.out 6
  have c7 : w2.cell? ⟨P, 7, none⟩ = _ := cell_of HX2.out 7
  have c8 : w2.cell? ⟨P, 8, none⟩ = _ := cell_of HX2.out 8
  have c9 : w2.cell? ⟨P, 9, none⟩ = _ := cell_of HX2.out 9
  have c10 : w2.cell? ⟨P, 10, none⟩ = _ := cell_of HX2.out 10
  go_wp2_with fail
  refine (HWO.out w2).mono ?_
  rintro e w3 ⟨rfl, B3⟩
  have HX3 := keepH (heap_below HX2.out B3)
  have HB3 := keepH (below_chain HB2.out B3)
  clear B3 c0 c1 c2 c3 c4 c5 c6 c7 c8 c9 c10
  have c0 : w3.cell? ⟨P, 0, none⟩ = _ := cell_of HX3.out 0
  have c1 : w3.cell? ⟨P, 1, none⟩ = _ := cell_of HX3.out 1
  have c2 : w3.cell? ⟨P, 2, none⟩ = _ := cell_of HX3.out 2
  have c3 : w3.cell? ⟨P, 3, none⟩ = _ := cell_of HX3.out 3
  have c4 : w3.cell? ⟨P, 4, none⟩ = _ := cell_of HX3.out 4
  have c5 : w3.cell? ⟨P, 5, none⟩ = _ := cell_of HX3.out 5
  have c6 : w3.cell? ⟨P, 6, none⟩ = _ := cell_of HX3.out 6
  have c7 : w3.cell? ⟨P, 7, none⟩ = _ := cell_of HX3.out 7
  have c8 : w3.cell? ⟨P, 8, none⟩ = _ := cell_of HX3.out 8
  have c9 : w3.cell? ⟨P, 9, none⟩ = _ := cell_of HX3.out 9
  have c10 : w3.cell? ⟨P, 10, none⟩ = _ := cell_of HX3.out 10
  go_wp2_with fail
  refine (HHD.out w3).mono ?_
  rintro e wx ⟨rfl, hwx⟩
  rw [hwx]
  clear hwx
  go_wp2_with fail
  refine (HNhnd.out w3 HB3.out).mono ?_
  rintro e w4 ⟨rfl, B4⟩
  have HX4 := keepH (heap_below HX3.out B4)
  have HB4 := keepH (below_chain HB3.out B4)
  clear B4 c0 c1 c2 c3 c4 c5 c6 c7 c8 c9 c10
  have c0 : w4.cell? ⟨P, 0, none⟩ = _ := cell_of HX4.out 0
  have c1 : w4.cell? ⟨P, 1, none⟩ = _ := cell_of HX4.out 1
  have c2 : w4.cell? ⟨P, 2, none⟩ = _ := cell_of HX4.out 2
  have c3 : w4.cell? ⟨P, 3, none⟩ = _ := cell_of HX4.out 3
  have c4 : w4.cell? ⟨P, 4, none⟩ = _ := cell_of HX4.out 4
  have c5 : w4.cell? ⟨P, 5, none⟩ = _ := cell_of HX4.out 5
  have c6 : w4.cell? ⟨P, 6, none⟩ = _ := cell_of HX4.out 6
  have c7 : w4.cell? ⟨P, 7, none⟩ = _ := cell_of HX4.out 7
  have c8 : w4.cell? ⟨P, 8, none⟩ = _ := cell_of HX4.out 8
  have c9 : w4.cell? ⟨P, 9, none⟩ = _ := cell_of HX4.out 9
  have c10 : w4.cell? ⟨P, 10, none⟩ = _ := cell_of HX4.out 10
  go_wp2_with fail
  go_ret2
  exact ⟨by simp, HB4.out⟩
set_option maxRecDepth 100000 in
set_option maxHeartbeats 8000000 in
theorem dPrint_7t (key val old hnd : Nat) (rt ri : Int) (kp : Option Addr) (kc lo hi : Nat) (keys : List Nat) (h1 : isU key) (h2 : isU val) (h3 : isU old) (h4 : isU hnd) (h5 : isU lo) (h6 : isU hi) (ha : isI rt) (hb : isI ri) (hks : ∀ u ∈ keys, isU u) (hkl : keys.length ≤ 10000000) (hf : faultN 7 key val old hnd true rt ri kp keys.length kc lo hi = 0) (W : World) (T : Tb W) (hK : KRd W kp keys) :
    Calls Tryz.prog 8 #[.agg (opR 7 key val old hnd true rt ri (.slice kp keys.length kc) lo hi)] W fun e W' => e = .returned (.tuple #[.string (mkS (opT 7 key val old hnd true rt ri keys lo hi)), .int .i64 0]) ∧ Below W.heap.size W W' := by
  have hop := fun w => dOp_any 7 key val old hnd true rt ri kp keys.length kc lo hi (by omega) h1 h2 h3 h4 h5 h6 ha hb w
  rw [hf] at hop
  have HOP := keepH hop
  have HWO := keepH (fun w => dWord_any 7 (by omega) w)
  have HHD := keepH (fun w => dHandled_any 7 w)
  rw [show hndK 7 = true from rfl] at HHD
  have l0 := opW_len 7
  have lrt := itoa_len ha
  obtain ⟨srt, hsrt⟩ : ∃ s, s = mkS (Lib.itoa rt) := ⟨_, rfl⟩
  have hnrt := fun w (hbe : Below W.heap.size W w) => itoa_any rt ha.1 ha.2 w (T.on hbe)
  rw [← hsrt] at hnrt
  have HNrt := keepH hnrt
  clear hnrt
  have lri := itoa_len hb
  obtain ⟨sri, hsri⟩ : ∃ s, s = mkS (Lib.itoa ri) := ⟨_, rfl⟩
  have hnri := fun w (hbe : Below W.heap.size W w) => itoa_any ri hb.1 hb.2 w (T.on hbe)
  rw [← hsri] at hnri
  have HNri := keepH hnri
  clear hnri
  obtain ⟨s0, hs0⟩ : ∃ s, s = mkS (opW 7) := ⟨_, rfl⟩
  rw [← hs0] at HWO
  have k1 := add_str [32, 64] (Lib.itoa rt) (by (try simp only [List.length_append]); (try simp only [List.length_cons]); (try simp only [List.length_nil]); omega)
  rw [show mkS [32, 64] = ⟨#[32, 64]⟩ from rfl] at k1
  rw [← hsrt] at k1
  obtain ⟨g1, hg1⟩ : ∃ g, g = mkS ([32, 64] ++ (Lib.itoa rt)) := ⟨_, rfl⟩
  rw [← hg1] at k1
  have k2 := add_str ([32, 64] ++ (Lib.itoa rt)) [46] (by (try simp only [List.length_append]); (try simp only [List.length_cons]); (try simp only [List.length_nil]); omega)
  rw [← hg1] at k2
  rw [show mkS [46] = ⟨#[46]⟩ from rfl] at k2
  obtain ⟨g2, hg2⟩ : ∃ g, g = mkS (([32, 64] ++ (Lib.itoa rt)) ++ [46]) := ⟨_, rfl⟩
  rw [← hg2] at k2
  have k3 := add_str (([32, 64] ++ (Lib.itoa rt)) ++ [46]) (Lib.itoa ri) (by (try simp only [List.length_append]); (try simp only [List.length_cons]); (try simp only [List.length_nil]); omega)
  rw [← hg2] at k3
  rw [← hsri] at k3
  obtain ⟨g3, hg3⟩ : ∃ g, g = mkS ((([32, 64] ++ (Lib.itoa rt)) ++ [46]) ++ (Lib.itoa ri)) := ⟨_, rfl⟩
  rw [← hg3] at k3
  have k4 := add_str (opW 7) ((([32, 64] ++ (Lib.itoa rt)) ++ [46]) ++ (Lib.itoa ri)) (by (try simp only [List.length_append]); (try simp only [List.length_cons]); (try simp only [List.length_nil]); omega)
  rw [← hs0] at k4
  rw [← hg3] at k4
  obtain ⟨g4, hg4⟩ : ∃ g, g = mkS ((opW 7) ++ ((([32, 64] ++ (Lib.itoa rt)) ++ [46]) ++ (Lib.itoa ri))) := ⟨_, rfl⟩
  rw [← hg4] at k4
  obtain ⟨bb, hbb⟩ : ∃ x, x = ((opW 7) ++ ((([32, 64] ++ (Lib.itoa rt)) ++ [46]) ++ (Lib.itoa ri))) := ⟨_, rfl⟩
  have hbl : bb.length ≤ 100 := by rw [hbb]; (try simp only [List.length_append]); (try simp only [List.length_cons]); (try simp only [List.length_nil]); omega
  have HS1 : Hid (g4 = mkS bb) := keepH (by rw [hg4, hbb])
  have HFIN : Hid (opT 7 key val old hnd true rt ri keys lo hi = bb ++ flatK keys) := keepH (by
    rw [hbb]
    unfold opT partsO
    rw [show hndK 7 = true from rfl, show kysK 7 = true from rfl, show numK 7 = [] from rfl]
    simp [join_flat, hText, flatK, Function.comp_def])
  have HNK := keepH (fun u (hu : u ∈ keys) w (hbe : Below W.heap.size W w) => dNum_any u (hks u hu) w (T.on hbe))
  have HLK := keepH (fun u (hu : u ∈ keys) => dec_len (hks u hu))
  have HKR := keepH hK
  clear hbb
  obtain ⟨w1, hw1⟩ : ∃ w1, w1 = W.alloc (.cells (opR 7 key val old hnd true rt ri (.slice kp keys.length kc) lo hi) 28) := ⟨_, rfl⟩
  obtain ⟨P, hP⟩ : ∃ P, P = W.heap.size := ⟨_, rfl⟩
  have B1 : Below W.heap.size W w1 := by rw [hw1]; exact below_alloc _ _
  have X1 : w1.heap[P]? = some (.cells (opR 7 key val old hnd true rt ri (.slice kp keys.length kc) lo hi) 28 (0, 0)) := by rw [hw1, hP]; exact heap_alloc_new _ _
  have HW1 := keepH hw1
  have HP := keepH hP
  have HB1 := keepH B1
  have HX1 := keepH X1
  obtain ⟨n, hn⟩ : ∃ n, n = keys.length := ⟨_, rfl⟩
  rw [← hn] at HOP HX1 HW1 ⊢
  have HN := keepH hn
  have hn2 : n ≤ 10000000 := by omega
  clear hK hks hkl
  clear hop hw1 hP B1 X1 hf T h1 h2 h3 h4 h5 h6 ha hb hn
  clear hs0 l0 hsrt lrt hsri lri hg1 hg2 hg3 hg4
  go_enter Tryz.func8, Tryz.ntmps8
  go_upto_region 1 with fail
  rw [← HW1.out, ← HP.out]
  have c0 : w1.cell? ⟨P, 0, none⟩ = _ := cell_of HX1.out 0
  have c1 : w1.cell? ⟨P, 1, none⟩ = _ := cell_of HX1.out 1
  have c2 : w1.cell? ⟨P, 2, none⟩ = _ := cell_of HX1.out 2
  have c3 : w1.cell? ⟨P, 3, none⟩ = _ := cell_of HX1.out 3
  have c4 : w1.cell? ⟨P, 4, none⟩ = _ := cell_of HX1.out 4
  have c5 : w1.cell? ⟨P, 5, none⟩ = _ := cell_of HX1.out 5
  have c6 : w1.cell? ⟨P, 6, none⟩ = _ := cell_of HX1.out 6
  have c7 : w1.cell? ⟨P, 7, none⟩ = _ := cell_of HX1.out 7
  have c8 : w1.cell? ⟨P, 8, none⟩ = _ := cell_of HX1.out 8
  have c9 : w1.cell? ⟨P, 9, none⟩ = _ := cell_of HX1.out 9
  have c10 : w1.cell? ⟨P, 10, none⟩ = _ := cell_of HX1.out 10
  go_wp2_with fail
  refine (HOP.out w1).mono ?_
  rintro e w2 ⟨rfl, B2⟩
  have HX2 := keepH (heap_below HX1.out B2)
  have HB2 := keepH (below_chain HB1.out B2)
  clear B2 c0 c1 c2 c3 c4 c5 c6 c7 c8 c9 c10
  have c0 : w2.cell? ⟨P, 0, none⟩ = _ := cell_of HX2.out 0
  have c1 : w2.cell? ⟨P, 1, none⟩ = _ := cell_of HX2.out 1
  have c2 : w2.cell? ⟨P, 2, none⟩ = _ := cell_of HX2.out 2
  have c3 : w2.cell? ⟨P, 3, none⟩ = _ := cell_of HX2.out 3
  have c4 : w2.cell? ⟨P, 4, none⟩ = _ := cell_of HX2.out 4
  have c5 : w2.cell? ⟨P, 5, none⟩ = _ := cell_of HX2.out 5
  have c6 : w2.cell? ⟨P, 6, none⟩ = _ := cell_of HX2.out 6
  have c7 : w2.cell? ⟨P, 7, none⟩ = _ := cell_of HX2.out 7
  have c8 : w2.cell? ⟨P, 8, none⟩ = _ := cell_of HX2.out 8
  have c9 : w2.cell? ⟨P, 9, none⟩ = _ := cell_of HX2.out 9
  have c10 : w2.cell? ⟨P, 10, none⟩ = _ := cell_of HX2.out 10
  go_wp2_with fail
  refine (HWO.out w2).mono ?_
  rintro e w3 ⟨rfl, B3⟩
  have HX3 := keepH (heap_below HX2.out B3)
  have HB3 := keepH (below_chain HB2.out B3)
  clear B3 c0 c1 c2 c3 c4 c5 c6 c7 c8 c9 c10
  have c0 : w3.cell? ⟨P, 0, none⟩ = _ := cell_of HX3.out 0
  have c1 : w3.cell? ⟨P, 1, none⟩ = _ := cell_of HX3.out 1
  have c2 : w3.cell? ⟨P, 2, none⟩ = _ := cell_of HX3.out 2
  have c3 : w3.cell? ⟨P, 3, none⟩ = _ := cell_of HX3.out 3
  have c4 : w3.cell? ⟨P, 4, none⟩ = _ := cell_of HX3.out 4
  have c5 : w3.cell? ⟨P, 5, none⟩ = _ := cell_of HX3.out 5
  have c6 : w3.cell? ⟨P, 6, none⟩ = _ := cell_of HX3.out 6
  have c7 : w3.cell? ⟨P, 7, none⟩ = _ := cell_of HX3.out 7
  have c8 : w3.cell? ⟨P, 8, none⟩ = _ := cell_of HX3.out 8
  have c9 : w3.cell? ⟨P, 9, none⟩ = _ := cell_of HX3.out 9
  have c10 : w3.cell? ⟨P, 10, none⟩ = _ := cell_of HX3.out 10
  go_wp2_with fail
  refine (HHD.out w3).mono ?_
  rintro e wx ⟨rfl, hwx⟩
  rw [hwx]
  clear hwx
  go_upto_region 7 with fail
  have HC6 := keepH c6
  have HC7 := keepH c7
  clear c0 c1 c2 c3 c4 c5 c6 c7 c8 c9 c10
  refine wp_region_held_drew (S := fun w => Below w3.heap.size w3 w) (by kernel_rfl) (below_drewN (Below.refl _ _) 1) ?_
  intro hHeld
  refine wpAnyH_take (i := 0) (v := ?_) rfl (by kernel_rfl) (by kernel_rfl) (by kernel_rfl) (fun _ _ _ h => h) (Or.inl ⟨by rfl, ?_⟩) hHeld ?_
  rotate_left
  · intro w hSw
    (try dsimp only at hSw)
    go_simp
    try with_reducible rfl
  (try simp only [Act.put]); (try simp only [List.setIfInBounds_toArray]); (try simp only [List.getElem_toArray]); (repeat (first | simp only [List.getElem_cons_succ] | simp only [List.getElem_cons_zero])); (repeat (first | simp only [List.set_cons_succ] | simp only [List.set_cons_zero]))
  refine wpAnyH_take (i := 1) (v := ?_) rfl (by kernel_rfl) (by kernel_rfl) (by kernel_rfl) (fun _ _ _ h => h) (Or.inl ⟨by rfl, ?_⟩) hHeld ?_
  rotate_left
  · intro w hSw
    (try dsimp only at hSw)
    go_simp
    try with_reducible rfl
  (try simp only [Act.put]); (try simp only [List.setIfInBounds_toArray]); (try simp only [List.getElem_toArray]); (repeat (first | simp only [List.getElem_cons_succ] | simp only [List.getElem_cons_zero])); (repeat (first | simp only [List.set_cons_succ] | simp only [List.set_cons_zero]))
  refine wpAnyH_take (i := 2) (v := ?_) rfl (by kernel_rfl) (by kernel_rfl) (by kernel_rfl) (fun _ _ _ h => h) (Or.inl ⟨by rfl, ?_⟩) hHeld ?_
  rotate_left
  · intro w hSw
    (try dsimp only at hSw)
    go_simp
    try with_reducible rfl
  (try simp only [Act.put]); (try simp only [List.setIfInBounds_toArray]); (try simp only [List.getElem_toArray]); (repeat (first | simp only [List.getElem_cons_succ] | simp only [List.getElem_cons_zero])); (repeat (first | simp only [List.set_cons_succ] | simp only [List.set_cons_zero]))
  refine wpAnyH_take (i := 3) (v := ?_) rfl (by kernel_rfl) (by kernel_rfl) (by kernel_rfl) (fun _ _ _ h => h) (Or.inl ⟨by rfl, ?_⟩) hHeld ?_
  rotate_left
  · intro w hSw
    (try dsimp only at hSw)
    have y6 := cell_below HC6.out hSw
    go_simp
    try with_reducible rfl
  (try simp only [Act.put]); (try simp only [List.setIfInBounds_toArray]); (try simp only [List.getElem_toArray]); (repeat (first | simp only [List.getElem_cons_succ] | simp only [List.getElem_cons_zero])); (repeat (first | simp only [List.set_cons_succ] | simp only [List.set_cons_zero]))
  refine wpAnyH_take (i := 7) (v := ?_) rfl (by kernel_rfl) (by kernel_rfl) (by kernel_rfl) (fun _ _ _ h => h) (Or.inl ⟨by rfl, ?_⟩) hHeld ?_
  rotate_left
  · intro w hSw
    (try dsimp only at hSw)
    go_simp
    try with_reducible rfl
  (try simp only [Act.put]); (try simp only [List.setIfInBounds_toArray]); (try simp only [List.getElem_toArray]); (repeat (first | simp only [List.getElem_cons_succ] | simp only [List.getElem_cons_zero])); (repeat (first | simp only [List.set_cons_succ] | simp only [List.set_cons_zero]))
  refine wpAnyH_take (i := 8) (v := ?_) rfl (by kernel_rfl) (by kernel_rfl) (by kernel_rfl) (fun _ _ _ h => h) (Or.inl ⟨by rfl, ?_⟩) hHeld ?_
  rotate_left
  · intro w hSw
    (try dsimp only at hSw)
    go_simp
    try with_reducible rfl
  (try simp only [Act.put]); (try simp only [List.setIfInBounds_toArray]); (try simp only [List.getElem_toArray]); (repeat (first | simp only [List.getElem_cons_succ] | simp only [List.getElem_cons_zero])); (repeat (first | simp only [List.set_cons_succ] | simp only [List.set_cons_zero]))
  refine wpAnyH_take (i := 9) (v := ?_) rfl (by kernel_rfl) (by kernel_rfl) (by kernel_rfl) (fun _ _ _ h => h) (Or.inl ⟨by rfl, ?_⟩) hHeld ?_
  rotate_left
  · intro w hSw
    (try dsimp only at hSw)
    have y7 := cell_below HC7.out hSw
    go_simp
    try with_reducible rfl
  (try simp only [Act.put]); (try simp only [List.setIfInBounds_toArray]); (try simp only [List.getElem_toArray]); (repeat (first | simp only [List.getElem_cons_succ] | simp only [List.getElem_cons_zero])); (repeat (first | simp only [List.set_cons_succ] | simp only [List.set_cons_zero]))
  refine wpAnyH_ready (rs := [4]) (by kernel_rfl) (by simp) ?_
  refine AllReadyH.cons rfl (fun KK hKK => ?_) AllReadyH.nil
  go_simp
  refine (HNrt.out _ (below_chain HB3.out hHeld)).mono ?_
  rintro e v1 ⟨rfl, D1⟩
  have E1 := below_chain hHeld D1
  clear D1
  refine hKK.out _ _ ?_ (fun hHeld => ?_)
  · exact E1
  clear hKK KK
  (try simp only [Act.put]); (try simp only [List.setIfInBounds_toArray]); (try simp only [List.getElem_toArray]); (repeat (first | simp only [List.getElem_cons_succ] | simp only [List.getElem_cons_zero])); (repeat (first | simp only [List.set_cons_succ] | simp only [List.set_cons_zero]))
  refine wpAnyH_take (i := 5) (v := ?_) rfl (by kernel_rfl) (by kernel_rfl) (by kernel_rfl) (fun _ _ _ h => h) (Or.inl ⟨by rfl, ?_⟩) hHeld ?_
  rotate_left
  · intro w hSw
    (try dsimp only at hSw)
    go_simp
    try with_reducible rfl
  (try simp only [Act.put]); (try simp only [List.setIfInBounds_toArray]); (try simp only [List.getElem_toArray]); (repeat (first | simp only [List.getElem_cons_succ] | simp only [List.getElem_cons_zero])); (repeat (first | simp only [List.set_cons_succ] | simp only [List.set_cons_zero]))
  refine wpAnyH_take (i := 6) (v := ?_) rfl (by kernel_rfl) (by kernel_rfl) (by kernel_rfl) (fun _ _ _ h => h) (Or.inl ⟨by rfl, ?_⟩) hHeld ?_
  rotate_left
  · intro w hSw
    (try dsimp only at hSw)
    go_simp
    try with_reducible rfl
  (try simp only [Act.put]); (try simp only [List.setIfInBounds_toArray]); (try simp only [List.getElem_toArray]); (repeat (first | simp only [List.getElem_cons_succ] | simp only [List.getElem_cons_zero])); (repeat (first | simp only [List.set_cons_succ] | simp only [List.set_cons_zero]))
  refine wpAnyH_ready (rs := [10]) (by kernel_rfl) (by simp) ?_
  refine AllReadyH.cons rfl (fun KK hKK => ?_) AllReadyH.nil
  go_simp
  refine (HNri.out _ (below_chain HB3.out hHeld)).mono ?_
  rintro e v2 ⟨rfl, D2⟩
  have E2 := below_chain hHeld D2
  have HEE := keepH E2
  clear D2
  refine hKK.out _ _ ?_ (fun hHeld => ?_)
  · exact E2
  clear hKK KK
  (try simp only [Act.put]); (try simp only [List.setIfInBounds_toArray]); (try simp only [List.getElem_toArray]); (repeat (first | simp only [List.getElem_cons_succ] | simp only [List.getElem_cons_zero])); (repeat (first | simp only [List.set_cons_succ] | simp only [List.set_cons_zero]))
  refine wpAnyH_take (i := 11) (v := ?_) rfl (by kernel_rfl) (by kernel_rfl) (by kernel_rfl) (fun _ _ _ h => h) (Or.inl ⟨by rfl, ?_⟩) hHeld ?_
  rotate_left
  · intro w hSw
    (try dsimp only at hSw)
    go_simp
    try with_reducible rfl
  (try simp only [Act.put]); (try simp only [List.setIfInBounds_toArray]); (try simp only [List.getElem_toArray]); (repeat (first | simp only [List.getElem_cons_succ] | simp only [List.getElem_cons_zero])); (repeat (first | simp only [List.set_cons_succ] | simp only [List.set_cons_zero]))
  refine wpAnyH_take (i := 12) (v := ?_) rfl (by kernel_rfl) (by kernel_rfl) (by kernel_rfl) (fun _ _ _ h => h) (Or.inl ⟨by rfl, ?_⟩) hHeld ?_
  rotate_left
  · intro w hSw
    (try dsimp only at hSw)
    go_simp
    try with_reducible rfl
  (try simp only [Act.put]); (try simp only [List.setIfInBounds_toArray]); (try simp only [List.getElem_toArray]); (repeat (first | simp only [List.getElem_cons_succ] | simp only [List.getElem_cons_zero])); (repeat (first | simp only [List.set_cons_succ] | simp only [List.set_cons_zero]))
  refine wpAnyH_take (i := 13) (v := ?_) rfl (by kernel_rfl) (by kernel_rfl) (by kernel_rfl) (fun _ _ _ h => h) (Or.inl ⟨by rfl, ?_⟩) hHeld ?_
  rotate_left
  · intro w hSw
    (try dsimp only at hSw)
    go_simp
    try with_reducible rfl
  (try simp only [Act.put]); (try simp only [List.setIfInBounds_toArray]); (try simp only [List.getElem_toArray]); (repeat (first | simp only [List.getElem_cons_succ] | simp only [List.getElem_cons_zero])); (repeat (first | simp only [List.set_cons_succ] | simp only [List.set_cons_zero]))
  refine wpAnyH_done (by kernel_rfl) ?_ _
  go_simp
  have HX4 := keepH (heap_below HX3.out HEE.out)
  have HB4 := keepH (below_chain HB3.out HEE.out)
  clear HEE
  have c0 : v2.cell? ⟨P, 0, none⟩ = _ := cell_of HX4.out 0
  have c1 : v2.cell? ⟨P, 1, none⟩ = _ := cell_of HX4.out 1
  have c2 : v2.cell? ⟨P, 2, none⟩ = _ := cell_of HX4.out 2
  have c3 : v2.cell? ⟨P, 3, none⟩ = _ := cell_of HX4.out 3
  have c4 : v2.cell? ⟨P, 4, none⟩ = _ := cell_of HX4.out 4
  have c5 : v2.cell? ⟨P, 5, none⟩ = _ := cell_of HX4.out 5
  have c6 : v2.cell? ⟨P, 6, none⟩ = _ := cell_of HX4.out 6
  have c7 : v2.cell? ⟨P, 7, none⟩ = _ := cell_of HX4.out 7
  have c8 : v2.cell? ⟨P, 8, none⟩ = _ := cell_of HX4.out 8
  have c9 : v2.cell? ⟨P, 9, none⟩ = _ := cell_of HX4.out 9
  have c10 : v2.cell? ⟨P, 10, none⟩ = _ := cell_of HX4.out 10
  clear c0 c1 c2 c3 c4 c5 c6 c7 c8 c9 c10
  have c0 : v2.cell? ⟨P, 0, none⟩ = _ := cell_of HX4.out 0
  rw [show Value.string g4 = Value.string (mkS bb) from by rw [HS1.out]]
  go_wp2_with fail
  clear c0
  go_loopw [5, 6] (fun s5 s6 wr => ∃ i : Nat, i ≤ n ∧ s6 = .int .i64 (i : Int) ∧ s5 = .string (mkS (bb ++ flatK (keys.take i))) ∧ Hid (Below v2.heap.size v2 wr)) (fun _ s6 _ => n - (intOf s6).toNat)
  case atStart => exact ⟨0, by omega, rfl, by simp [flatK], keepH (Below.refl _ _)⟩
  case round =>
    obtain ⟨i, him, rfl, rfl, HR⟩ := hrel
    have p8 : wr.cell? ⟨P, 8, none⟩ = _ := cell_of (heap_below HX4.out HR.out) 8
    by_cases hlt : i < n
    · have t1 : (i : Int) < (n : Int) := by omega
      have t0 : (0 : Int) ≤ (i : Int) := by omega
      obtain ⟨x, hx⟩ : ∃ x, keys[i]? = some x := ⟨keys[i]'(by have := HN.out; omega), List.getElem?_eq_getElem _⟩
      have hm := List.mem_of_getElem? hx
      obtain ⟨bk, off, rfl, _, q0⟩ := (HKR.out.on (below_chain HB4.out HR.out)).get i x hx
      have HQ := keepH (HNK.out x hm wr (below_chain HB4.out HR.out))
      have hlx := HLK.out x hm
      have hfl : (flatK (keys.take i)).length ≤ 22 * i := flatK_len i (fun u hu => HLK.out u (List.mem_of_mem_take hu))
      have k1 := add_str [32] (Lib.decDigits x) (by simp; omega)
      have k2 := add_str (bb ++ flatK (keys.take i)) ([32] ++ Lib.decDigits x) (by simp; omega)
      have HNX : Hid (mkS (bb ++ flatK (keys.take i) ++ ([32] ++ Lib.decDigits x)) = mkS (bb ++ flatK (keys.take (i + 1)))) := keepH (by rw [flatK_next hx]; simp)
      rw [HNX.out] at k2
      rw [show mkS [32] = ⟨#[32]⟩ from rfl] at k1
      obtain ⟨sd, hsd⟩ : ∃ s, s = mkS (Lib.decDigits x) := ⟨_, rfl⟩
      obtain ⟨ga, hga⟩ : ∃ s, s = mkS ([32] ++ Lib.decDigits x) := ⟨_, rfl⟩
      obtain ⟨gb, hgb⟩ : ∃ s, s = mkS (bb ++ flatK (keys.take i)) := ⟨_, rfl⟩
      obtain ⟨gc, hgc⟩ : ∃ s, s = mkS (bb ++ flatK (keys.take (i + 1))) := ⟨_, rfl⟩
      rw [← hsd, ← hga] at k1
      rw [← hga, ← hgb, ← hgc] at k2
      rw [← hsd] at HQ
      rw [← hgb]
      have HGC := keepH hgc
      clear hx hm hlx hfl HNX hsd hga hgb hgc
      go_wp2_with fail
      refine HQ.out.mono ?_
      rintro e wz ⟨rfl, Bz⟩
      have HRz := keepH (below_chain HR.out Bz)
      clear Bz p8 q0
      go_wp2_with fail
      go_roundw
      case rel => exact ⟨i + 1, by omega, by first | rfl | go_num, by rw [HGC.out], HRz⟩
      case measure => simp [intOf]; omega
    · obtain rfl : i = n := by omega
      have t1 : ¬ (i : Int) < (i : Int) := by omega
      have HTT : Hid (mkS (bb ++ flatK (keys.take i)) = mkS (opT 7 key val old hnd true rt ri keys lo hi)) := keepH (by rw [HFIN.out, HN.out, List.take_length])
      rw [HTT.out]
      obtain ⟨tt, htt⟩ : ∃ s, s = mkS (opT 7 key val old hnd true rt ri keys lo hi) := ⟨_, rfl⟩
      rw [← htt]
      have HT2 := keepH htt
      clear htt HTT
      go_wp2_with fail
      go_ret2
      exact ⟨by rw [← HT2.out]; simp, below_chain HB4.out HR.out⟩
set_option maxRecDepth 100000 in
set_option maxHeartbeats 8000000 in
theorem dPrint_7f (key val old hnd : Nat) (rt ri : Int) (kp : Option Addr) (kc lo hi : Nat) (keys : List Nat) (h1 : isU key) (h2 : isU val) (h3 : isU old) (h4 : isU hnd) (h5 : isU lo) (h6 : isU hi) (ha : isI rt) (hb : isI ri) (hks : ∀ u ∈ keys, isU u) (hkl : keys.length ≤ 10000000) (hf : faultN 7 key val old hnd false rt ri kp keys.length kc lo hi = 0) (W : World) (T : Tb W) (hK : KRd W kp keys) :
    Calls Tryz.prog 8 #[.agg (opR 7 key val old hnd false rt ri (.slice kp keys.length kc) lo hi)] W fun e W' => e = .returned (.tuple #[.string (mkS (opT 7 key val old hnd false rt ri keys lo hi)), .int .i64 0]) ∧ Below W.heap.size W W' := by
  have hop := fun w => dOp_any 7 key val old hnd false rt ri kp keys.length kc lo hi (by omega) h1 h2 h3 h4 h5 h6 ha hb w
  rw [hf] at hop
  have HOP := keepH hop
  have HWO := keepH (fun w => dWord_any 7 (by omega) w)
  have HHD := keepH (fun w => dHandled_any 7 w)
  rw [show hndK 7 = true from rfl] at HHD
  have l0 := opW_len 7
  have lhnd := dec_len h4
  obtain ⟨shnd, hshnd⟩ : ∃ s, s = mkS (Lib.decDigits hnd) := ⟨_, rfl⟩
  have hnhnd := fun w (hbe : Below W.heap.size W w) => dNum_any hnd h4 w (T.on hbe)
  rw [← hshnd] at hnhnd
  have HNhnd := keepH hnhnd
  clear hnhnd
  obtain ⟨s0, hs0⟩ : ∃ s, s = mkS (opW 7) := ⟨_, rfl⟩
  rw [← hs0] at HWO
  have k1 := add_str [32] (Lib.decDigits hnd) (by (try simp only [List.length_append]); (try simp only [List.length_cons]); (try simp only [List.length_nil]); omega)
  rw [show mkS [32] = ⟨#[32]⟩ from rfl] at k1
  rw [← hshnd] at k1
  obtain ⟨g1, hg1⟩ : ∃ g, g = mkS ([32] ++ (Lib.decDigits hnd)) := ⟨_, rfl⟩
  rw [← hg1] at k1
  have k2 := add_str (opW 7) ([32] ++ (Lib.decDigits hnd)) (by (try simp only [List.length_append]); (try simp only [List.length_cons]); (try simp only [List.length_nil]); omega)
  rw [← hs0] at k2
  rw [← hg1] at k2
  obtain ⟨g2, hg2⟩ : ∃ g, g = mkS ((opW 7) ++ ([32] ++ (Lib.decDigits hnd))) := ⟨_, rfl⟩
  rw [← hg2] at k2
  obtain ⟨bb, hbb⟩ : ∃ x, x = ((opW 7) ++ ([32] ++ (Lib.decDigits hnd))) := ⟨_, rfl⟩
  have hbl : bb.length ≤ 100 := by rw [hbb]; (try simp only [List.length_append]); (try simp only [List.length_cons]); (try simp only [List.length_nil]); omega
  have HS1 : Hid (g2 = mkS bb) := keepH (by rw [hg2, hbb])
  have HFIN : Hid (opT 7 key val old hnd false rt ri keys lo hi = bb ++ flatK keys) := keepH (by
    rw [hbb]
    unfold opT partsO
    rw [show hndK 7 = true from rfl, show kysK 7 = true from rfl, show numK 7 = [] from rfl]
    simp [join_flat, hText, flatK, Function.comp_def])
  have HNK := keepH (fun u (hu : u ∈ keys) w (hbe : Below W.heap.size W w) => dNum_any u (hks u hu) w (T.on hbe))
  have HLK := keepH (fun u (hu : u ∈ keys) => dec_len (hks u hu))
  have HKR := keepH hK
  clear hbb
  obtain ⟨w1, hw1⟩ : ∃ w1, w1 = W.alloc (.cells (opR 7 key val old hnd false rt ri (.slice kp keys.length kc) lo hi) 28) := ⟨_, rfl⟩
  obtain ⟨P, hP⟩ : ∃ P, P = W.heap.size := ⟨_, rfl⟩
  have B1 : Below W.heap.size W w1 := by rw [hw1]; exact below_alloc _ _
  have X1 : w1.heap[P]? = some (.cells (opR 7 key val old hnd false rt ri (.slice kp keys.length kc) lo hi) 28 (0, 0)) := by rw [hw1, hP]; exact heap_alloc_new _ _
  have HW1 := keepH hw1
  have HP := keepH hP
  have HB1 := keepH B1
  have HX1 := keepH X1
  obtain ⟨n, hn⟩ : ∃ n, n = keys.length := ⟨_, rfl⟩
  rw [← hn] at HOP HX1 HW1 ⊢
  have HN := keepH hn
  have hn2 : n ≤ 10000000 := by omega
  clear hK hks hkl
  clear hop hw1 hP B1 X1 hf T h1 h2 h3 h4 h5 h6 ha hb hn
  clear hs0 l0 hshnd lhnd hg1 hg2
  go_enter Tryz.func8, Tryz.ntmps8
  go_upto_region 1 with fail
  rw [← HW1.out, ← HP.out]
  have c0 : w1.cell? ⟨P, 0, none⟩ = _ := cell_of HX1.out 0
  have c1 : w1.cell? ⟨P, 1, none⟩ = _ := cell_of HX1.out 1
  have c2 : w1.cell? ⟨P, 2, none⟩ = _ := cell_of HX1.out 2
  have c3 : w1.cell? ⟨P, 3, none⟩ = _ := cell_of HX1.out 3
  have c4 : w1.cell? ⟨P, 4, none⟩ = _ := cell_of HX1.out 4
  have c5 : w1.cell? ⟨P, 5, none⟩ = _ := cell_of HX1.out 5
  have c6 : w1.cell? ⟨P, 6, none⟩ = _ := cell_of HX1.out 6
  have c7 : w1.cell? ⟨P, 7, none⟩ = _ := cell_of HX1.out 7
  have c8 : w1.cell? ⟨P, 8, none⟩ = _ := cell_of HX1.out 8
  have c9 : w1.cell? ⟨P, 9, none⟩ = _ := cell_of HX1.out 9
  have c10 : w1.cell? ⟨P, 10, none⟩ = _ := cell_of HX1.out 10
  go_wp2_with fail
  refine (HOP.out w1).mono ?_
  rintro e w2 ⟨rfl, B2⟩
  have HX2 := keepH (heap_below HX1.out B2)
  have HB2 := keepH (below_chain HB1.out B2)
  clear B2 c0 c1 c2 c3 c4 c5 c6 c7 c8 c9 c10
  have c0 : w2.cell? ⟨P, 0, none⟩ = _ := cell_of HX2.out 0
  have c1 : w2.cell? ⟨P, 1, none⟩ = _ := cell_of HX2.out 1
  have c2 : w2.cell? ⟨P, 2, none⟩ = _ := cell_of HX2.out 2
  have c3 : w2.cell? ⟨P, 3, none⟩ = _ := cell_of HX2.out 3
  have c4 : w2.cell? ⟨P, 4, none⟩ = _ := cell_of HX2.out 4
  have c5 : w2.cell? ⟨P, 5, none⟩ = _ := cell_of HX2.out 5
  have c6 : w2.cell? ⟨P, 6, none⟩ = _ := cell_of HX2.out 6
  have c7 : w2.cell? ⟨P, 7, none⟩ = _ := cell_of HX2.out 7
  have c8 : w2.cell? ⟨P, 8, none⟩ = _ := cell_of HX2.out 8
  have c9 : w2.cell? ⟨P, 9, none⟩ = _ := cell_of HX2.out 9
  have c10 : w2.cell? ⟨P, 10, none⟩ = _ := cell_of HX2.out 10
  go_wp2_with fail
  refine (HWO.out w2).mono ?_
  rintro e w3 ⟨rfl, B3⟩
  have HX3 := keepH (heap_below HX2.out B3)
  have HB3 := keepH (below_chain HB2.out B3)
  clear B3 c0 c1 c2 c3 c4 c5 c6 c7 c8 c9 c10
  have c0 : w3.cell? ⟨P, 0, none⟩ = _ := cell_of HX3.out 0
  have c1 : w3.cell? ⟨P, 1, none⟩ = _ := cell_of HX3.out 1
  have c2 : w3.cell? ⟨P, 2, none⟩ = _ := cell_of HX3.out 2
  have c3 : w3.cell? ⟨P, 3, none⟩ = _ := cell_of HX3.out 3
  have c4 : w3.cell? ⟨P, 4, none⟩ = _ := cell_of HX3.out 4
  have c5 : w3.cell? ⟨P, 5, none⟩ = _ := cell_of HX3.out 5
  have c6 : w3.cell? ⟨P, 6, none⟩ = _ := cell_of HX3.out 6
  have c7 : w3.cell? ⟨P, 7, none⟩ = _ := cell_of HX3.out 7
  have c8 : w3.cell? ⟨P, 8, none⟩ = _ := cell_of HX3.out 8
  have c9 : w3.cell? ⟨P, 9, none⟩ = _ := cell_of HX3.out 9
  have c10 : w3.cell? ⟨P, 10, none⟩ = _ := cell_of HX3.out 10
  go_wp2_with fail
  refine (HHD.out w3).mono ?_
  rintro e wx ⟨rfl, hwx⟩
  rw [hwx]
  clear hwx
  go_wp2_with fail
  refine (HNhnd.out w3 HB3.out).mono ?_
  rintro e w4 ⟨rfl, B4⟩
  have HX4 := keepH (heap_below HX3.out B4)
  have HB4 := keepH (below_chain HB3.out B4)
  clear B4 c0 c1 c2 c3 c4 c5 c6 c7 c8 c9 c10
  have c0 : w4.cell? ⟨P, 0, none⟩ = _ := cell_of HX4.out 0
  have c1 : w4.cell? ⟨P, 1, none⟩ = _ := cell_of HX4.out 1
  have c2 : w4.cell? ⟨P, 2, none⟩ = _ := cell_of HX4.out 2
  have c3 : w4.cell? ⟨P, 3, none⟩ = _ := cell_of HX4.out 3
  have c4 : w4.cell? ⟨P, 4, none⟩ = _ := cell_of HX4.out 4
  have c5 : w4.cell? ⟨P, 5, none⟩ = _ := cell_of HX4.out 5
  have c6 : w4.cell? ⟨P, 6, none⟩ = _ := cell_of HX4.out 6
  have c7 : w4.cell? ⟨P, 7, none⟩ = _ := cell_of HX4.out 7
  have c8 : w4.cell? ⟨P, 8, none⟩ = _ := cell_of HX4.out 8
  have c9 : w4.cell? ⟨P, 9, none⟩ = _ := cell_of HX4.out 9
  have c10 : w4.cell? ⟨P, 10, none⟩ = _ := cell_of HX4.out 10
  go_upto_region 9 with fail
  clear c0 c1 c2 c3 c4 c5 c6 c7 c8 c9 c10
  have c0 : w4.cell? ⟨P, 0, none⟩ = _ := cell_of HX4.out 0
  rw [show Value.string g2 = Value.string (mkS bb) from by rw [HS1.out]]
  go_wp2_with fail
  clear c0
  go_loopw [5, 6] (fun s5 s6 wr => ∃ i : Nat, i ≤ n ∧ s6 = .int .i64 (i : Int) ∧ s5 = .string (mkS (bb ++ flatK (keys.take i))) ∧ Hid (Below w4.heap.size w4 wr)) (fun _ s6 _ => n - (intOf s6).toNat)
  case atStart => exact ⟨0, by omega, rfl, by simp [flatK], keepH (Below.refl _ _)⟩
  case round =>
    obtain ⟨i, him, rfl, rfl, HR⟩ := hrel
    have p8 : wr.cell? ⟨P, 8, none⟩ = _ := cell_of (heap_below HX4.out HR.out) 8
    by_cases hlt : i < n
    · have t1 : (i : Int) < (n : Int) := by omega
      have t0 : (0 : Int) ≤ (i : Int) := by omega
      obtain ⟨x, hx⟩ : ∃ x, keys[i]? = some x := ⟨keys[i]'(by have := HN.out; omega), List.getElem?_eq_getElem _⟩
      have hm := List.mem_of_getElem? hx
      obtain ⟨bk, off, rfl, _, q0⟩ := (HKR.out.on (below_chain HB4.out HR.out)).get i x hx
      have HQ := keepH (HNK.out x hm wr (below_chain HB4.out HR.out))
      have hlx := HLK.out x hm
      have hfl : (flatK (keys.take i)).length ≤ 22 * i := flatK_len i (fun u hu => HLK.out u (List.mem_of_mem_take hu))
      have k1 := add_str [32] (Lib.decDigits x) (by simp; omega)
      have k2 := add_str (bb ++ flatK (keys.take i)) ([32] ++ Lib.decDigits x) (by simp; omega)
      have HNX : Hid (mkS (bb ++ flatK (keys.take i) ++ ([32] ++ Lib.decDigits x)) = mkS (bb ++ flatK (keys.take (i + 1)))) := keepH (by rw [flatK_next hx]; simp)
      rw [HNX.out] at k2
      rw [show mkS [32] = ⟨#[32]⟩ from rfl] at k1
      obtain ⟨sd, hsd⟩ : ∃ s, s = mkS (Lib.decDigits x) := ⟨_, rfl⟩
      obtain ⟨ga, hga⟩ : ∃ s, s = mkS ([32] ++ Lib.decDigits x) := ⟨_, rfl⟩
      obtain ⟨gb, hgb⟩ : ∃ s, s = mkS (bb ++ flatK (keys.take i)) := ⟨_, rfl⟩
      obtain ⟨gc, hgc⟩ : ∃ s, s = mkS (bb ++ flatK (keys.take (i + 1))) := ⟨_, rfl⟩
      rw [← hsd, ← hga] at k1
      rw [← hga, ← hgb, ← hgc] at k2
      rw [← hsd] at HQ
      rw [← hgb]
      have HGC := keepH hgc
      clear hx hm hlx hfl HNX hsd hga hgb hgc
      go_wp2_with fail
      refine HQ.out.mono ?_
      rintro e wz ⟨rfl, Bz⟩
      have HRz := keepH (below_chain HR.out Bz)
      clear Bz p8 q0
      go_wp2_with fail
      go_roundw
      case rel => exact ⟨i + 1, by omega, by first | rfl | go_num, by rw [HGC.out], HRz⟩
      case measure => simp [intOf]; omega
    · obtain rfl : i = n := by omega
      have t1 : ¬ (i : Int) < (i : Int) := by omega
      have HTT : Hid (mkS (bb ++ flatK (keys.take i)) = mkS (opT 7 key val old hnd false rt ri keys lo hi)) := keepH (by rw [HFIN.out, HN.out, List.take_length])
      rw [HTT.out]
      obtain ⟨tt, htt⟩ : ∃ s, s = mkS (opT 7 key val old hnd false rt ri keys lo hi) := ⟨_, rfl⟩
      rw [← htt]
      have HT2 := keepH htt
      clear htt HTT
      go_wp2_with fail
      go_ret2
      exact ⟨by rw [← HT2.out]; simp, below_chain HB4.out HR.out⟩
set_option maxRecDepth 100000 in
set_option maxHeartbeats 8000000 in
theorem dPrint_8t (key val old hnd : Nat) (rt ri : Int) (kp : Option Addr) (kc lo hi : Nat) (keys : List Nat) (h1 : isU key) (h2 : isU val) (h3 : isU old) (h4 : isU hnd) (h5 : isU lo) (h6 : isU hi) (ha : isI rt) (hb : isI ri) (hf : faultN 8 key val old hnd true rt ri kp keys.length kc lo hi = 0) (W : World) (T : Tb W) :
    Calls Tryz.prog 8 #[.agg (opR 8 key val old hnd true rt ri (.slice kp keys.length kc) lo hi)] W fun e W' => e = .returned (.tuple #[.string (mkS (opT 8 key val old hnd true rt ri keys lo hi)), .int .i64 0]) ∧ Below W.heap.size W W' := by
  have hop := fun w => dOp_any 8 key val old hnd true rt ri kp keys.length kc lo hi (by omega) h1 h2 h3 h4 h5 h6 ha hb w
  rw [hf] at hop
  have HOP := keepH hop
  have HWO := keepH (fun w => dWord_any 8 (by omega) w)
  have HHD := keepH (fun w => dHandled_any 8 w)
  rw [show hndK 8 = true from rfl] at HHD
  have l0 := opW_len 8
  have llo := dec_len h5
  obtain ⟨slo, hslo⟩ : ∃ s, s = mkS (Lib.decDigits lo) := ⟨_, rfl⟩
  have hnlo := fun w (hbe : Below W.heap.size W w) => dNum_any lo h5 w (T.on hbe)
  rw [← hslo] at hnlo
  have HNlo := keepH hnlo
  clear hnlo
  have lhi := dec_len h6
  obtain ⟨shi, hshi⟩ : ∃ s, s = mkS (Lib.decDigits hi) := ⟨_, rfl⟩
  have hnhi := fun w (hbe : Below W.heap.size W w) => dNum_any hi h6 w (T.on hbe)
  rw [← hshi] at hnhi
  have HNhi := keepH hnhi
  clear hnhi
  have lrt := itoa_len ha
  obtain ⟨srt, hsrt⟩ : ∃ s, s = mkS (Lib.itoa rt) := ⟨_, rfl⟩
  have hnrt := fun w (hbe : Below W.heap.size W w) => itoa_any rt ha.1 ha.2 w (T.on hbe)
  rw [← hsrt] at hnrt
  have HNrt := keepH hnrt
  clear hnrt
  have lri := itoa_len hb
  obtain ⟨sri, hsri⟩ : ∃ s, s = mkS (Lib.itoa ri) := ⟨_, rfl⟩
  have hnri := fun w (hbe : Below W.heap.size W w) => itoa_any ri hb.1 hb.2 w (T.on hbe)
  rw [← hsri] at hnri
  have HNri := keepH hnri
  clear hnri
  obtain ⟨s0, hs0⟩ : ∃ s, s = mkS (opW 8) := ⟨_, rfl⟩
  rw [← hs0] at HWO
  have k1 := add_str [32, 64] (Lib.itoa rt) (by (try simp only [List.length_append]); (try simp only [List.length_cons]); (try simp only [List.length_nil]); omega)
  rw [show mkS [32, 64] = ⟨#[32, 64]⟩ from rfl] at k1
  rw [← hsrt] at k1
  obtain ⟨g1, hg1⟩ : ∃ g, g = mkS ([32, 64] ++ (Lib.itoa rt)) := ⟨_, rfl⟩
  rw [← hg1] at k1
  have k2 := add_str ([32, 64] ++ (Lib.itoa rt)) [46] (by (try simp only [List.length_append]); (try simp only [List.length_cons]); (try simp only [List.length_nil]); omega)
  rw [← hg1] at k2
  rw [show mkS [46] = ⟨#[46]⟩ from rfl] at k2
  obtain ⟨g2, hg2⟩ : ∃ g, g = mkS (([32, 64] ++ (Lib.itoa rt)) ++ [46]) := ⟨_, rfl⟩
  rw [← hg2] at k2
  have k3 := add_str (([32, 64] ++ (Lib.itoa rt)) ++ [46]) (Lib.itoa ri) (by (try simp only [List.length_append]); (try simp only [List.length_cons]); (try simp only [List.length_nil]); omega)
  rw [← hg2] at k3
  rw [← hsri] at k3
  obtain ⟨g3, hg3⟩ : ∃ g, g = mkS ((([32, 64] ++ (Lib.itoa rt)) ++ [46]) ++ (Lib.itoa ri)) := ⟨_, rfl⟩
  rw [← hg3] at k3
  have k4 := add_str (opW 8) ((([32, 64] ++ (Lib.itoa rt)) ++ [46]) ++ (Lib.itoa ri)) (by (try simp only [List.length_append]); (try simp only [List.length_cons]); (try simp only [List.length_nil]); omega)
  rw [← hs0] at k4
  rw [← hg3] at k4
  obtain ⟨g4, hg4⟩ : ∃ g, g = mkS ((opW 8) ++ ((([32, 64] ++ (Lib.itoa rt)) ++ [46]) ++ (Lib.itoa ri))) := ⟨_, rfl⟩
  rw [← hg4] at k4
  have k5 := add_str [32] (Lib.decDigits lo) (by (try simp only [List.length_append]); (try simp only [List.length_cons]); (try simp only [List.length_nil]); omega)
  rw [show mkS [32] = ⟨#[32]⟩ from rfl] at k5
  rw [← hslo] at k5
  obtain ⟨g5, hg5⟩ : ∃ g, g = mkS ([32] ++ (Lib.decDigits lo)) := ⟨_, rfl⟩
  rw [← hg5] at k5
  have k6 := add_str ([32] ++ (Lib.decDigits lo)) [32] (by (try simp only [List.length_append]); (try simp only [List.length_cons]); (try simp only [List.length_nil]); omega)
  rw [← hg5] at k6
  rw [show mkS [32] = ⟨#[32]⟩ from rfl] at k6
  obtain ⟨g6, hg6⟩ : ∃ g, g = mkS (([32] ++ (Lib.decDigits lo)) ++ [32]) := ⟨_, rfl⟩
  rw [← hg6] at k6
  have k7 := add_str (([32] ++ (Lib.decDigits lo)) ++ [32]) (Lib.decDigits hi) (by (try simp only [List.length_append]); (try simp only [List.length_cons]); (try simp only [List.length_nil]); omega)
  rw [← hg6] at k7
  rw [← hshi] at k7
  obtain ⟨g7, hg7⟩ : ∃ g, g = mkS ((([32] ++ (Lib.decDigits lo)) ++ [32]) ++ (Lib.decDigits hi)) := ⟨_, rfl⟩
  rw [← hg7] at k7
  have k8 := add_str ((opW 8) ++ ((([32, 64] ++ (Lib.itoa rt)) ++ [46]) ++ (Lib.itoa ri))) ((([32] ++ (Lib.decDigits lo)) ++ [32]) ++ (Lib.decDigits hi)) (by (try simp only [List.length_append]); (try simp only [List.length_cons]); (try simp only [List.length_nil]); omega)
  rw [← hg4] at k8
  rw [← hg7] at k8
  obtain ⟨g8, hg8⟩ : ∃ g, g = mkS (((opW 8) ++ ((([32, 64] ++ (Lib.itoa rt)) ++ [46]) ++ (Lib.itoa ri))) ++ ((([32] ++ (Lib.decDigits lo)) ++ [32]) ++ (Lib.decDigits hi))) := ⟨_, rfl⟩
  rw [← hg8] at k8
  have hfin : mkS (opT 8 key val old hnd true rt ri keys lo hi) = g8 := by
    rw [hg8]
    first | rfl | (congr 1; unfold opT partsO; rw [show hndK 8 = true from rfl, show kysK 8 = false from rfl, show numK 8 = [9, 10] from rfl]; simp [join_flat, numAt, hText]) | (exact congrArg mkS (by unfold opT partsO; simp [hndK, kysK, numK, Lib.join_one]))
  rw [hfin]
  obtain ⟨w1, hw1⟩ : ∃ w1, w1 = W.alloc (.cells (opR 8 key val old hnd true rt ri (.slice kp keys.length kc) lo hi) 28) := ⟨_, rfl⟩
  obtain ⟨P, hP⟩ : ∃ P, P = W.heap.size := ⟨_, rfl⟩
  have B1 : Below W.heap.size W w1 := by rw [hw1]; exact below_alloc _ _
  have X1 : w1.heap[P]? = some (.cells (opR 8 key val old hnd true rt ri (.slice kp keys.length kc) lo hi) 28 (0, 0)) := by rw [hw1, hP]; exact heap_alloc_new _ _
  have HW1 := keepH hw1
  have HP := keepH hP
  have HB1 := keepH B1
  have HX1 := keepH X1
  obtain ⟨n, hn⟩ : ∃ n, n = keys.length := ⟨_, rfl⟩
  rw [← hn] at HOP HX1 HW1 ⊢
  have HN := keepH hn
  clear hop hw1 hP B1 X1 hf T h1 h2 h3 h4 h5 h6 ha hb hn
  clear hs0 l0 hslo llo hshi lhi hsrt lrt hsri lri hg1 hg2 hg3 hg4 hg5 hg6 hg7 hg8 hfin
  go_enter Tryz.func8, Tryz.ntmps8
  go_upto_region 1 with fail
  rw [← HW1.out, ← HP.out]
  have c0 : w1.cell? ⟨P, 0, none⟩ = _ := cell_of HX1.out 0
  have c1 : w1.cell? ⟨P, 1, none⟩ = _ := cell_of HX1.out 1
  have c2 : w1.cell? ⟨P, 2, none⟩ = _ := cell_of HX1.out 2
  have c3 : w1.cell? ⟨P, 3, none⟩ = _ := cell_of HX1.out 3
  have c4 : w1.cell? ⟨P, 4, none⟩ = _ := cell_of HX1.out 4
  have c5 : w1.cell? ⟨P, 5, none⟩ = _ := cell_of HX1.out 5
  have c6 : w1.cell? ⟨P, 6, none⟩ = _ := cell_of HX1.out 6
  have c7 : w1.cell? ⟨P, 7, none⟩ = _ := cell_of HX1.out 7
  have c8 : w1.cell? ⟨P, 8, none⟩ = _ := cell_of HX1.out 8
  have c9 : w1.cell? ⟨P, 9, none⟩ = _ := cell_of HX1.out 9
  have c10 : w1.cell? ⟨P, 10, none⟩ = _ := cell_of HX1.out 10
  go_wp2_with fail
  refine (HOP.out w1).mono ?_
  rintro e w2 ⟨rfl, B2⟩
  have HX2 := keepH (heap_below HX1.out B2)
  have HB2 := keepH (below_chain HB1.out B2)
  clear B2 c0 c1 c2 c3 c4 c5 c6 c7 c8 c9 c10
  have c0 : w2.cell? ⟨P, 0, none⟩ = _ := cell_of HX2.out 0
  have c1 : w2.cell? ⟨P, 1, none⟩ = _ := cell_of HX2.out 1
  have c2 : w2.cell? ⟨P, 2, none⟩ = _ := cell_of HX2.out 2
  have c3 : w2.cell? ⟨P, 3, none⟩ = _ := cell_of HX2.out 3
  have c4 : w2.cell? ⟨P, 4, none⟩ = _ := cell_of HX2.out 4
  have c5 : w2.cell? ⟨P, 5, none⟩ = _ := cell_of HX2.out 5
  have c6 : w2.cell? ⟨P, 6, none⟩ = _ := cell_of HX2.out 6
  have c7 : w2.cell? ⟨P, 7, none⟩ = _ := cell_of HX2.out 7
  have c8 : w2.cell? ⟨P, 8, none⟩ = _ := cell_of HX2.out 8
  have c9 : w2.cell? ⟨P, 9, none⟩ = _ := cell_of HX2.out 9
  have c10 : w2.cell? ⟨P, 10, none⟩ = _ := cell_of HX2.out 10
  go_wp2_with fail
  refine (HWO.out w2).mono ?_
  rintro e w3 ⟨rfl, B3⟩
  have HX3 := keepH (heap_below HX2.out B3)
  have HB3 := keepH (below_chain HB2.out B3)
  clear B3 c0 c1 c2 c3 c4 c5 c6 c7 c8 c9 c10
  have c0 : w3.cell? ⟨P, 0, none⟩ = _ := cell_of HX3.out 0
  have c1 : w3.cell? ⟨P, 1, none⟩ = _ := cell_of HX3.out 1
  have c2 : w3.cell? ⟨P, 2, none⟩ = _ := cell_of HX3.out 2
  have c3 : w3.cell? ⟨P, 3, none⟩ = _ := cell_of HX3.out 3
  have c4 : w3.cell? ⟨P, 4, none⟩ = _ := cell_of HX3.out 4
  have c5 : w3.cell? ⟨P, 5, none⟩ = _ := cell_of HX3.out 5
  have c6 : w3.cell? ⟨P, 6, none⟩ = _ := cell_of HX3.out 6
  have c7 : w3.cell? ⟨P, 7, none⟩ = _ := cell_of HX3.out 7
  have c8 : w3.cell? ⟨P, 8, none⟩ = _ := cell_of HX3.out 8
  have c9 : w3.cell? ⟨P, 9, none⟩ = _ := cell_of HX3.out 9
  have c10 : w3.cell? ⟨P, 10, none⟩ = _ := cell_of HX3.out 10
  go_wp2_with fail
  refine (HHD.out w3).mono ?_
  rintro e wx ⟨rfl, hwx⟩
  rw [hwx]
  clear hwx
  go_upto_region 7 with fail
  have HC6 := keepH c6
  have HC7 := keepH c7
  clear c0 c1 c2 c3 c4 c5 c6 c7 c8 c9 c10
  refine wp_region_held_drew (S := fun w => Below w3.heap.size w3 w) (by kernel_rfl) (below_drewN (Below.refl _ _) 1) ?_
  intro hHeld
  refine wpAnyH_take (i := 0) (v := ?_) rfl (by kernel_rfl) (by kernel_rfl) (by kernel_rfl) (fun _ _ _ h => h) (Or.inl ⟨by rfl, ?_⟩) hHeld ?_
  rotate_left
  · intro w hSw
    (try dsimp only at hSw)
    go_simp
    try with_reducible rfl
  (try simp only [Act.put]); (try simp only [List.setIfInBounds_toArray]); (try simp only [List.getElem_toArray]); (repeat (first | simp only [List.getElem_cons_succ] | simp only [List.getElem_cons_zero])); (repeat (first | simp only [List.set_cons_succ] | simp only [List.set_cons_zero]))
  refine wpAnyH_take (i := 1) (v := ?_) rfl (by kernel_rfl) (by kernel_rfl) (by kernel_rfl) (fun _ _ _ h => h) (Or.inl ⟨by rfl, ?_⟩) hHeld ?_
  rotate_left
  · intro w hSw
    (try dsimp only at hSw)
    go_simp
    try with_reducible rfl
  (try simp only [Act.put]); (try simp only [List.setIfInBounds_toArray]); (try simp only [List.getElem_toArray]); (repeat (first | simp only [List.getElem_cons_succ] | simp only [List.getElem_cons_zero])); (repeat (first | simp only [List.set_cons_succ] | simp only [List.set_cons_zero]))
  refine wpAnyH_take (i := 2) (v := ?_) rfl (by kernel_rfl) (by kernel_rfl) (by kernel_rfl) (fun _ _ _ h => h) (Or.inl ⟨by rfl, ?_⟩) hHeld ?_
  rotate_left
  · intro w hSw
    (try dsimp only at hSw)
    go_simp
    try with_reducible rfl
  (try simp only [Act.put]); (try simp only [List.setIfInBounds_toArray]); (try simp only [List.getElem_toArray]); (repeat (first | simp only [List.getElem_cons_succ] | simp only [List.getElem_cons_zero])); (repeat (first | simp only [List.set_cons_succ] | simp only [List.set_cons_zero]))
  refine wpAnyH_take (i := 3) (v := ?_) rfl (by kernel_rfl) (by kernel_rfl) (by kernel_rfl) (fun _ _ _ h => h) (Or.inl ⟨by rfl, ?_⟩) hHeld ?_
  rotate_left
  · intro w hSw
    (try dsimp only at hSw)
    have y6 := cell_below HC6.out hSw
    go_simp
    try with_reducible rfl
  (try simp only [Act.put]); (try simp only [List.setIfInBounds_toArray]); (try simp only [List.getElem_toArray]); (repeat (first | simp only [List.getElem_cons_succ] | simp only [List.getElem_cons_zero])); (repeat (first | simp only [List.set_cons_succ] | simp only [List.set_cons_zero]))
  refine wpAnyH_take (i := 7) (v := ?_) rfl (by kernel_rfl) (by kernel_rfl) (by kernel_rfl) (fun _ _ _ h => h) (Or.inl ⟨by rfl, ?_⟩) hHeld ?_
  rotate_left
  · intro w hSw
    (try dsimp only at hSw)
    go_simp
    try with_reducible rfl
  (try simp only [Act.put]); (try simp only [List.setIfInBounds_toArray]); (try simp only [List.getElem_toArray]); (repeat (first | simp only [List.getElem_cons_succ] | simp only [List.getElem_cons_zero])); (repeat (first | simp only [List.set_cons_succ] | simp only [List.set_cons_zero]))
  refine wpAnyH_take (i := 8) (v := ?_) rfl (by kernel_rfl) (by kernel_rfl) (by kernel_rfl) (fun _ _ _ h => h) (Or.inl ⟨by rfl, ?_⟩) hHeld ?_
  rotate_left
  · intro w hSw
    (try dsimp only at hSw)
    go_simp
    try with_reducible rfl
  (try simp only [Act.put]); (try simp only [List.setIfInBounds_toArray]); (try simp only [List.getElem_toArray]); (repeat (first | simp only [List.getElem_cons_succ] | simp only [List.getElem_cons_zero])); (repeat (first | simp only [List.set_cons_succ] | simp only [List.set_cons_zero]))
  refine wpAnyH_take (i := 9) (v := ?_) rfl (by kernel_rfl) (by kernel_rfl) (by kernel_rfl) (fun _ _ _ h => h) (Or.inl ⟨by rfl, ?_⟩) hHeld ?_
  rotate_left
  · intro w hSw
    (try dsimp only at hSw)
    have y7 := cell_below HC7.out hSw
    go_simp
    try with_reducible rfl
  (try simp only [Act.put]); (try simp only [List.setIfInBounds_toArray]); (try simp only [List.getElem_toArray]); (repeat (first | simp only [List.getElem_cons_succ] | simp only [List.getElem_cons_zero])); (repeat (first | simp only [List.set_cons_succ] | simp only [List.set_cons_zero]))
  refine wpAnyH_ready (rs := [4]) (by kernel_rfl) (by simp) ?_
  refine AllReadyH.cons rfl (fun KK hKK => ?_) AllReadyH.nil
  go_simp
  refine (HNrt.out _ (below_chain HB3.out hHeld)).mono ?_
  rintro e v1 ⟨rfl, D1⟩
  have E1 := below_chain hHeld D1
  clear D1
  refine hKK.out _ _ ?_ (fun hHeld => ?_)
  · exact E1
  clear hKK KK
  (try simp only [Act.put]); (try simp only [List.setIfInBounds_toArray]); (try simp only [List.getElem_toArray]); (repeat (first | simp only [List.getElem_cons_succ] | simp only [List.getElem_cons_zero])); (repeat (first | simp only [List.set_cons_succ] | simp only [List.set_cons_zero]))
  refine wpAnyH_take (i := 5) (v := ?_) rfl (by kernel_rfl) (by kernel_rfl) (by kernel_rfl) (fun _ _ _ h => h) (Or.inl ⟨by rfl, ?_⟩) hHeld ?_
  rotate_left
  · intro w hSw
    (try dsimp only at hSw)
    go_simp
    try with_reducible rfl
  (try simp only [Act.put]); (try simp only [List.setIfInBounds_toArray]); (try simp only [List.getElem_toArray]); (repeat (first | simp only [List.getElem_cons_succ] | simp only [List.getElem_cons_zero])); (repeat (first | simp only [List.set_cons_succ] | simp only [List.set_cons_zero]))
  refine wpAnyH_take (i := 6) (v := ?_) rfl (by kernel_rfl) (by kernel_rfl) (by kernel_rfl) (fun _ _ _ h => h) (Or.inl ⟨by rfl, ?_⟩) hHeld ?_
  rotate_left
  · intro w hSw
    (try dsimp only at hSw)
    go_simp
    try with_reducible rfl
  (try simp only [Act.put]); (try simp only [List.setIfInBounds_toArray]); (try simp only [List.getElem_toArray]); (repeat (first | simp only [List.getElem_cons_succ] | simp only [List.getElem_cons_zero])); (repeat (first | simp only [List.set_cons_succ] | simp only [List.set_cons_zero]))
  refine wpAnyH_ready (rs := [10]) (by kernel_rfl) (by simp) ?_
  refine AllReadyH.cons rfl (fun KK hKK => ?_) AllReadyH.nil
  go_simp
  refine (HNri.out _ (below_chain HB3.out hHeld)).mono ?_
  rintro e v2 ⟨rfl, D2⟩
  have E2 := below_chain hHeld D2
  have HEE := keepH E2
  clear D2
  refine hKK.out _ _ ?_ (fun hHeld => ?_)
  · exact E2
  clear hKK KK
  (try simp only [Act.put]); (try simp only [List.setIfInBounds_toArray]); (try simp only [List.getElem_toArray]); (repeat (first | simp only [List.getElem_cons_succ] | simp only [List.getElem_cons_zero])); (repeat (first | simp only [List.set_cons_succ] | simp only [List.set_cons_zero]))
  refine wpAnyH_take (i := 11) (v := ?_) rfl (by kernel_rfl) (by kernel_rfl) (by kernel_rfl) (fun _ _ _ h => h) (Or.inl ⟨by rfl, ?_⟩) hHeld ?_
  rotate_left
  · intro w hSw
    (try dsimp only at hSw)
    go_simp
    try with_reducible rfl
  (try simp only [Act.put]); (try simp only [List.setIfInBounds_toArray]); (try simp only [List.getElem_toArray]); (repeat (first | simp only [List.getElem_cons_succ] | simp only [List.getElem_cons_zero])); (repeat (first | simp only [List.set_cons_succ] | simp only [List.set_cons_zero]))
  refine wpAnyH_take (i := 12) (v := ?_) rfl (by kernel_rfl) (by kernel_rfl) (by kernel_rfl) (fun _ _ _ h => h) (Or.inl ⟨by rfl, ?_⟩) hHeld ?_
  rotate_left
  · intro w hSw
    (try dsimp only at hSw)
    go_simp
    try with_reducible rfl
  (try simp only [Act.put]); (try simp only [List.setIfInBounds_toArray]); (try simp only [List.getElem_toArray]); (repeat (first | simp only [List.getElem_cons_succ] | simp only [List.getElem_cons_zero])); (repeat (first | simp only [List.set_cons_succ] | simp only [List.set_cons_zero]))
  refine wpAnyH_take (i := 13) (v := ?_) rfl (by kernel_rfl) (by kernel_rfl) (by kernel_rfl) (fun _ _ _ h => h) (Or.inl ⟨by rfl, ?_⟩) hHeld ?_
  rotate_left
  · intro w hSw
    (try dsimp only at hSw)
    go_simp
    try with_reducible rfl
  (try simp only [Act.put]); (try simp only [List.setIfInBounds_toArray]); (try simp only [List.getElem_toArray]); (repeat (first | simp only [List.getElem_cons_succ] | simp only [List.getElem_cons_zero])); (repeat (first | simp only [List.set_cons_succ] | simp only [List.set_cons_zero]))
  refine wpAnyH_done (by kernel_rfl) ?_ _
  go_simp
  have HX4 := keepH (heap_below HX3.out HEE.out)
  have HB4 := keepH (below_chain HB3.out HEE.out)
  clear HEE
  have c0 : v2.cell? ⟨P, 0, none⟩ = _ := cell_of HX4.out 0
  have c1 : v2.cell? ⟨P, 1, none⟩ = _ := cell_of HX4.out 1
  have c2 : v2.cell? ⟨P, 2, none⟩ = _ := cell_of HX4.out 2
  have c3 : v2.cell? ⟨P, 3, none⟩ = _ := cell_of HX4.out 3
  have c4 : v2.cell? ⟨P, 4, none⟩ = _ := cell_of HX4.out 4
  have c5 : v2.cell? ⟨P, 5, none⟩ = _ := cell_of HX4.out 5
  have c6 : v2.cell? ⟨P, 6, none⟩ = _ := cell_of HX4.out 6
  have c7 : v2.cell? ⟨P, 7, none⟩ = _ := cell_of HX4.out 7
  have c8 : v2.cell? ⟨P, 8, none⟩ = _ := cell_of HX4.out 8
  have c9 : v2.cell? ⟨P, 9, none⟩ = _ := cell_of HX4.out 9
  have c10 : v2.cell? ⟨P, 10, none⟩ = _ := cell_of HX4.out 10
  go_upto_region 24 with fail
  have HQ9 := keepH c9
  have HQ10 := keepH c10
  clear c0 c1 c2 c3 c4 c5 c6 c7 c8 c9 c10
  refine wp_region_held_drew (S := fun w => Below v2.heap.size v2 w) (by kernel_rfl) (below_drewN (Below.refl _ _) 1) ?_
  intro hHeld
  refine wpAnyH_take (i := 0) (v := ?_) rfl (by kernel_rfl) (by kernel_rfl) (by kernel_rfl) (fun _ _ _ h => h) (Or.inl ⟨by rfl, ?_⟩) hHeld ?_
  rotate_left
  · intro w hSw
    (try dsimp only at hSw)
    go_simp
    try with_reducible rfl
  (try simp only [Act.put]); (try simp only [List.setIfInBounds_toArray]); (try simp only [List.getElem_toArray]); (repeat (first | simp only [List.getElem_cons_succ] | simp only [List.getElem_cons_zero])); (repeat (first | simp only [List.set_cons_succ] | simp only [List.set_cons_zero]))
  refine wpAnyH_take (i := 1) (v := ?_) rfl (by kernel_rfl) (by kernel_rfl) (by kernel_rfl) (fun _ _ _ h => h) (Or.inl ⟨by rfl, ?_⟩) hHeld ?_
  rotate_left
  · intro w hSw
    (try dsimp only at hSw)
    go_simp
    try with_reducible rfl
  (try simp only [Act.put]); (try simp only [List.setIfInBounds_toArray]); (try simp only [List.getElem_toArray]); (repeat (first | simp only [List.getElem_cons_succ] | simp only [List.getElem_cons_zero])); (repeat (first | simp only [List.set_cons_succ] | simp only [List.set_cons_zero]))
  refine wpAnyH_take (i := 2) (v := ?_) rfl (by kernel_rfl) (by kernel_rfl) (by kernel_rfl) (fun _ _ _ h => h) (Or.inl ⟨by rfl, ?_⟩) hHeld ?_
  rotate_left
  · intro w hSw
    (try dsimp only at hSw)
    have y := cell_below HQ9.out hSw
    go_simp
    try with_reducible rfl
  (try simp only [Act.put]); (try simp only [List.setIfInBounds_toArray]); (try simp only [List.getElem_toArray]); (repeat (first | simp only [List.getElem_cons_succ] | simp only [List.getElem_cons_zero])); (repeat (first | simp only [List.set_cons_succ] | simp only [List.set_cons_zero]))
  refine wpAnyH_take (i := 6) (v := ?_) rfl (by kernel_rfl) (by kernel_rfl) (by kernel_rfl) (fun _ _ _ h => h) (Or.inl ⟨by rfl, ?_⟩) hHeld ?_
  rotate_left
  · intro w hSw
    (try dsimp only at hSw)
    go_simp
    try with_reducible rfl
  (try simp only [Act.put]); (try simp only [List.setIfInBounds_toArray]); (try simp only [List.getElem_toArray]); (repeat (first | simp only [List.getElem_cons_succ] | simp only [List.getElem_cons_zero])); (repeat (first | simp only [List.set_cons_succ] | simp only [List.set_cons_zero]))
  refine wpAnyH_take (i := 7) (v := ?_) rfl (by kernel_rfl) (by kernel_rfl) (by kernel_rfl) (fun _ _ _ h => h) (Or.inl ⟨by rfl, ?_⟩) hHeld ?_
  rotate_left
  · intro w hSw
    (try dsimp only at hSw)
    have y := cell_below HQ10.out hSw
    go_simp
    try with_reducible rfl
  (try simp only [Act.put]); (try simp only [List.setIfInBounds_toArray]); (try simp only [List.getElem_toArray]); (repeat (first | simp only [List.getElem_cons_succ] | simp only [List.getElem_cons_zero])); (repeat (first | simp only [List.set_cons_succ] | simp only [List.set_cons_zero]))
  refine wpAnyH_ready (rs := [3]) (by kernel_rfl) (by simp) ?_
  refine AllReadyH.cons rfl (fun KK hKK => ?_) AllReadyH.nil
  go_simp
  refine (HNlo.out _ (below_chain HB4.out hHeld)).mono ?_
  rintro e v3 ⟨rfl, D3⟩
  have E3 := below_chain hHeld D3
  clear D3
  refine hKK.out _ _ ?_ (fun hHeld => ?_)
  · exact E3
  clear hKK KK
  (try simp only [Act.put]); (try simp only [List.setIfInBounds_toArray]); (try simp only [List.getElem_toArray]); (repeat (first | simp only [List.getElem_cons_succ] | simp only [List.getElem_cons_zero])); (repeat (first | simp only [List.set_cons_succ] | simp only [List.set_cons_zero]))
  refine wpAnyH_take (i := 4) (v := ?_) rfl (by kernel_rfl) (by kernel_rfl) (by kernel_rfl) (fun _ _ _ h => h) (Or.inl ⟨by rfl, ?_⟩) hHeld ?_
  rotate_left
  · intro w hSw
    (try dsimp only at hSw)
    go_simp
    try with_reducible rfl
  (try simp only [Act.put]); (try simp only [List.setIfInBounds_toArray]); (try simp only [List.getElem_toArray]); (repeat (first | simp only [List.getElem_cons_succ] | simp only [List.getElem_cons_zero])); (repeat (first | simp only [List.set_cons_succ] | simp only [List.set_cons_zero]))
  refine wpAnyH_take (i := 5) (v := ?_) rfl (by kernel_rfl) (by kernel_rfl) (by kernel_rfl) (fun _ _ _ h => h) (Or.inl ⟨by rfl, ?_⟩) hHeld ?_
  rotate_left
  · intro w hSw
    (try dsimp only at hSw)
    go_simp
    try with_reducible rfl
  (try simp only [Act.put]); (try simp only [List.setIfInBounds_toArray]); (try simp only [List.getElem_toArray]); (repeat (first | simp only [List.getElem_cons_succ] | simp only [List.getElem_cons_zero])); (repeat (first | simp only [List.set_cons_succ] | simp only [List.set_cons_zero]))
  refine wpAnyH_ready (rs := [8]) (by kernel_rfl) (by simp) ?_
  refine AllReadyH.cons rfl (fun KK hKK => ?_) AllReadyH.nil
  go_simp
  refine (HNhi.out _ (below_chain HB4.out hHeld)).mono ?_
  rintro e v4 ⟨rfl, D4⟩
  have E4 := below_chain hHeld D4
  have HEE := keepH E4
  clear D4
  refine hKK.out _ _ ?_ (fun hHeld => ?_)
  · exact E4
  clear hKK KK
  (try simp only [Act.put]); (try simp only [List.setIfInBounds_toArray]); (try simp only [List.getElem_toArray]); (repeat (first | simp only [List.getElem_cons_succ] | simp only [List.getElem_cons_zero])); (repeat (first | simp only [List.set_cons_succ] | simp only [List.set_cons_zero]))
  refine wpAnyH_take (i := 9) (v := ?_) rfl (by kernel_rfl) (by kernel_rfl) (by kernel_rfl) (fun _ _ _ h => h) (Or.inl ⟨by rfl, ?_⟩) hHeld ?_
  rotate_left
  · intro w hSw
    (try dsimp only at hSw)
    go_simp
    try with_reducible rfl
  (try simp only [Act.put]); (try simp only [List.setIfInBounds_toArray]); (try simp only [List.getElem_toArray]); (repeat (first | simp only [List.getElem_cons_succ] | simp only [List.getElem_cons_zero])); (repeat (first | simp only [List.set_cons_succ] | simp only [List.set_cons_zero]))
  refine wpAnyH_take (i := 10) (v := ?_) rfl (by kernel_rfl) (by kernel_rfl) (by kernel_rfl) (fun _ _ _ h => h) (Or.inl ⟨by rfl, ?_⟩) hHeld ?_
  rotate_left
  · intro w hSw
    (try dsimp only at hSw)
    go_simp
    try with_reducible rfl
  (try simp only [Act.put]); (try simp only [List.setIfInBounds_toArray]); (try simp only [List.getElem_toArray]); (repeat (first | simp only [List.getElem_cons_succ] | simp only [List.getElem_cons_zero])); (repeat (first | simp only [List.set_cons_succ] | simp only [List.set_cons_zero]))
  refine wpAnyH_take (i := 11) (v := ?_) rfl (by kernel_rfl) (by kernel_rfl) (by kernel_rfl) (fun _ _ _ h => h) (Or.inl ⟨by rfl, ?_⟩) hHeld ?_
  rotate_left
  · intro w hSw
    (try dsimp only at hSw)
    go_simp
    try with_reducible rfl
  (try simp only [Act.put]); (try simp only [List.setIfInBounds_toArray]); (try simp only [List.getElem_toArray]); (repeat (first | simp only [List.getElem_cons_succ] | simp only [List.getElem_cons_zero])); (repeat (first | simp only [List.set_cons_succ] | simp only [List.set_cons_zero]))
  refine wpAnyH_done (by kernel_rfl) ?_ _
  go_simp
  have HB6 := keepH (below_chain HB4.out HEE.out)
  go_wp2_with fail
  go_ret2
  exact ⟨by simp, HB6.out⟩
set_option maxRecDepth 100000 in
set_option maxHeartbeats 8000000 in
theorem dPrint_8f (key val old hnd : Nat) (rt ri : Int) (kp : Option Addr) (kc lo hi : Nat) (keys : List Nat) (h1 : isU key) (h2 : isU val) (h3 : isU old) (h4 : isU hnd) (h5 : isU lo) (h6 : isU hi) (ha : isI rt) (hb : isI ri) (hf : faultN 8 key val old hnd false rt ri kp keys.length kc lo hi = 0) (W : World) (T : Tb W) :
    Calls Tryz.prog 8 #[.agg (opR 8 key val old hnd false rt ri (.slice kp keys.length kc) lo hi)] W fun e W' => e = .returned (.tuple #[.string (mkS (opT 8 key val old hnd false rt ri keys lo hi)), .int .i64 0]) ∧ Below W.heap.size W W' := by
  have hop := fun w => dOp_any 8 key val old hnd false rt ri kp keys.length kc lo hi (by omega) h1 h2 h3 h4 h5 h6 ha hb w
  rw [hf] at hop
  have HOP := keepH hop
  have HWO := keepH (fun w => dWord_any 8 (by omega) w)
  have HHD := keepH (fun w => dHandled_any 8 w)
  rw [show hndK 8 = true from rfl] at HHD
  have l0 := opW_len 8
  have llo := dec_len h5
  obtain ⟨slo, hslo⟩ : ∃ s, s = mkS (Lib.decDigits lo) := ⟨_, rfl⟩
  have hnlo := fun w (hbe : Below W.heap.size W w) => dNum_any lo h5 w (T.on hbe)
  rw [← hslo] at hnlo
  have HNlo := keepH hnlo
  clear hnlo
  have lhi := dec_len h6
  obtain ⟨shi, hshi⟩ : ∃ s, s = mkS (Lib.decDigits hi) := ⟨_, rfl⟩
  have hnhi := fun w (hbe : Below W.heap.size W w) => dNum_any hi h6 w (T.on hbe)
  rw [← hshi] at hnhi
  have HNhi := keepH hnhi
  clear hnhi
  have lhnd := dec_len h4
  obtain ⟨shnd, hshnd⟩ : ∃ s, s = mkS (Lib.decDigits hnd) := ⟨_, rfl⟩
  have hnhnd := fun w (hbe : Below W.heap.size W w) => dNum_any hnd h4 w (T.on hbe)
  rw [← hshnd] at hnhnd
  have HNhnd := keepH hnhnd
  clear hnhnd
  obtain ⟨s0, hs0⟩ : ∃ s, s = mkS (opW 8) := ⟨_, rfl⟩
  rw [← hs0] at HWO
  have k1 := add_str [32] (Lib.decDigits hnd) (by (try simp only [List.length_append]); (try simp only [List.length_cons]); (try simp only [List.length_nil]); omega)
  rw [show mkS [32] = ⟨#[32]⟩ from rfl] at k1
  rw [← hshnd] at k1
  obtain ⟨g1, hg1⟩ : ∃ g, g = mkS ([32] ++ (Lib.decDigits hnd)) := ⟨_, rfl⟩
  rw [← hg1] at k1
  have k2 := add_str (opW 8) ([32] ++ (Lib.decDigits hnd)) (by (try simp only [List.length_append]); (try simp only [List.length_cons]); (try simp only [List.length_nil]); omega)
  rw [← hs0] at k2
  rw [← hg1] at k2
  obtain ⟨g2, hg2⟩ : ∃ g, g = mkS ((opW 8) ++ ([32] ++ (Lib.decDigits hnd))) := ⟨_, rfl⟩
  rw [← hg2] at k2
  have k3 := add_str [32] (Lib.decDigits lo) (by (try simp only [List.length_append]); (try simp only [List.length_cons]); (try simp only [List.length_nil]); omega)
  rw [show mkS [32] = ⟨#[32]⟩ from rfl] at k3
  rw [← hslo] at k3
  obtain ⟨g3, hg3⟩ : ∃ g, g = mkS ([32] ++ (Lib.decDigits lo)) := ⟨_, rfl⟩
  rw [← hg3] at k3
  have k4 := add_str ([32] ++ (Lib.decDigits lo)) [32] (by (try simp only [List.length_append]); (try simp only [List.length_cons]); (try simp only [List.length_nil]); omega)
  rw [← hg3] at k4
  rw [show mkS [32] = ⟨#[32]⟩ from rfl] at k4
  obtain ⟨g4, hg4⟩ : ∃ g, g = mkS (([32] ++ (Lib.decDigits lo)) ++ [32]) := ⟨_, rfl⟩
  rw [← hg4] at k4
  have k5 := add_str (([32] ++ (Lib.decDigits lo)) ++ [32]) (Lib.decDigits hi) (by (try simp only [List.length_append]); (try simp only [List.length_cons]); (try simp only [List.length_nil]); omega)
  rw [← hg4] at k5
  rw [← hshi] at k5
  obtain ⟨g5, hg5⟩ : ∃ g, g = mkS ((([32] ++ (Lib.decDigits lo)) ++ [32]) ++ (Lib.decDigits hi)) := ⟨_, rfl⟩
  rw [← hg5] at k5
  have k6 := add_str ((opW 8) ++ ([32] ++ (Lib.decDigits hnd))) ((([32] ++ (Lib.decDigits lo)) ++ [32]) ++ (Lib.decDigits hi)) (by (try simp only [List.length_append]); (try simp only [List.length_cons]); (try simp only [List.length_nil]); omega)
  rw [← hg2] at k6
  rw [← hg5] at k6
  obtain ⟨g6, hg6⟩ : ∃ g, g = mkS (((opW 8) ++ ([32] ++ (Lib.decDigits hnd))) ++ ((([32] ++ (Lib.decDigits lo)) ++ [32]) ++ (Lib.decDigits hi))) := ⟨_, rfl⟩
  rw [← hg6] at k6
  have hfin : mkS (opT 8 key val old hnd false rt ri keys lo hi) = g6 := by
    rw [hg6]
    first | rfl | (congr 1; unfold opT partsO; rw [show hndK 8 = true from rfl, show kysK 8 = false from rfl, show numK 8 = [9, 10] from rfl]; simp [join_flat, numAt, hText]) | (exact congrArg mkS (by unfold opT partsO; simp [hndK, kysK, numK, Lib.join_one]))
  rw [hfin]
  obtain ⟨w1, hw1⟩ : ∃ w1, w1 = W.alloc (.cells (opR 8 key val old hnd false rt ri (.slice kp keys.length kc) lo hi) 28) := ⟨_, rfl⟩
  obtain ⟨P, hP⟩ : ∃ P, P = W.heap.size := ⟨_, rfl⟩
  have B1 : Below W.heap.size W w1 := by rw [hw1]; exact below_alloc _ _
  have X1 : w1.heap[P]? = some (.cells (opR 8 key val old hnd false rt ri (.slice kp keys.length kc) lo hi) 28 (0, 0)) := by rw [hw1, hP]; exact heap_alloc_new _ _
  have HW1 := keepH hw1
  have HP := keepH hP
  have HB1 := keepH B1
  have HX1 := keepH X1
  obtain ⟨n, hn⟩ : ∃ n, n = keys.length := ⟨_, rfl⟩
  rw [← hn] at HOP HX1 HW1 ⊢
  have HN := keepH hn
  clear hop hw1 hP B1 X1 hf T h1 h2 h3 h4 h5 h6 ha hb hn
  clear hs0 l0 hslo llo hshi lhi hshnd lhnd hg1 hg2 hg3 hg4 hg5 hg6 hfin
  go_enter Tryz.func8, Tryz.ntmps8
  go_upto_region 1 with fail
  rw [← HW1.out, ← HP.out]
  have c0 : w1.cell? ⟨P, 0, none⟩ = _ := cell_of HX1.out 0
  have c1 : w1.cell? ⟨P, 1, none⟩ = _ := cell_of HX1.out 1
  have c2 : w1.cell? ⟨P, 2, none⟩ = _ := cell_of HX1.out 2
  have c3 : w1.cell? ⟨P, 3, none⟩ = _ := cell_of HX1.out 3
  have c4 : w1.cell? ⟨P, 4, none⟩ = _ := cell_of HX1.out 4
  have c5 : w1.cell? ⟨P, 5, none⟩ = _ := cell_of HX1.out 5
  have c6 : w1.cell? ⟨P, 6, none⟩ = _ := cell_of HX1.out 6
  have c7 : w1.cell? ⟨P, 7, none⟩ = _ := cell_of HX1.out 7
  have c8 : w1.cell? ⟨P, 8, none⟩ = _ := cell_of HX1.out 8
  have c9 : w1.cell? ⟨P, 9, none⟩ = _ := cell_of HX1.out 9
  have c10 : w1.cell? ⟨P, 10, none⟩ = _ := cell_of HX1.out 10
  go_wp2_with fail
  refine (HOP.out w1).mono ?_
  rintro e w2 ⟨rfl, B2⟩
  have HX2 := keepH (heap_below HX1.out B2)
  have HB2 := keepH (below_chain HB1.out B2)
  clear B2 c0 c1 c2 c3 c4 c5 c6 c7 c8 c9 c10
  have c0 : w2.cell? ⟨P, 0, none⟩ = _ := cell_of HX2.out 0
  have c1 : w2.cell? ⟨P, 1, none⟩ = _ := cell_of HX2.out 1
  have c2 : w2.cell? ⟨P, 2, none⟩ = _ := cell_of HX2.out 2
  have c3 : w2.cell? ⟨P, 3, none⟩ = _ := cell_of HX2.out 3
  have c4 : w2.cell? ⟨P, 4, none⟩ = _ := cell_of HX2.out 4
  have c5 : w2.cell? ⟨P, 5, none⟩ = _ := cell_of HX2.out 5
  have c6 : w2.cell? ⟨P, 6, none⟩ = _ := cell_of HX2.out 6
  have c7 : w2.cell? ⟨P, 7, none⟩ = _ := cell_of HX2.out 7
  have c8 : w2.cell? ⟨P, 8, none⟩ = _ := cell_of HX2.out 8
  have c9 : w2.cell? ⟨P, 9, none⟩ = _ := cell_of HX2.out 9
  have c10 : w2.cell? ⟨P, 10, none⟩ = _ := cell_of HX2.out 10
  go_wp2_with fail
  refine (HWO.out w2).mono ?_
  rintro e w3 ⟨rfl, B3⟩
  have HX3 := keepH (heap_below HX2.out B3)
  have HB3 := keepH (below_chain HB2.out B3)
  clear B3 c0 c1 c2 c3 c4 c5 c6 c7 c8 c9 c10
  have c0 : w3.cell? ⟨P, 0, none⟩ = _ := cell_of HX3.out 0
  have c1 : w3.cell? ⟨P, 1, none⟩ = _ := cell_of HX3.out 1
  have c2 : w3.cell? ⟨P, 2, none⟩ = _ := cell_of HX3.out 2
  have c3 : w3.cell? ⟨P, 3, none⟩ = _ := cell_of HX3.out 3
  have c4 : w3.cell? ⟨P, 4, none⟩ = _ := cell_of HX3.out 4
  have c5 : w3.cell? ⟨P, 5, none⟩ = _ := cell_of HX3.out 5
  have c6 : w3.cell? ⟨P, 6, none⟩ = _ := cell_of HX3.out 6
  have c7 : w3.cell? ⟨P, 7, none⟩ = _ := cell_of HX3.out 7
  have c8 : w3.cell? ⟨P, 8, none⟩ = _ := cell_of HX3.out 8
  have c9 : w3.cell? ⟨P, 9, none⟩ = _ := cell_of HX3.out 9
  have c10 : w3.cell? ⟨P, 10, none⟩ = _ := cell_of HX3.out 10
  go_wp2_with fail
  refine (HHD.out w3).mono ?_
  rintro e wx ⟨rfl, hwx⟩
  rw [hwx]
  clear hwx
  go_wp2_with fail
  refine (HNhnd.out w3 HB3.out).mono ?_
  rintro e w4 ⟨rfl, B4⟩
  have HX4 := keepH (heap_below HX3.out B4)
  have HB4 := keepH (below_chain HB3.out B4)
  clear B4 c0 c1 c2 c3 c4 c5 c6 c7 c8 c9 c10
  have c0 : w4.cell? ⟨P, 0, none⟩ = _ := cell_of HX4.out 0
  have c1 : w4.cell? ⟨P, 1, none⟩ = _ := cell_of HX4.out 1
  have c2 : w4.cell? ⟨P, 2, none⟩ = _ := cell_of HX4.out 2
  have c3 : w4.cell? ⟨P, 3, none⟩ = _ := cell_of HX4.out 3
  have c4 : w4.cell? ⟨P, 4, none⟩ = _ := cell_of HX4.out 4
  have c5 : w4.cell? ⟨P, 5, none⟩ = _ := cell_of HX4.out 5
  have c6 : w4.cell? ⟨P, 6, none⟩ = _ := cell_of HX4.out 6
  have c7 : w4.cell? ⟨P, 7, none⟩ = _ := cell_of HX4.out 7
  have c8 : w4.cell? ⟨P, 8, none⟩ = _ := cell_of HX4.out 8
  have c9 : w4.cell? ⟨P, 9, none⟩ = _ := cell_of HX4.out 9
  have c10 : w4.cell? ⟨P, 10, none⟩ = _ := cell_of HX4.out 10
  go_upto_region 24 with fail
  have HQ9 := keepH c9
  have HQ10 := keepH c10
  clear c0 c1 c2 c3 c4 c5 c6 c7 c8 c9 c10
  refine wp_region_held_drew (S := fun w => Below w4.heap.size w4 w) (by kernel_rfl) (below_drewN (Below.refl _ _) 1) ?_
  intro hHeld
  refine wpAnyH_take (i := 0) (v := ?_) rfl (by kernel_rfl) (by kernel_rfl) (by kernel_rfl) (fun _ _ _ h => h) (Or.inl ⟨by rfl, ?_⟩) hHeld ?_
  rotate_left
  · intro w hSw
    (try dsimp only at hSw)
    go_simp
    try with_reducible rfl
  (try simp only [Act.put]); (try simp only [List.setIfInBounds_toArray]); (try simp only [List.getElem_toArray]); (repeat (first | simp only [List.getElem_cons_succ] | simp only [List.getElem_cons_zero])); (repeat (first | simp only [List.set_cons_succ] | simp only [List.set_cons_zero]))
  refine wpAnyH_take (i := 1) (v := ?_) rfl (by kernel_rfl) (by kernel_rfl) (by kernel_rfl) (fun _ _ _ h => h) (Or.inl ⟨by rfl, ?_⟩) hHeld ?_
  rotate_left
  · intro w hSw
    (try dsimp only at hSw)
    go_simp
    try with_reducible rfl
  (try simp only [Act.put]); (try simp only [List.setIfInBounds_toArray]); (try simp only [List.getElem_toArray]); (repeat (first | simp only [List.getElem_cons_succ] | simp only [List.getElem_cons_zero])); (repeat (first | simp only [List.set_cons_succ] | simp only [List.set_cons_zero]))
  refine wpAnyH_take (i := 2) (v := ?_) rfl (by kernel_rfl) (by kernel_rfl) (by kernel_rfl) (fun _ _ _ h => h) (Or.inl ⟨by rfl, ?_⟩) hHeld ?_
  rotate_left
  · intro w hSw
    (try dsimp only at hSw)
    have y := cell_below HQ9.out hSw
    go_simp
    try with_reducible rfl
  (try simp only [Act.put]); (try simp only [List.setIfInBounds_toArray]); (try simp only [List.getElem_toArray]); (repeat (first | simp only [List.getElem_cons_succ] | simp only [List.getElem_cons_zero])); (repeat (first | simp only [List.set_cons_succ] | simp only [List.set_cons_zero]))
  refine wpAnyH_take (i := 6) (v := ?_) rfl (by kernel_rfl) (by kernel_rfl) (by kernel_rfl) (fun _ _ _ h => h) (Or.inl ⟨by rfl, ?_⟩) hHeld ?_
  rotate_left
  · intro w hSw
    (try dsimp only at hSw)
    go_simp
    try with_reducible rfl
  (try simp only [Act.put]); (try simp only [List.setIfInBounds_toArray]); (try simp only [List.getElem_toArray]); (repeat (first | simp only [List.getElem_cons_succ] | simp only [List.getElem_cons_zero])); (repeat (first | simp only [List.set_cons_succ] | simp only [List.set_cons_zero]))
  refine wpAnyH_take (i := 7) (v := ?_) rfl (by kernel_rfl) (by kernel_rfl) (by kernel_rfl) (fun _ _ _ h => h) (Or.inl ⟨by rfl, ?_⟩) hHeld ?_
  rotate_left
  · intro w hSw
    (try dsimp only at hSw)
    have y := cell_below HQ10.out hSw
    go_simp
    try with_reducible rfl
  (try simp only [Act.put]); (try simp only [List.setIfInBounds_toArray]); (try simp only [List.getElem_toArray]); (repeat (first | simp only [List.getElem_cons_succ] | simp only [List.getElem_cons_zero])); (repeat (first | simp only [List.set_cons_succ] | simp only [List.set_cons_zero]))
  refine wpAnyH_ready (rs := [3]) (by kernel_rfl) (by simp) ?_
  refine AllReadyH.cons rfl (fun KK hKK => ?_) AllReadyH.nil
  go_simp
  refine (HNlo.out _ (below_chain HB4.out hHeld)).mono ?_
  rintro e v3 ⟨rfl, D3⟩
  have E3 := below_chain hHeld D3
  clear D3
  refine hKK.out _ _ ?_ (fun hHeld => ?_)
  · exact E3
  clear hKK KK
  (try simp only [Act.put]); (try simp only [List.setIfInBounds_toArray]); (try simp only [List.getElem_toArray]); (repeat (first | simp only [List.getElem_cons_succ] | simp only [List.getElem_cons_zero])); (repeat (first | simp only [List.set_cons_succ] | simp only [List.set_cons_zero]))
  refine wpAnyH_take (i := 4) (v := ?_) rfl (by kernel_rfl) (by kernel_rfl) (by kernel_rfl) (fun _ _ _ h => h) (Or.inl ⟨by rfl, ?_⟩) hHeld ?_
  rotate_left
  · intro w hSw
    (try dsimp only at hSw)
    go_simp
    try with_reducible rfl
  (try simp only [Act.put]); (try simp only [List.setIfInBounds_toArray]); (try simp only [List.getElem_toArray]); (repeat (first | simp only [List.getElem_cons_succ] | simp only [List.getElem_cons_zero])); (repeat (first | simp only [List.set_cons_succ] | simp only [List.set_cons_zero]))
  refine wpAnyH_take (i := 5) (v := ?_) rfl (by kernel_rfl) (by kernel_rfl) (by kernel_rfl) (fun _ _ _ h => h) (Or.inl ⟨by rfl, ?_⟩) hHeld ?_
  rotate_left
  · intro w hSw
    (try dsimp only at hSw)
    go_simp
    try with_reducible rfl
  (try simp only [Act.put]); (try simp only [List.setIfInBounds_toArray]); (try simp only [List.getElem_toArray]); (repeat (first | simp only [List.getElem_cons_succ] | simp only [List.getElem_cons_zero])); (repeat (first | simp only [List.set_cons_succ] | simp only [List.set_cons_zero]))
  refine wpAnyH_ready (rs := [8]) (by kernel_rfl) (by simp) ?_
  refine AllReadyH.cons rfl (fun KK hKK => ?_) AllReadyH.nil
  go_simp
  refine (HNhi.out _ (below_chain HB4.out hHeld)).mono ?_
  rintro e v4 ⟨rfl, D4⟩
  have E4 := below_chain hHeld D4
  have HEE := keepH E4
  clear D4
  refine hKK.out _ _ ?_ (fun hHeld => ?_)
  · exact E4
  clear hKK KK
  (try simp only [Act.put]); (try simp only [List.setIfInBounds_toArray]); (try simp only [List.getElem_toArray]); (repeat (first | simp only [List.getElem_cons_succ] | simp only [List.getElem_cons_zero])); (repeat (first | simp only [List.set_cons_succ] | simp only [List.set_cons_zero]))
  refine wpAnyH_take (i := 9) (v := ?_) rfl (by kernel_rfl) (by kernel_rfl) (by kernel_rfl) (fun _ _ _ h => h) (Or.inl ⟨by rfl, ?_⟩) hHeld ?_
  rotate_left
  · intro w hSw
    (try dsimp only at hSw)
    go_simp
    try with_reducible rfl
  (try simp only [Act.put]); (try simp only [List.setIfInBounds_toArray]); (try simp only [List.getElem_toArray]); (repeat (first | simp only [List.getElem_cons_succ] | simp only [List.getElem_cons_zero])); (repeat (first | simp only [List.set_cons_succ] | simp only [List.set_cons_zero]))
  refine wpAnyH_take (i := 10) (v := ?_) rfl (by kernel_rfl) (by kernel_rfl) (by kernel_rfl) (fun _ _ _ h => h) (Or.inl ⟨by rfl, ?_⟩) hHeld ?_
  rotate_left
  · intro w hSw
    (try dsimp only at hSw)
    go_simp
    try with_reducible rfl
  (try simp only [Act.put]); (try simp only [List.setIfInBounds_toArray]); (try simp only [List.getElem_toArray]); (repeat (first | simp only [List.getElem_cons_succ] | simp only [List.getElem_cons_zero])); (repeat (first | simp only [List.set_cons_succ] | simp only [List.set_cons_zero]))
  refine wpAnyH_take (i := 11) (v := ?_) rfl (by kernel_rfl) (by kernel_rfl) (by kernel_rfl) (fun _ _ _ h => h) (Or.inl ⟨by rfl, ?_⟩) hHeld ?_
  rotate_left
  · intro w hSw
    (try dsimp only at hSw)
    go_simp
    try with_reducible rfl
  (try simp only [Act.put]); (try simp only [List.setIfInBounds_toArray]); (try simp only [List.getElem_toArray]); (repeat (first | simp only [List.getElem_cons_succ] | simp only [List.getElem_cons_zero])); (repeat (first | simp only [List.set_cons_succ] | simp only [List.set_cons_zero]))
  refine wpAnyH_done (by kernel_rfl) ?_ _
  go_simp
  have HB6 := keepH (below_chain HB4.out HEE.out)
  go_wp2_with fail
  go_ret2
  exact ⟨by simp, HB6.out⟩
set_option maxRecDepth 100000 in
set_option maxHeartbeats 8000000 in
theorem dPrint_9t (key val old hnd : Nat) (rt ri : Int) (kp : Option Addr) (kc lo hi : Nat) (keys : List Nat) (h1 : isU key) (h2 : isU val) (h3 : isU old) (h4 : isU hnd) (h5 : isU lo) (h6 : isU hi) (ha : isI rt) (hb : isI ri) (hf : faultN 9 key val old hnd true rt ri kp keys.length kc lo hi = 0) (W : World) (T : Tb W) :
    Calls Tryz.prog 8 #[.agg (opR 9 key val old hnd true rt ri (.slice kp keys.length kc) lo hi)] W fun e W' => e = .returned (.tuple #[.string (mkS (opT 9 key val old hnd true rt ri keys lo hi)), .int .i64 0]) ∧ Below W.heap.size W W' := by
  have hop := fun w => dOp_any 9 key val old hnd true rt ri kp keys.length kc lo hi (by omega) h1 h2 h3 h4 h5 h6 ha hb w
  rw [hf] at hop
  have HOP := keepH hop
  have HWO := keepH (fun w => dWord_any 9 (by omega) w)
  have HHD := keepH (fun w => dHandled_any 9 w)
  rw [show hndK 9 = true from rfl] at HHD
  have l0 := opW_len 9
  have llo := dec_len h5
  obtain ⟨slo, hslo⟩ : ∃ s, s = mkS (Lib.decDigits lo) := ⟨_, rfl⟩
  have hnlo := fun w (hbe : Below W.heap.size W w) => dNum_any lo h5 w (T.on hbe)
  rw [← hslo] at hnlo
  have HNlo := keepH hnlo
  clear hnlo
  have lhi := dec_len h6
  obtain ⟨shi, hshi⟩ : ∃ s, s = mkS (Lib.decDigits hi) := ⟨_, rfl⟩
  have hnhi := fun w (hbe : Below W.heap.size W w) => dNum_any hi h6 w (T.on hbe)
  rw [← hshi] at hnhi
  have HNhi := keepH hnhi
  clear hnhi
  have lrt := itoa_len ha
  obtain ⟨srt, hsrt⟩ : ∃ s, s = mkS (Lib.itoa rt) := ⟨_, rfl⟩
  have hnrt := fun w (hbe : Below W.heap.size W w) => itoa_any rt ha.1 ha.2 w (T.on hbe)
  rw [← hsrt] at hnrt
  have HNrt := keepH hnrt
  clear hnrt
  have lri := itoa_len hb
  obtain ⟨sri, hsri⟩ : ∃ s, s = mkS (Lib.itoa ri) := ⟨_, rfl⟩
  have hnri := fun w (hbe : Below W.heap.size W w) => itoa_any ri hb.1 hb.2 w (T.on hbe)
  rw [← hsri] at hnri
  have HNri := keepH hnri
  clear hnri
  obtain ⟨s0, hs0⟩ : ∃ s, s = mkS (opW 9) := ⟨_, rfl⟩
  rw [← hs0] at HWO
  have k1 := add_str [32, 64] (Lib.itoa rt) (by (try simp only [List.length_append]); (try simp only [List.length_cons]); (try simp only [List.length_nil]); omega)
  rw [show mkS [32, 64] = ⟨#[32, 64]⟩ from rfl] at k1
  rw [← hsrt] at k1
  obtain ⟨g1, hg1⟩ : ∃ g, g = mkS ([32, 64] ++ (Lib.itoa rt)) := ⟨_, rfl⟩
  rw [← hg1] at k1
  have k2 := add_str ([32, 64] ++ (Lib.itoa rt)) [46] (by (try simp only [List.length_append]); (try simp only [List.length_cons]); (try simp only [List.length_nil]); omega)
  rw [← hg1] at k2
  rw [show mkS [46] = ⟨#[46]⟩ from rfl] at k2
  obtain ⟨g2, hg2⟩ : ∃ g, g = mkS (([32, 64] ++ (Lib.itoa rt)) ++ [46]) := ⟨_, rfl⟩
  rw [← hg2] at k2
  have k3 := add_str (([32, 64] ++ (Lib.itoa rt)) ++ [46]) (Lib.itoa ri) (by (try simp only [List.length_append]); (try simp only [List.length_cons]); (try simp only [List.length_nil]); omega)
  rw [← hg2] at k3
  rw [← hsri] at k3
  obtain ⟨g3, hg3⟩ : ∃ g, g = mkS ((([32, 64] ++ (Lib.itoa rt)) ++ [46]) ++ (Lib.itoa ri)) := ⟨_, rfl⟩
  rw [← hg3] at k3
  have k4 := add_str (opW 9) ((([32, 64] ++ (Lib.itoa rt)) ++ [46]) ++ (Lib.itoa ri)) (by (try simp only [List.length_append]); (try simp only [List.length_cons]); (try simp only [List.length_nil]); omega)
  rw [← hs0] at k4
  rw [← hg3] at k4
  obtain ⟨g4, hg4⟩ : ∃ g, g = mkS ((opW 9) ++ ((([32, 64] ++ (Lib.itoa rt)) ++ [46]) ++ (Lib.itoa ri))) := ⟨_, rfl⟩
  rw [← hg4] at k4
  have k5 := add_str [32] (Lib.decDigits lo) (by (try simp only [List.length_append]); (try simp only [List.length_cons]); (try simp only [List.length_nil]); omega)
  rw [show mkS [32] = ⟨#[32]⟩ from rfl] at k5
  rw [← hslo] at k5
  obtain ⟨g5, hg5⟩ : ∃ g, g = mkS ([32] ++ (Lib.decDigits lo)) := ⟨_, rfl⟩
  rw [← hg5] at k5
  have k6 := add_str ([32] ++ (Lib.decDigits lo)) [32] (by (try simp only [List.length_append]); (try simp only [List.length_cons]); (try simp only [List.length_nil]); omega)
  rw [← hg5] at k6
  rw [show mkS [32] = ⟨#[32]⟩ from rfl] at k6
  obtain ⟨g6, hg6⟩ : ∃ g, g = mkS (([32] ++ (Lib.decDigits lo)) ++ [32]) := ⟨_, rfl⟩
  rw [← hg6] at k6
  have k7 := add_str (([32] ++ (Lib.decDigits lo)) ++ [32]) (Lib.decDigits hi) (by (try simp only [List.length_append]); (try simp only [List.length_cons]); (try simp only [List.length_nil]); omega)
  rw [← hg6] at k7
  rw [← hshi] at k7
  obtain ⟨g7, hg7⟩ : ∃ g, g = mkS ((([32] ++ (Lib.decDigits lo)) ++ [32]) ++ (Lib.decDigits hi)) := ⟨_, rfl⟩
  rw [← hg7] at k7
  have k8 := add_str ((opW 9) ++ ((([32, 64] ++ (Lib.itoa rt)) ++ [46]) ++ (Lib.itoa ri))) ((([32] ++ (Lib.decDigits lo)) ++ [32]) ++ (Lib.decDigits hi)) (by (try simp only [List.length_append]); (try simp only [List.length_cons]); (try simp only [List.length_nil]); omega)
  rw [← hg4] at k8
  rw [← hg7] at k8
  obtain ⟨g8, hg8⟩ : ∃ g, g = mkS (((opW 9) ++ ((([32, 64] ++ (Lib.itoa rt)) ++ [46]) ++ (Lib.itoa ri))) ++ ((([32] ++ (Lib.decDigits lo)) ++ [32]) ++ (Lib.decDigits hi))) := ⟨_, rfl⟩
  rw [← hg8] at k8
  have hfin : mkS (opT 9 key val old hnd true rt ri keys lo hi) = g8 := by
    rw [hg8]
    first | rfl | (congr 1; unfold opT partsO; rw [show hndK 9 = true from rfl, show kysK 9 = false from rfl, show numK 9 = [9, 10] from rfl]; simp [join_flat, numAt, hText]) | (exact congrArg mkS (by unfold opT partsO; simp [hndK, kysK, numK, Lib.join_one]))
  rw [hfin]
  obtain ⟨w1, hw1⟩ : ∃ w1, w1 = W.alloc (.cells (opR 9 key val old hnd true rt ri (.slice kp keys.length kc) lo hi) 28) := ⟨_, rfl⟩
  obtain ⟨P, hP⟩ : ∃ P, P = W.heap.size := ⟨_, rfl⟩
  have B1 : Below W.heap.size W w1 := by rw [hw1]; exact below_alloc _ _
  have X1 : w1.heap[P]? = some (.cells (opR 9 key val old hnd true rt ri (.slice kp keys.length kc) lo hi) 28 (0, 0)) := by rw [hw1, hP]; exact heap_alloc_new _ _
  have HW1 := keepH hw1
  have HP := keepH hP
  have HB1 := keepH B1
  have HX1 := keepH X1
  obtain ⟨n, hn⟩ : ∃ n, n = keys.length := ⟨_, rfl⟩
  rw [← hn] at HOP HX1 HW1 ⊢
  have HN := keepH hn
  clear hop hw1 hP B1 X1 hf T h1 h2 h3 h4 h5 h6 ha hb hn
  clear hs0 l0 hslo llo hshi lhi hsrt lrt hsri lri hg1 hg2 hg3 hg4 hg5 hg6 hg7 hg8 hfin
  go_enter Tryz.func8, Tryz.ntmps8
  go_upto_region 1 with fail
  rw [← HW1.out, ← HP.out]
  have c0 : w1.cell? ⟨P, 0, none⟩ = _ := cell_of HX1.out 0
  have c1 : w1.cell? ⟨P, 1, none⟩ = _ := cell_of HX1.out 1
  have c2 : w1.cell? ⟨P, 2, none⟩ = _ := cell_of HX1.out 2
  have c3 : w1.cell? ⟨P, 3, none⟩ = _ := cell_of HX1.out 3
  have c4 : w1.cell? ⟨P, 4, none⟩ = _ := cell_of HX1.out 4
  have c5 : w1.cell? ⟨P, 5, none⟩ = _ := cell_of HX1.out 5
  have c6 : w1.cell? ⟨P, 6, none⟩ = _ := cell_of HX1.out 6
  have c7 : w1.cell? ⟨P, 7, none⟩ = _ := cell_of HX1.out 7
  have c8 : w1.cell? ⟨P, 8, none⟩ = _ := cell_of HX1.out 8
  have c9 : w1.cell? ⟨P, 9, none⟩ = _ := cell_of HX1.out 9
  have c10 : w1.cell? ⟨P, 10, none⟩ = _ := cell_of HX1.out 10
  go_wp2_with fail
  refine (HOP.out w1).mono ?_
  rintro e w2 ⟨rfl, B2⟩
  have HX2 := keepH (heap_below HX1.out B2)
  have HB2 := keepH (below_chain HB1.out B2)
  clear B2 c0 c1 c2 c3 c4 c5 c6 c7 c8 c9 c10
  have c0 : w2.cell? ⟨P, 0, none⟩ = _ := cell_of HX2.out 0
  have c1 : w2.cell? ⟨P, 1, none⟩ = _ := cell_of HX2.out 1
  have c2 : w2.cell? ⟨P, 2, none⟩ = _ := cell_of HX2.out 2
  have c3 : w2.cell? ⟨P, 3, none⟩ = _ := cell_of HX2.out 3
  have c4 : w2.cell? ⟨P, 4, none⟩ = _ := cell_of HX2.out 4
  have c5 : w2.cell? ⟨P, 5, none⟩ = _ := cell_of HX2.out 5
  have c6 : w2.cell? ⟨P, 6, none⟩ = _ := cell_of HX2.out 6
  have c7 : w2.cell? ⟨P, 7, none⟩ = _ := cell_of HX2.out 7
  have c8 : w2.cell? ⟨P, 8, none⟩ = _ := cell_of HX2.out 8
  have c9 : w2.cell? ⟨P, 9, none⟩ = _ := cell_of HX2.out 9
  have c10 : w2.cell? ⟨P, 10, none⟩ = _ := cell_of HX2.out 10
  go_wp2_with fail
  refine (HWO.out w2).mono ?_
  rintro e w3 ⟨rfl, B3⟩
  have HX3 := keepH (heap_below HX2.out B3)
  have HB3 := keepH (below_chain HB2.out B3)
  clear B3 c0 c1 c2 c3 c4 c5 c6 c7 c8 c9 c10
  have c0 : w3.cell? ⟨P, 0, none⟩ = _ := cell_of HX3.out 0
  have c1 : w3.cell? ⟨P, 1, none⟩ = _ := cell_of HX3.out 1
  have c2 : w3.cell? ⟨P, 2, none⟩ = _ := cell_of HX3.out 2
  have c3 : w3.cell? ⟨P, 3, none⟩ = _ := cell_of HX3.out 3
  have c4 : w3.cell? ⟨P, 4, none⟩ = _ := cell_of HX3.out 4
  have c5 : w3.cell? ⟨P, 5, none⟩ = _ := cell_of HX3.out 5
  have c6 : w3.cell? ⟨P, 6, none⟩ = _ := cell_of HX3.out 6
  have c7 : w3.cell? ⟨P, 7, none⟩ = _ := cell_of HX3.out 7
  have c8 : w3.cell? ⟨P, 8, none⟩ = _ := cell_of HX3.out 8
  have c9 : w3.cell? ⟨P, 9, none⟩ = _ := cell_of HX3.out 9
  have c10 : w3.cell? ⟨P, 10, none⟩ = _ := cell_of HX3.out 10
  go_wp2_with fail
  refine (HHD.out w3).mono ?_
  rintro e wx ⟨rfl, hwx⟩
  rw [hwx]
  clear hwx
  go_upto_region 7 with fail
  have HC6 := keepH c6
  have HC7 := keepH c7
  clear c0 c1 c2 c3 c4 c5 c6 c7 c8 c9 c10
  refine wp_region_held_drew (S := fun w => Below w3.heap.size w3 w) (by kernel_rfl) (below_drewN (Below.refl _ _) 1) ?_
  intro hHeld
  refine wpAnyH_take (i := 0) (v := ?_) rfl (by kernel_rfl) (by kernel_rfl) (by kernel_rfl) (fun _ _ _ h => h) (Or.inl ⟨by rfl, ?_⟩) hHeld ?_
  rotate_left
  · intro w hSw
    (try dsimp only at hSw)
    go_simp
    try with_reducible rfl
  (try simp only [Act.put]); (try simp only [List.setIfInBounds_toArray]); (try simp only [List.getElem_toArray]); (repeat (first | simp only [List.getElem_cons_succ] | simp only [List.getElem_cons_zero])); (repeat (first | simp only [List.set_cons_succ] | simp only [List.set_cons_zero]))
  refine wpAnyH_take (i := 1) (v := ?_) rfl (by kernel_rfl) (by kernel_rfl) (by kernel_rfl) (fun _ _ _ h => h) (Or.inl ⟨by rfl, ?_⟩) hHeld ?_
  rotate_left
  · intro w hSw
    (try dsimp only at hSw)
    go_simp
    try with_reducible rfl
  (try simp only [Act.put]); (try simp only [List.setIfInBounds_toArray]); (try simp only [List.getElem_toArray]); (repeat (first | simp only [List.getElem_cons_succ] | simp only [List.getElem_cons_zero])); (repeat (first | simp only [List.set_cons_succ] | simp only [List.set_cons_zero]))
  refine wpAnyH_take (i := 2) (v := ?_) rfl (by kernel_rfl) (by kernel_rfl) (by kernel_rfl) (fun _ _ _ h => h) (Or.inl ⟨by rfl, ?_⟩) hHeld ?_
  rotate_left
  · intro w hSw
    (try dsimp only at hSw)
    go_simp
    try with_reducible rfl
  (try simp only [Act.put]); (try simp only [List.setIfInBounds_toArray]); (try simp only [List.getElem_toArray]); (repeat (first | simp only [List.getElem_cons_succ] | simp only [List.getElem_cons_zero])); (repeat (first | simp only [List.set_cons_succ] | simp only [List.set_cons_zero]))
  refine wpAnyH_take (i := 3) (v := ?_) rfl (by kernel_rfl) (by kernel_rfl) (by kernel_rfl) (fun _ _ _ h => h) (Or.inl ⟨by rfl, ?_⟩) hHeld ?_
  rotate_left
  · intro w hSw
    (try dsimp only at hSw)
    have y6 := cell_below HC6.out hSw
    go_simp
    try with_reducible rfl
  (try simp only [Act.put]); (try simp only [List.setIfInBounds_toArray]); (try simp only [List.getElem_toArray]); (repeat (first | simp only [List.getElem_cons_succ] | simp only [List.getElem_cons_zero])); (repeat (first | simp only [List.set_cons_succ] | simp only [List.set_cons_zero]))
  refine wpAnyH_take (i := 7) (v := ?_) rfl (by kernel_rfl) (by kernel_rfl) (by kernel_rfl) (fun _ _ _ h => h) (Or.inl ⟨by rfl, ?_⟩) hHeld ?_
  rotate_left
  · intro w hSw
    (try dsimp only at hSw)
    go_simp
    try with_reducible rfl
  (try simp only [Act.put]); (try simp only [List.setIfInBounds_toArray]); (try simp only [List.getElem_toArray]); (repeat (first | simp only [List.getElem_cons_succ] | simp only [List.getElem_cons_zero])); (repeat (first | simp only [List.set_cons_succ] | simp only [List.set_cons_zero]))
  refine wpAnyH_take (i := 8) (v := ?_) rfl (by kernel_rfl) (by kernel_rfl) (by kernel_rfl) (fun _ _ _ h => h) (Or.inl ⟨by rfl, ?_⟩) hHeld ?_
  rotate_left
  · intro w hSw
    (try dsimp only at hSw)
    go_simp
    try with_reducible rfl
  (try simp only [Act.put]); (try simp only [List.setIfInBounds_toArray]); (try simp only [List.getElem_toArray]); (repeat (first | simp only [List.getElem_cons_succ] | simp only [List.getElem_cons_zero])); (repeat (first | simp only [List.set_cons_succ] | simp only [List.set_cons_zero]))
  refine wpAnyH_take (i := 9) (v := ?_) rfl (by kernel_rfl) (by kernel_rfl) (by kernel_rfl) (fun _ _ _ h => h) (Or.inl ⟨by rfl, ?_⟩) hHeld ?_
  rotate_left
  · intro w hSw
    (try dsimp only at hSw)
    have y7 := cell_below HC7.out hSw
    go_simp
    try with_reducible rfl
  (try simp only [Act.put]); (try simp only [List.setIfInBounds_toArray]); (try simp only [List.getElem_toArray]); (repeat (first | simp only [List.getElem_cons_succ] | simp only [List.getElem_cons_zero])); (repeat (first | simp only [List.set_cons_succ] | simp only [List.set_cons_zero]))
  refine wpAnyH_ready (rs := [4]) (by kernel_rfl) (by simp) ?_
  refine AllReadyH.cons rfl (fun KK hKK => ?_) AllReadyH.nil
  go_simp
  refine (HNrt.out _ (below_chain HB3.out hHeld)).mono ?_
  rintro e v1 ⟨rfl, D1⟩
  have E1 := below_chain hHeld D1
  clear D1
  refine hKK.out _ _ ?_ (fun hHeld => ?_)
  · exact E1
  clear hKK KK
  (try simp only [Act.put]); (try simp only [List.setIfInBounds_toArray]); (try simp only [List.getElem_toArray]); (repeat (first | simp only [List.getElem_cons_succ] | simp only [List.getElem_cons_zero])); (repeat (first | simp only [List.set_cons_succ] | simp only [List.set_cons_zero]))
  refine wpAnyH_take (i := 5) (v := ?_) rfl (by kernel_rfl) (by kernel_rfl) (by kernel_rfl) (fun _ _ _ h => h) (Or.inl ⟨by rfl, ?_⟩) hHeld ?_
  rotate_left
  · intro w hSw
    (try dsimp only at hSw)
    go_simp
    try with_reducible rfl
  (try simp only [Act.put]); (try simp only [List.setIfInBounds_toArray]); (try simp only [List.getElem_toArray]); (repeat (first | simp only [List.getElem_cons_succ] | simp only [List.getElem_cons_zero])); (repeat (first | simp only [List.set_cons_succ] | simp only [List.set_cons_zero]))
  refine wpAnyH_take (i := 6) (v := ?_) rfl (by kernel_rfl) (by kernel_rfl) (by kernel_rfl) (fun _ _ _ h => h) (Or.inl ⟨by rfl, ?_⟩) hHeld ?_
  rotate_left
  · intro w hSw
    (try dsimp only at hSw)
    go_simp
    try with_reducible rfl
  (try simp only [Act.put]); (try simp only [List.setIfInBounds_toArray]); (try simp only [List.getElem_toArray]); (repeat (first | simp only [List.getElem_cons_succ] | simp only [List.getElem_cons_zero])); (repeat (first | simp only [List.set_cons_succ] | simp only [List.set_cons_zero]))
  refine wpAnyH_ready (rs := [10]) (by kernel_rfl) (by simp) ?_
  refine AllReadyH.cons rfl (fun KK hKK => ?_) AllReadyH.nil
  go_simp
  refine (HNri.out _ (below_chain HB3.out hHeld)).mono ?_
  rintro e v2 ⟨rfl, D2⟩
  have E2 := below_chain hHeld D2
  have HEE := keepH E2
  clear D2
  refine hKK.out _ _ ?_ (fun hHeld => ?_)
  · exact E2
  clear hKK KK
  (try simp only [Act.put]); (try simp only [List.setIfInBounds_toArray]); (try simp only [List.getElem_toArray]); (repeat (first | simp only [List.getElem_cons_succ] | simp only [List.getElem_cons_zero])); (repeat (first | simp only [List.set_cons_succ] | simp only [List.set_cons_zero]))
  refine wpAnyH_take (i := 11) (v := ?_) rfl (by kernel_rfl) (by kernel_rfl) (by kernel_rfl) (fun _ _ _ h => h) (Or.inl ⟨by rfl, ?_⟩) hHeld ?_
  rotate_left
  · intro w hSw
    (try dsimp only at hSw)
    go_simp
    try with_reducible rfl
  (try simp only [Act.put]); (try simp only [List.setIfInBounds_toArray]); (try simp only [List.getElem_toArray]); (repeat (first | simp only [List.getElem_cons_succ] | simp only [List.getElem_cons_zero])); (repeat (first | simp only [List.set_cons_succ] | simp only [List.set_cons_zero]))
  refine wpAnyH_take (i := 12) (v := ?_) rfl (by kernel_rfl) (by kernel_rfl) (by kernel_rfl) (fun _ _ _ h => h) (Or.inl ⟨by rfl, ?_⟩) hHeld ?_
  rotate_left
  · intro w hSw
    (try dsimp only at hSw)
    go_simp
    try with_reducible rfl
  (try simp only [Act.put]); (try simp only [List.setIfInBounds_toArray]); (try simp only [List.getElem_toArray]); (repeat (first | simp only [List.getElem_cons_succ] | simp only [List.getElem_cons_zero])); (repeat (first | simp only [List.set_cons_succ] | simp only [List.set_cons_zero]))
  refine wpAnyH_take (i := 13) (v := ?_) rfl (by kernel_rfl) (by kernel_rfl) (by kernel_rfl) (fun _ _ _ h => h) (Or.inl ⟨by rfl, ?_⟩) hHeld ?_
  rotate_left
  · intro w hSw
    (try dsimp only at hSw)
    go_simp
    try with_reducible rfl
  (try simp only [Act.put]); (try simp only [List.setIfInBounds_toArray]); (try simp only [List.getElem_toArray]); (repeat (first | simp only [List.getElem_cons_succ] | simp only [List.getElem_cons_zero])); (repeat (first | simp only [List.set_cons_succ] | simp only [List.set_cons_zero]))
  refine wpAnyH_done (by kernel_rfl) ?_ _
  go_simp
  have HX4 := keepH (heap_below HX3.out HEE.out)
  have HB4 := keepH (below_chain HB3.out HEE.out)
  clear HEE
  have c0 : v2.cell? ⟨P, 0, none⟩ = _ := cell_of HX4.out 0
  have c1 : v2.cell? ⟨P, 1, none⟩ = _ := cell_of HX4.out 1
  have c2 : v2.cell? ⟨P, 2, none⟩ = _ := cell_of HX4.out 2
  have c3 : v2.cell? ⟨P, 3, none⟩ = _ := cell_of HX4.out 3
  have c4 : v2.cell? ⟨P, 4, none⟩ = _ := cell_of HX4.out 4
  have c5 : v2.cell? ⟨P, 5, none⟩ = _ := cell_of HX4.out 5
  have c6 : v2.cell? ⟨P, 6, none⟩ = _ := cell_of HX4.out 6
  have c7 : v2.cell? ⟨P, 7, none⟩ = _ := cell_of HX4.out 7
  have c8 : v2.cell? ⟨P, 8, none⟩ = _ := cell_of HX4.out 8
  have c9 : v2.cell? ⟨P, 9, none⟩ = _ := cell_of HX4.out 9
  have c10 : v2.cell? ⟨P, 10, none⟩ = _ := cell_of HX4.out 10
  go_upto_region 24 with fail
  have HQ9 := keepH c9
  have HQ10 := keepH c10
  clear c0 c1 c2 c3 c4 c5 c6 c7 c8 c9 c10
  refine wp_region_held_drew (S := fun w => Below v2.heap.size v2 w) (by kernel_rfl) (below_drewN (Below.refl _ _) 1) ?_
  intro hHeld
  refine wpAnyH_take (i := 0) (v := ?_) rfl (by kernel_rfl) (by kernel_rfl) (by kernel_rfl) (fun _ _ _ h => h) (Or.inl ⟨by rfl, ?_⟩) hHeld ?_
  rotate_left
  · intro w hSw
    (try dsimp only at hSw)
    go_simp
    try with_reducible rfl
  (try simp only [Act.put]); (try simp only [List.setIfInBounds_toArray]); (try simp only [List.getElem_toArray]); (repeat (first | simp only [List.getElem_cons_succ] | simp only [List.getElem_cons_zero])); (repeat (first | simp only [List.set_cons_succ] | simp only [List.set_cons_zero]))
  refine wpAnyH_take (i := 1) (v := ?_) rfl (by kernel_rfl) (by kernel_rfl) (by kernel_rfl) (fun _ _ _ h => h) (Or.inl ⟨by rfl, ?_⟩) hHeld ?_
  rotate_left
  · intro w hSw
    (try dsimp only at hSw)
    go_simp
    try with_reducible rfl
  (try simp only [Act.put]); (try simp only [List.setIfInBounds_toArray]); (try simp only [List.getElem_toArray]); (repeat (first | simp only [List.getElem_cons_succ] | simp only [List.getElem_cons_zero])); (repeat (first | simp only [List.set_cons_succ] | simp only [List.set_cons_zero]))
  refine wpAnyH_take (i := 2) (v := ?_) rfl (by kernel_rfl) (by kernel_rfl) (by kernel_rfl) (fun _ _ _ h => h) (Or.inl ⟨by rfl, ?_⟩) hHeld ?_
  rotate_left
  · intro w hSw
    (try dsimp only at hSw)
    have y := cell_below HQ9.out hSw
    go_simp
    try with_reducible rfl
  (try simp only [Act.put]); (try simp only [List.setIfInBounds_toArray]); (try simp only [List.getElem_toArray]); (repeat (first | simp only [List.getElem_cons_succ] | simp only [List.getElem_cons_zero])); (repeat (first | simp only [List.set_cons_succ] | simp only [List.set_cons_zero]))
  refine wpAnyH_take (i := 6) (v := ?_) rfl (by kernel_rfl) (by kernel_rfl) (by kernel_rfl) (fun _ _ _ h => h) (Or.inl ⟨by rfl, ?_⟩) hHeld ?_
  rotate_left
  · intro w hSw
    (try dsimp only at hSw)
    go_simp
    try with_reducible rfl
  (try simp only [Act.put]); (try simp only [List.setIfInBounds_toArray]); (try simp only [List.getElem_toArray]); (repeat (first | simp only [List.getElem_cons_succ] | simp only [List.getElem_cons_zero])); (repeat (first | simp only [List.set_cons_succ] | simp only [List.set_cons_zero]))
  refine wpAnyH_take (i := 7) (v := ?_) rfl (by kernel_rfl) (by kernel_rfl) (by kernel_rfl) (fun _ _ _ h => h) (Or.inl ⟨by rfl, ?_⟩) hHeld ?_
  rotate_left
  · intro w hSw
    (try dsimp only at hSw)
    have y := cell_below HQ10.out hSw
    go_simp
    try with_reducible rfl
  (try simp only [Act.put]); (try simp only [List.setIfInBounds_toArray]); (try simp only [List.getElem_toArray]); (repeat (first | simp only [List.getElem_cons_succ] | simp only [List.getElem_cons_zero])); (repeat (first | simp only [List.set_cons_succ] | simp only [List.set_cons_zero]))
  refine wpAnyH_ready (rs := [3]) (by kernel_rfl) (by simp) ?_
  refine AllReadyH.cons rfl (fun KK hKK => ?_) AllReadyH.nil
  go_simp
  refine (HNlo.out _ (below_chain HB4.out hHeld)).mono ?_
  rintro e v3 ⟨rfl, D3⟩
  have E3 := below_chain hHeld D3
  clear D3
  refine hKK.out _ _ ?_ (fun hHeld => ?_)
  · exact E3
  clear hKK KK
  (try simp only [Act.put]); (try simp only [List.setIfInBounds_toArray]); (try simp only [List.getElem_toArray]); (repeat (first | simp only [List.getElem_cons_succ] | simp only [List.getElem_cons_zero])); (repeat (first | simp only [List.set_cons_succ] | simp only [List.set_cons_zero]))
  refine wpAnyH_take (i := 4) (v := ?_) rfl (by kernel_rfl) (by kernel_rfl) (by kernel_rfl) (fun _ _ _ h => h) (Or.inl ⟨by rfl, ?_⟩) hHeld ?_
  rotate_left
  · intro w hSw
    (try dsimp only at hSw)
    go_simp
    try with_reducible rfl
  (try simp only [Act.put]); (try simp only [List.setIfInBounds_toArray]); (try simp only [List.getElem_toArray]); (repeat (first | simp only [List.getElem_cons_succ] | simp only [List.getElem_cons_zero])); (repeat (first | simp only [List.set_cons_succ] | simp only [List.set_cons_zero]))
  refine wpAnyH_take (i := 5) (v := ?_) rfl (by kernel_rfl) (by kernel_rfl) (by kernel_rfl) (fun _ _ _ h => h) (Or.inl ⟨by rfl, ?_⟩) hHeld ?_
  rotate_left
  · intro w hSw
    (try dsimp only at hSw)
    go_simp
    try with_reducible rfl
  (try simp only [Act.put]); (try simp only [List.setIfInBounds_toArray]); (try simp only [List.getElem_toArray]); (repeat (first | simp only [List.getElem_cons_succ] | simp only [List.getElem_cons_zero])); (repeat (first | simp only [List.set_cons_succ] | simp only [List.set_cons_zero]))
  refine wpAnyH_ready (rs := [8]) (by kernel_rfl) (by simp) ?_
  refine AllReadyH.cons rfl (fun KK hKK => ?_) AllReadyH.nil
  go_simp
  refine (HNhi.out _ (below_chain HB4.out hHeld)).mono ?_
  rintro e v4 ⟨rfl, D4⟩
  have E4 := below_chain hHeld D4
  have HEE := keepH E4
  clear D4
  refine hKK.out _ _ ?_ (fun hHeld => ?_)
  · exact E4
  clear hKK KK
  (try simp only [Act.put]); (try simp only [List.setIfInBounds_toArray]); (try simp only [List.getElem_toArray]); (repeat (first | simp only [List.getElem_cons_succ] | simp only [List.getElem_cons_zero])); (repeat (first | simp only [List.set_cons_succ] | simp only [List.set_cons_zero]))
  refine wpAnyH_take (i := 9) (v := ?_) rfl (by kernel_rfl) (by kernel_rfl) (by kernel_rfl) (fun _ _ _ h => h) (Or.inl ⟨by rfl, ?_⟩) hHeld ?_
  rotate_left
  · intro w hSw
    (try dsimp only at hSw)
    go_simp
    try with_reducible rfl
  (try simp only [Act.put]); (try simp only [List.setIfInBounds_toArray]); (try simp only [List.getElem_toArray]); (repeat (first | simp only [List.getElem_cons_succ] | simp only [List.getElem_cons_zero])); (repeat (first | simp only [List.set_cons_succ] | simp only [List.set_cons_zero]))
  refine wpAnyH_take (i := 10) (v := ?_) rfl (by kernel_rfl) (by kernel_rfl) (by kernel_rfl) (fun _ _ _ h => h) (Or.inl ⟨by rfl, ?_⟩) hHeld ?_
  rotate_left
  · intro w hSw
    (try dsimp only at hSw)
    go_simp
    try with_reducible rfl
  (try simp only [Act.put]); (try simp only [List.setIfInBounds_toArray]); (try simp only [List.getElem_toArray]); (repeat (first | simp only [List.getElem_cons_succ] | simp only [List.getElem_cons_zero])); (repeat (first | simp only [List.set_cons_succ] | simp only [List.set_cons_zero]))
  refine wpAnyH_take (i := 11) (v := ?_) rfl (by kernel_rfl) (by kernel_rfl) (by kernel_rfl) (fun _ _ _ h => h) (Or.inl ⟨by rfl, ?_⟩) hHeld ?_
  rotate_left
  · intro w hSw
    (try dsimp only at hSw)
    go_simp
    try with_reducible rfl
  (try simp only [Act.put]); (try simp only [List.setIfInBounds_toArray]); (try simp only [List.getElem_toArray]); (repeat (first | simp only [List.getElem_cons_succ] | simp only [List.getElem_cons_zero])); (repeat (first | simp only [List.set_cons_succ] | simp only [List.set_cons_zero]))
  refine wpAnyH_done (by kernel_rfl) ?_ _
  go_simp
  have HB6 := keepH (below_chain HB4.out HEE.out)
  go_wp2_with fail
  go_ret2
  exact ⟨by simp, HB6.out⟩
set_option maxRecDepth 100000 in
set_option maxHeartbeats 8000000 in
theorem dPrint_9f (key val old hnd : Nat) (rt ri : Int) (kp : Option Addr) (kc lo hi : Nat) (keys : List Nat) (h1 : isU key) (h2 : isU val) (h3 : isU old) (h4 : isU hnd) (h5 : isU lo) (h6 : isU hi) (ha : isI rt) (hb : isI ri) (hf : faultN 9 key val old hnd false rt ri kp keys.length kc lo hi = 0) (W : World) (T : Tb W) :
    Calls Tryz.prog 8 #[.agg (opR 9 key val old hnd false rt ri (.slice kp keys.length kc) lo hi)] W fun e W' => e = .returned (.tuple #[.string (mkS (opT 9 key val old hnd false rt ri keys lo hi)), .int .i64 0]) ∧ Below W.heap.size W W' := by
  have hop := fun w => dOp_any 9 key val old hnd false rt ri kp keys.length kc lo hi (by omega) h1 h2 h3 h4 h5 h6 ha hb w
  rw [hf] at hop
  have HOP := keepH hop
  have HWO := keepH (fun w => dWord_any 9 (by omega) w)
  have HHD := keepH (fun w => dHandled_any 9 w)
  rw [show hndK 9 = true from rfl] at HHD
  have l0 := opW_len 9
  have llo := dec_len h5
  obtain ⟨slo, hslo⟩ : ∃ s, s = mkS (Lib.decDigits lo) := ⟨_, rfl⟩
  have hnlo := fun w (hbe : Below W.heap.size W w) => dNum_any lo h5 w (T.on hbe)
  rw [← hslo] at hnlo
  have HNlo := keepH hnlo
  clear hnlo
  have lhi := dec_len h6
  obtain ⟨shi, hshi⟩ : ∃ s, s = mkS (Lib.decDigits hi) := ⟨_, rfl⟩
  have hnhi := fun w (hbe : Below W.heap.size W w) => dNum_any hi h6 w (T.on hbe)
  rw [← hshi] at hnhi
  have HNhi := keepH hnhi
  clear hnhi
  have lhnd := dec_len h4
  obtain ⟨shnd, hshnd⟩ : ∃ s, s = mkS (Lib.decDigits hnd) := ⟨_, rfl⟩
  have hnhnd := fun w (hbe : Below W.heap.size W w) => dNum_any hnd h4 w (T.on hbe)
  rw [← hshnd] at hnhnd
  have HNhnd := keepH hnhnd
  clear hnhnd
  obtain ⟨s0, hs0⟩ : ∃ s, s = mkS (opW 9) := ⟨_, rfl⟩
  rw [← hs0] at HWO
  have k1 := add_str [32] (Lib.decDigits hnd) (by (try simp only [List.length_append]); (try simp only [List.length_cons]); (try simp only [List.length_nil]); omega)
  rw [show mkS [32] = ⟨#[32]⟩ from rfl] at k1
  rw [← hshnd] at k1
  obtain ⟨g1, hg1⟩ : ∃ g, g = mkS ([32] ++ (Lib.decDigits hnd)) := ⟨_, rfl⟩
  rw [← hg1] at k1
  have k2 := add_str (opW 9) ([32] ++ (Lib.decDigits hnd)) (by (try simp only [List.length_append]); (try simp only [List.length_cons]); (try simp only [List.length_nil]); omega)
  rw [← hs0] at k2
  rw [← hg1] at k2
  obtain ⟨g2, hg2⟩ : ∃ g, g = mkS ((opW 9) ++ ([32] ++ (Lib.decDigits hnd))) := ⟨_, rfl⟩
  rw [← hg2] at k2
  have k3 := add_str [32] (Lib.decDigits lo) (by (try simp only [List.length_append]); (try simp only [List.length_cons]); (try simp only [List.length_nil]); omega)
  rw [show mkS [32] = ⟨#[32]⟩ from rfl] at k3
  rw [← hslo] at k3
  obtain ⟨g3, hg3⟩ : ∃ g, g = mkS ([32] ++ (Lib.decDigits lo)) := ⟨_, rfl⟩
  rw [← hg3] at k3
  have k4 := add_str ([32] ++ (Lib.decDigits lo)) [32] (by (try simp only [List.length_append]); (try simp only [List.length_cons]); (try simp only [List.length_nil]); omega)
  rw [← hg3] at k4
  rw [show mkS [32] = ⟨#[32]⟩ from rfl] at k4
  obtain ⟨g4, hg4⟩ : ∃ g, g = mkS (([32] ++ (Lib.decDigits lo)) ++ [32]) := ⟨_, rfl⟩
  rw [← hg4] at k4
  have k5 := add_str (([32] ++ (Lib.decDigits lo)) ++ [32]) (Lib.decDigits hi) (by (try simp only [List.length_append]); (try simp only [List.length_cons]); (try simp only [List.length_nil]); omega)
  rw [← hg4] at k5
  rw [← hshi] at k5
  obtain ⟨g5, hg5⟩ : ∃ g, g = mkS ((([32] ++ (Lib.decDigits lo)) ++ [32]) ++ (Lib.decDigits hi)) := ⟨_, rfl⟩
  rw [← hg5] at k5
  have k6 := add_str ((opW 9) ++ ([32] ++ (Lib.decDigits hnd))) ((([32] ++ (Lib.decDigits lo)) ++ [32]) ++ (Lib.decDigits hi)) (by (try simp only [List.length_append]); (try simp only [List.length_cons]); (try simp only [List.length_nil]); omega)
  rw [← hg2] at k6
  rw [← hg5] at k6
  obtain ⟨g6, hg6⟩ : ∃ g, g = mkS (((opW 9) ++ ([32] ++ (Lib.decDigits hnd))) ++ ((([32] ++ (Lib.decDigits lo)) ++ [32]) ++ (Lib.decDigits hi))) := ⟨_, rfl⟩
  rw [← hg6] at k6
  have hfin : mkS (opT 9 key val old hnd false rt ri keys lo hi) = g6 := by
    rw [hg6]
    first | rfl | (congr 1; unfold opT partsO; rw [show hndK 9 = true from rfl, show kysK 9 = false from rfl, show numK 9 = [9, 10] from rfl]; simp [join_flat, numAt, hText]) | (exact congrArg mkS (by unfold opT partsO; simp [hndK, kysK, numK, Lib.join_one]))
  rw [hfin]
  obtain ⟨w1, hw1⟩ : ∃ w1, w1 = W.alloc (.cells (opR 9 key val old hnd false rt ri (.slice kp keys.length kc) lo hi) 28) := ⟨_, rfl⟩
  obtain ⟨P, hP⟩ : ∃ P, P = W.heap.size := ⟨_, rfl⟩
  have B1 : Below W.heap.size W w1 := by rw [hw1]; exact below_alloc _ _
  have X1 : w1.heap[P]? = some (.cells (opR 9 key val old hnd false rt ri (.slice kp keys.length kc) lo hi) 28 (0, 0)) := by rw [hw1, hP]; exact heap_alloc_new _ _
  have HW1 := keepH hw1
  have HP := keepH hP
  have HB1 := keepH B1
  have HX1 := keepH X1
  obtain ⟨n, hn⟩ : ∃ n, n = keys.length := ⟨_, rfl⟩
  rw [← hn] at HOP HX1 HW1 ⊢
  have HN := keepH hn
  clear hop hw1 hP B1 X1 hf T h1 h2 h3 h4 h5 h6 ha hb hn
  clear hs0 l0 hslo llo hshi lhi hshnd lhnd hg1 hg2 hg3 hg4 hg5 hg6 hfin
  go_enter Tryz.func8, Tryz.ntmps8
  go_upto_region 1 with fail
  rw [← HW1.out, ← HP.out]
  have c0 : w1.cell? ⟨P, 0, none⟩ = _ := cell_of HX1.out 0
  have c1 : w1.cell? ⟨P, 1, none⟩ = _ := cell_of HX1.out 1
  have c2 : w1.cell? ⟨P, 2, none⟩ = _ := cell_of HX1.out 2
  have c3 : w1.cell? ⟨P, 3, none⟩ = _ := cell_of HX1.out 3
  have c4 : w1.cell? ⟨P, 4, none⟩ = _ := cell_of HX1.out 4
  have c5 : w1.cell? ⟨P, 5, none⟩ = _ := cell_of HX1.out 5
  have c6 : w1.cell? ⟨P, 6, none⟩ = _ := cell_of HX1.out 6
  have c7 : w1.cell? ⟨P, 7, none⟩ = _ := cell_of HX1.out 7
  have c8 : w1.cell? ⟨P, 8, none⟩ = _ := cell_of HX1.out 8
  have c9 : w1.cell? ⟨P, 9, none⟩ = _ := cell_of HX1.out 9
  have c10 : w1.cell? ⟨P, 10, none⟩ = _ := cell_of HX1.out 10
  go_wp2_with fail
  refine (HOP.out w1).mono ?_
  rintro e w2 ⟨rfl, B2⟩
  have HX2 := keepH (heap_below HX1.out B2)
  have HB2 := keepH (below_chain HB1.out B2)
  clear B2 c0 c1 c2 c3 c4 c5 c6 c7 c8 c9 c10
  have c0 : w2.cell? ⟨P, 0, none⟩ = _ := cell_of HX2.out 0
  have c1 : w2.cell? ⟨P, 1, none⟩ = _ := cell_of HX2.out 1
  have c2 : w2.cell? ⟨P, 2, none⟩ = _ := cell_of HX2.out 2
  have c3 : w2.cell? ⟨P, 3, none⟩ = _ := cell_of HX2.out 3
  have c4 : w2.cell? ⟨P, 4, none⟩ = _ := cell_of HX2.out 4
  have c5 : w2.cell? ⟨P, 5, none⟩ = _ := cell_of HX2.out 5
  have c6 : w2.cell? ⟨P, 6, none⟩ = _ := cell_of HX2.out 6
  have c7 : w2.cell? ⟨P, 7, none⟩ = _ := cell_of HX2.out 7
  have c8 : w2.cell? ⟨P, 8, none⟩ = _ := cell_of HX2.out 8
  have c9 : w2.cell? ⟨P, 9, none⟩ = _ := cell_of HX2.out 9
  have c10 : w2.cell? ⟨P, 10, none⟩ = _ := cell_of HX2.out 10
  go_wp2_with fail
  refine (HWO.out w2).mono ?_
  rintro e w3 ⟨rfl, B3⟩
  have HX3 := keepH (heap_below HX2.out B3)
  have HB3 := keepH (below_chain HB2.out B3)
  clear B3 c0 c1 c2 c3 c4 c5 c6 c7 c8 c9 c10
  have c0 : w3.cell? ⟨P, 0, none⟩ = _ := cell_of HX3.out 0
  have c1 : w3.cell? ⟨P, 1, none⟩ = _ := cell_of HX3.out 1
  have c2 : w3.cell? ⟨P, 2, none⟩ = _ := cell_of HX3.out 2
  have c3 : w3.cell? ⟨P, 3, none⟩ = _ := cell_of HX3.out 3
  have c4 : w3.cell? ⟨P, 4, none⟩ = _ := cell_of HX3.out 4
  have c5 : w3.cell? ⟨P, 5, none⟩ = _ := cell_of HX3.out 5
  have c6 : w3.cell? ⟨P, 6, none⟩ = _ := cell_of HX3.out 6
  have c7 : w3.cell? ⟨P, 7, none⟩ = _ := cell_of HX3.out 7
  have c8 : w3.cell? ⟨P, 8, none⟩ = _ := cell_of HX3.out 8
  have c9 : w3.cell? ⟨P, 9, none⟩ = _ := cell_of HX3.out 9
  have c10 : w3.cell? ⟨P, 10, none⟩ = _ := cell_of HX3.out 10
  go_wp2_with fail
  refine (HHD.out w3).mono ?_
  rintro e wx ⟨rfl, hwx⟩
  rw [hwx]
  clear hwx
  go_wp2_with fail
  refine (HNhnd.out w3 HB3.out).mono ?_
  rintro e w4 ⟨rfl, B4⟩
  have HX4 := keepH (heap_below HX3.out B4)
  have HB4 := keepH (below_chain HB3.out B4)
  clear B4 c0 c1 c2 c3 c4 c5 c6 c7 c8 c9 c10
  have c0 : w4.cell? ⟨P, 0, none⟩ = _ := cell_of HX4.out 0
  have c1 : w4.cell? ⟨P, 1, none⟩ = _ := cell_of HX4.out 1
  have c2 : w4.cell? ⟨P, 2, none⟩ = _ := cell_of HX4.out 2
  have c3 : w4.cell? ⟨P, 3, none⟩ = _ := cell_of HX4.out 3
  have c4 : w4.cell? ⟨P, 4, none⟩ = _ := cell_of HX4.out 4
  have c5 : w4.cell? ⟨P, 5, none⟩ = _ := cell_of HX4.out 5
  have c6 : w4.cell? ⟨P, 6, none⟩ = _ := cell_of HX4.out 6
  have c7 : w4.cell? ⟨P, 7, none⟩ = _ := cell_of HX4.out 7
  have c8 : w4.cell? ⟨P, 8, none⟩ = _ := cell_of HX4.out 8
  have c9 : w4.cell? ⟨P, 9, none⟩ = _ := cell_of HX4.out 9
  have c10 : w4.cell? ⟨P, 10, none⟩ = _ := cell_of HX4.out 10
  go_upto_region 24 with fail
  have HQ9 := keepH c9
  have HQ10 := keepH c10
  clear c0 c1 c2 c3 c4 c5 c6 c7 c8 c9 c10
  refine wp_region_held_drew (S := fun w => Below w4.heap.size w4 w) (by kernel_rfl) (below_drewN (Below.refl _ _) 1) ?_
  intro hHeld
  refine wpAnyH_take (i := 0) (v := ?_) rfl (by kernel_rfl) (by kernel_rfl) (by kernel_rfl) (fun _ _ _ h => h) (Or.inl ⟨by rfl, ?_⟩) hHeld ?_
  rotate_left
  · intro w hSw
    (try dsimp only at hSw)
    go_simp
    try with_reducible rfl
  (try simp only [Act.put]); (try simp only [List.setIfInBounds_toArray]); (try simp only [List.getElem_toArray]); (repeat (first | simp only [List.getElem_cons_succ] | simp only [List.getElem_cons_zero])); (repeat (first | simp only [List.set_cons_succ] | simp only [List.set_cons_zero]))
  refine wpAnyH_take (i := 1) (v := ?_) rfl (by kernel_rfl) (by kernel_rfl) (by kernel_rfl) (fun _ _ _ h => h) (Or.inl ⟨by rfl, ?_⟩) hHeld ?_
  rotate_left
  · intro w hSw
    (try dsimp only at hSw)
    go_simp
    try with_reducible rfl
  (try simp only [Act.put]); (try simp only [List.setIfInBounds_toArray]); (try simp only [List.getElem_toArray]); (repeat (first | simp only [List.getElem_cons_succ] | simp only [List.getElem_cons_zero])); (repeat (first | simp only [List.set_cons_succ] | simp only [List.set_cons_zero]))
  refine wpAnyH_take (i := 2) (v := ?_) rfl (by kernel_rfl) (by kernel_rfl) (by kernel_rfl) (fun _ _ _ h => h) (Or.inl ⟨by rfl, ?_⟩) hHeld ?_
  rotate_left
  · intro w hSw
    (try dsimp only at hSw)
    have y := cell_below HQ9.out hSw
    go_simp
    try with_reducible rfl
  (try simp only [Act.put]); (try simp only [List.setIfInBounds_toArray]); (try simp only [List.getElem_toArray]); (repeat (first | simp only [List.getElem_cons_succ] | simp only [List.getElem_cons_zero])); (repeat (first | simp only [List.set_cons_succ] | simp only [List.set_cons_zero]))
  refine wpAnyH_take (i := 6) (v := ?_) rfl (by kernel_rfl) (by kernel_rfl) (by kernel_rfl) (fun _ _ _ h => h) (Or.inl ⟨by rfl, ?_⟩) hHeld ?_
  rotate_left
  · intro w hSw
    (try dsimp only at hSw)
    go_simp
    try with_reducible rfl
  (try simp only [Act.put]); (try simp only [List.setIfInBounds_toArray]); (try simp only [List.getElem_toArray]); (repeat (first | simp only [List.getElem_cons_succ] | simp only [List.getElem_cons_zero])); (repeat (first | simp only [List.set_cons_succ] | simp only [List.set_cons_zero]))
  refine wpAnyH_take (i := 7) (v := ?_) rfl (by kernel_rfl) (by kernel_rfl) (by kernel_rfl) (fun _ _ _ h => h) (Or.inl ⟨by rfl, ?_⟩) hHeld ?_
  rotate_left
  · intro w hSw
    (try dsimp only at hSw)
    have y := cell_below HQ10.out hSw
    go_simp
    try with_reducible rfl
  (try simp only [Act.put]); (try simp only [List.setIfInBounds_toArray]); (try simp only [List.getElem_toArray]); (repeat (first | simp only [List.getElem_cons_succ] | simp only [List.getElem_cons_zero])); (repeat (first | simp only [List.set_cons_succ] | simp only [List.set_cons_zero]))
  refine wpAnyH_ready (rs := [3]) (by kernel_rfl) (by simp) ?_
  refine AllReadyH.cons rfl (fun KK hKK => ?_) AllReadyH.nil
  go_simp
  refine (HNlo.out _ (below_chain HB4.out hHeld)).mono ?_
  rintro e v3 ⟨rfl, D3⟩
  have E3 := below_chain hHeld D3
  clear D3
  refine hKK.out _ _ ?_ (fun hHeld => ?_)
  · exact E3
  clear hKK KK
  (try simp only [Act.put]); (try simp only [List.setIfInBounds_toArray]); (try simp only [List.getElem_toArray]); (repeat (first | simp only [List.getElem_cons_succ] | simp only [List.getElem_cons_zero])); (repeat (first | simp only [List.set_cons_succ] | simp only [List.set_cons_zero]))
  refine wpAnyH_take (i := 4) (v := ?_) rfl (by kernel_rfl) (by kernel_rfl) (by kernel_rfl) (fun _ _ _ h => h) (Or.inl ⟨by rfl, ?_⟩) hHeld ?_
  rotate_left
  · intro w hSw
    (try dsimp only at hSw)
    go_simp
    try with_reducible rfl
  (try simp only [Act.put]); (try simp only [List.setIfInBounds_toArray]); (try simp only [List.getElem_toArray]); (repeat (first | simp only [List.getElem_cons_succ] | simp only [List.getElem_cons_zero])); (repeat (first | simp only [List.set_cons_succ] | simp only [List.set_cons_zero]))
  refine wpAnyH_take (i := 5) (v := ?_) rfl (by kernel_rfl) (by kernel_rfl) (by kernel_rfl) (fun _ _ _ h => h) (Or.inl ⟨by rfl, ?_⟩) hHeld ?_
  rotate_left
  · intro w hSw
    (try dsimp only at hSw)
    go_simp
    try with_reducible rfl
  (try simp only [Act.put]); (try simp only [List.setIfInBounds_toArray]); (try simp only [List.getElem_toArray]); (repeat (first | simp only [List.getElem_cons_succ] | simp only [List.getElem_cons_zero])); (repeat (first | simp only [List.set_cons_succ] | simp only [List.set_cons_zero]))
  refine wpAnyH_ready (rs := [8]) (by kernel_rfl) (by simp) ?_
  refine AllReadyH.cons rfl (fun KK hKK => ?_) AllReadyH.nil
  go_simp
  refine (HNhi.out _ (below_chain HB4.out hHeld)).mono ?_
  rintro e v4 ⟨rfl, D4⟩
  have E4 := below_chain hHeld D4
  have HEE := keepH E4
  clear D4
  refine hKK.out _ _ ?_ (fun hHeld => ?_)
  · exact E4
  clear hKK KK
  (try simp only [Act.put]); (try simp only [List.setIfInBounds_toArray]); (try simp only [List.getElem_toArray]); (repeat (first | simp only [List.getElem_cons_succ] | simp only [List.getElem_cons_zero])); (repeat (first | simp only [List.set_cons_succ] | simp only [List.set_cons_zero]))
  refine wpAnyH_take (i := 9) (v := ?_) rfl (by kernel_rfl) (by kernel_rfl) (by kernel_rfl) (fun _ _ _ h => h) (Or.inl ⟨by rfl, ?_⟩) hHeld ?_
  rotate_left
  · intro w hSw
    (try dsimp only at hSw)
    go_simp
    try with_reducible rfl
  (try simp only [Act.put]); (try simp only [List.setIfInBounds_toArray]); (try simp only [List.getElem_toArray]); (repeat (first | simp only [List.getElem_cons_succ] | simp only [List.getElem_cons_zero])); (repeat (first | simp only [List.set_cons_succ] | simp only [List.set_cons_zero]))
  refine wpAnyH_take (i := 10) (v := ?_) rfl (by kernel_rfl) (by kernel_rfl) (by kernel_rfl) (fun _ _ _ h => h) (Or.inl ⟨by rfl, ?_⟩) hHeld ?_
  rotate_left
  · intro w hSw
    (try dsimp only at hSw)
    go_simp
    try with_reducible rfl
  (try simp only [Act.put]); (try simp only [List.setIfInBounds_toArray]); (try simp only [List.getElem_toArray]); (repeat (first | simp only [List.getElem_cons_succ] | simp only [List.getElem_cons_zero])); (repeat (first | simp only [List.set_cons_succ] | simp only [List.set_cons_zero]))
  refine wpAnyH_take (i := 11) (v := ?_) rfl (by kernel_rfl) (by kernel_rfl) (by kernel_rfl) (fun _ _ _ h => h) (Or.inl ⟨by rfl, ?_⟩) hHeld ?_
  rotate_left
  · intro w hSw
    (try dsimp only at hSw)
    go_simp
    try with_reducible rfl
  (try simp only [Act.put]); (try simp only [List.setIfInBounds_toArray]); (try simp only [List.getElem_toArray]); (repeat (first | simp only [List.getElem_cons_succ] | simp only [List.getElem_cons_zero])); (repeat (first | simp only [List.set_cons_succ] | simp only [List.set_cons_zero]))
  refine wpAnyH_done (by kernel_rfl) ?_ _
  go_simp
  have HB6 := keepH (below_chain HB4.out HEE.out)
  go_wp2_with fail
  go_ret2
  exact ⟨by simp, HB6.out⟩
set_option maxRecDepth 100000 in
set_option maxHeartbeats 8000000 in
theorem dPrint_10 (key val old hnd : Nat) (set : Bool) (rt ri : Int) (kp : Option Addr) (kc lo hi : Nat) (keys : List Nat) (h1 : isU key) (h2 : isU val) (h3 : isU old) (h4 : isU hnd) (h5 : isU lo) (h6 : isU hi) (ha : isI rt) (hb : isI ri) (hf : faultN 10 key val old hnd set rt ri kp keys.length kc lo hi = 0) (W : World) (T : Tb W) :
    Calls Tryz.prog 8 #[.agg (opR 10 key val old hnd set rt ri (.slice kp keys.length kc) lo hi)] W fun e W' => e = .returned (.tuple #[.string (mkS (opT 10 key val old hnd set rt ri keys lo hi)), .int .i64 0]) ∧ Below W.heap.size W W' := by
  have hop := fun w => dOp_any 10 key val old hnd set rt ri kp keys.length kc lo hi (by omega) h1 h2 h3 h4 h5 h6 ha hb w
  rw [hf] at hop
  have HOP := keepH hop
  have HWO := keepH (fun w => dWord_any 10 (by omega) w)
  have HHD := keepH (fun w => dHandled_any 10 w)
  rw [show hndK 10 = false from rfl] at HHD
  have l0 := opW_len 10
  obtain ⟨s0, hs0⟩ : ∃ s, s = mkS (opW 10) := ⟨_, rfl⟩
  rw [← hs0] at HWO
  have hfin : mkS (opT 10 key val old hnd set rt ri keys lo hi) = s0 := by
    rw [hs0]
    first | rfl | (congr 1; unfold opT partsO; rw [show hndK 10 = false from rfl, show kysK 10 = false from rfl, show numK 10 = [] from rfl]; simp [join_flat]) | (exact congrArg mkS (by unfold opT partsO; simp [hndK, kysK, numK, Lib.join_one]))
  rw [hfin]
  obtain ⟨w1, hw1⟩ : ∃ w1, w1 = W.alloc (.cells (opR 10 key val old hnd set rt ri (.slice kp keys.length kc) lo hi) 28) := ⟨_, rfl⟩
  obtain ⟨P, hP⟩ : ∃ P, P = W.heap.size := ⟨_, rfl⟩
  have B1 : Below W.heap.size W w1 := by rw [hw1]; exact below_alloc _ _
  have X1 : w1.heap[P]? = some (.cells (opR 10 key val old hnd set rt ri (.slice kp keys.length kc) lo hi) 28 (0, 0)) := by rw [hw1, hP]; exact heap_alloc_new _ _
  have HW1 := keepH hw1
  have HP := keepH hP
  have HB1 := keepH B1
  have HX1 := keepH X1
  obtain ⟨n, hn⟩ : ∃ n, n = keys.length := ⟨_, rfl⟩
  rw [← hn] at HOP HX1 HW1 ⊢
  have HN := keepH hn
  clear hop hw1 hP B1 X1 hf T h1 h2 h3 h4 h5 h6 ha hb hn
  clear hs0 l0 hfin
  go_enter Tryz.func8, Tryz.ntmps8
  go_upto_region 1 with fail
  rw [← HW1.out, ← HP.out]
  have c0 : w1.cell? ⟨P, 0, none⟩ = _ := cell_of HX1.out 0
  have c1 : w1.cell? ⟨P, 1, none⟩ = _ := cell_of HX1.out 1
  have c2 : w1.cell? ⟨P, 2, none⟩ = _ := cell_of HX1.out 2
  have c3 : w1.cell? ⟨P, 3, none⟩ = _ := cell_of HX1.out 3
  have c4 : w1.cell? ⟨P, 4, none⟩ = _ := cell_of HX1.out 4
  have c5 : w1.cell? ⟨P, 5, none⟩ = _ := cell_of HX1.out 5
  have c6 : w1.cell? ⟨P, 6, none⟩ = _ := cell_of HX1.out 6
  have c7 : w1.cell? ⟨P, 7, none⟩ = _ := cell_of HX1.out 7
  have c8 : w1.cell? ⟨P, 8, none⟩ = _ := cell_of HX1.out 8
  have c9 : w1.cell? ⟨P, 9, none⟩ = _ := cell_of HX1.out 9
  have c10 : w1.cell? ⟨P, 10, none⟩ = _ := cell_of HX1.out 10
  go_wp2_with fail
  refine (HOP.out w1).mono ?_
  rintro e w2 ⟨rfl, B2⟩
  have HX2 := keepH (heap_below HX1.out B2)
  have HB2 := keepH (below_chain HB1.out B2)
  clear B2 c0 c1 c2 c3 c4 c5 c6 c7 c8 c9 c10
  have c0 : w2.cell? ⟨P, 0, none⟩ = _ := cell_of HX2.out 0
  have c1 : w2.cell? ⟨P, 1, none⟩ = _ := cell_of HX2.out 1
  have c2 : w2.cell? ⟨P, 2, none⟩ = _ := cell_of HX2.out 2
  have c3 : w2.cell? ⟨P, 3, none⟩ = _ := cell_of HX2.out 3
  have c4 : w2.cell? ⟨P, 4, none⟩ = _ := cell_of HX2.out 4
  have c5 : w2.cell? ⟨P, 5, none⟩ = _ := cell_of HX2.out 5
  have c6 : w2.cell? ⟨P, 6, none⟩ = _ := cell_of HX2.out 6
  have c7 : w2.cell? ⟨P, 7, none⟩ = _ := cell_of HX2.out 7
  have c8 : w2.cell? ⟨P, 8, none⟩ = _ := cell_of HX2.out 8
  have c9 : w2.cell? ⟨P, 9, none⟩ = _ := cell_of HX2.out 9
  have c10 : w2.cell? ⟨P, 10, none⟩ = _ := cell_of HX2.out 10
  go_wp2_with fail
  refine (HWO.out w2).mono ?_
  rintro e w3 ⟨rfl, B3⟩
  have HX3 := keepH (heap_below HX2.out B3)
  have HB3 := keepH (below_chain HB2.out B3)
  clear B3 c0 c1 c2 c3 c4 c5 c6 c7 c8 c9 c10
  have c0 : w3.cell? ⟨P, 0, none⟩ = _ := cell_of HX3.out 0
  have c1 : w3.cell? ⟨P, 1, none⟩ = _ := cell_of HX3.out 1
  have c2 : w3.cell? ⟨P, 2, none⟩ = _ := cell_of HX3.out 2
  have c3 : w3.cell? ⟨P, 3, none⟩ = _ := cell_of HX3.out 3
  have c4 : w3.cell? ⟨P, 4, none⟩ = _ := cell_of HX3.out 4
  have c5 : w3.cell? ⟨P, 5, none⟩ = _ := cell_of HX3.out 5
  have c6 : w3.cell? ⟨P, 6, none⟩ = _ := cell_of HX3.out 6
  have c7 : w3.cell? ⟨P, 7, none⟩ = _ := cell_of HX3.out 7
  have c8 : w3.cell? ⟨P, 8, none⟩ = _ := cell_of HX3.out 8
  have c9 : w3.cell? ⟨P, 9, none⟩ = _ := cell_of HX3.out 9
  have c10 : w3.cell? ⟨P, 10, none⟩ = _ := cell_of HX3.out 10
  go_wp2_with fail
  refine (HHD.out w3).mono ?_
  rintro e wx ⟨rfl, hwx⟩
  rw [hwx]
  clear hwx
  go_wp2_with fail
  go_ret2
  exact ⟨by simp, HB3.out⟩
end Go.Proofs.YtmmaniolaljjlaaGreatDoor
