/- What is wrong with an operation: the document says the same. (mkScw.py) -/
import Derived.Test.YtmmaniolaljjlaaGreatDoorScv
namespace Go.Proofs.YtmmaniolaljjlaaGreatDoor
open Go.RowKit Go.Shelf
set_option linter.unusedVariables false

set_option maxRecDepth 100000 in
theorem dNum_any (u : Nat) (h : isU u) (w : World) (T : Tb w) :
    Calls Tryz.prog 30 #[.int .u64 (u : Int)] w fun e w' => e = .returned (.string (mkS (Lib.decDigits u))) ∧ Below w.heap.size w w' := by
  have hf := fmtU u h w T.tab
  obtain ⟨s, hs⟩ : ∃ s, s = mkS (Lib.decDigits u) := ⟨_, rfl⟩
  go_enter Tryz.func30, Tryz.ntmps30
  go_wp2_with fail
  refine hf.mono ?_
  rintro e w1 ⟨rfl, hb⟩
  go_wp2
  go_ret
  exact ⟨rfl, hb⟩
theorem opW_empty (k : Nat) : (mkS (opW k)).toList.isEmpty = !hasK k := by
  rw [mkS_toList]
  by_cases h : 1 ≤ k ∧ k ≤ 10
  · have hk : hasK k = true := by unfold hasK; simpa using h
    rw [hk]
    have : k = 1 ∨ k = 2 ∨ k = 3 ∨ k = 4 ∨ k = 5 ∨ k = 6 ∨ k = 7 ∨ k = 8 ∨ k = 9 ∨ k = 10 := by omega
    rcases this with rfl | rfl | rfl | rfl | rfl | rfl | rfl | rfl | rfl | rfl <;> rfl
  · have hk : hasK k = false := by unfold hasK; simpa using h
    have e : opW k = [] := by
      rcases Nat.lt_or_ge k 1 with h0 | h0
      · obtain rfl : k = 0 := by omega
        rfl
      · unfold opW
        rw [List.getD, List.getElem?_eq_none (by show 11 ≤ k; omega)]
        rfl
    rw [hk, e]
    rfl
theorem fault_form (k key val old hnd : Nat) (set : Bool) (rt ri : Int) (kp : Option Addr) (n kc lo hi : Nat) : faultN k key val old hnd set rt ri kp n kc lo hi = (if hasK k = false then 160 else if k = 7 ∧ 1024 < n then 6 else if formB k key val old hnd set rt ri kp n kc lo hi = true then 0 else 52) := by
  unfold faultN formB
  by_cases a : hasK k = false
  · rw [if_pos a, if_pos a]
  rw [if_neg a, if_neg a]
  by_cases b : k = 7 ∧ 1024 < n
  · rw [if_pos b, if_pos b]
  rw [if_neg b, if_neg b]
  cases hh : hndK k with
  | true =>
    cases hr : rhB hnd set rt ri with
    | true => simp
    | false => simp
  | false =>
    rw [if_neg (by simp)]
    by_cases hb : blB (zk k 1 key) (zk k 2 val) (zk k 3 old) hnd (zk k 9 lo) (zk k 10 hi) set rt ri (if kysK k = true then 0 else n) = true
    · have hq := hb
      unfold blB at hq
      simp only [decide_eq_true_eq] at hq
      obtain ⟨_, ⟨q1, q2, q3⟩, _⟩ := hq
      have : rhB hnd set rt ri = true := by unfold rhB; rw [q1, q2, q3]; simp
      simp [hb, this]
    · simp at hb
      simp [hb]
set_option maxRecDepth 100000 in
set_option maxHeartbeats 4000000 in
theorem dOp_any (k key val old hnd : Nat) (set : Bool) (rt ri : Int) (kp : Option Addr) (n kc lo hi : Nat) (hk : k < 256) (h1 : isU key) (h2 : isU val) (h3 : isU old) (h4 : isU hnd) (h5 : isU lo) (h6 : isU hi) (ha : isI rt) (hb : isI ri) (W : World) :
    Calls Tryz.prog 26 #[.agg (opR k key val old hnd set rt ri (.slice kp n kc) lo hi)] W fun e W' => e = .returned (.int .i64 (faultN k key val old hnd set rt ri kp n kc lo hi : Int)) ∧ Below W.heap.size W W' := by
  have HFO := keepH (fun w => form_any k key val old hnd set rt ri kp n kc lo hi hk h1 h2 h3 h4 h5 h6 ha hb w)
  have HWO := keepH (fun w => dWord_any k hk w)
  have HFF := keepH (fault_form k key val old hnd set rt ri kp n kc lo hi)
  have he := opW_empty k
  obtain ⟨s, hs⟩ : ∃ s, s = mkS (opW k) := ⟨_, rfl⟩
  rw [← hs] at HWO he
  obtain ⟨w1, hw1⟩ : ∃ w1, w1 = W.alloc (.cells (opR k key val old hnd set rt ri (.slice kp n kc) lo hi) 28) := ⟨_, rfl⟩
  obtain ⟨P, hP⟩ : ∃ P, P = W.heap.size := ⟨_, rfl⟩
  have B1 : Below W.heap.size W w1 := by rw [hw1]; exact below_alloc _ _
  have X1 : w1.heap[P]? = some (.cells (opR k key val old hnd set rt ri (.slice kp n kc) lo hi) 28 (0, 0)) := by rw [hw1, hP]; exact heap_alloc_new _ _
  have HW1 := keepH hw1
  have HP := keepH hP
  have HB1 := keepH B1
  have HX1 := keepH X1
  obtain ⟨E, hE⟩ : ∃ E, E = faultN k key val old hnd set rt ri kp n kc lo hi := ⟨_, rfl⟩
  rw [← hE] at HFF ⊢
  obtain ⟨V, hV⟩ : ∃ V, V = formB k key val old hnd set rt ri kp n kc lo hi := ⟨_, rfl⟩
  rw [← hV] at HFF HFO
  obtain ⟨hd, hhd⟩ : ∃ d, d = hasK k := ⟨_, rfl⟩
  rw [← hhd] at HFF he
  clear hs hw1 hP B1 X1 hE hV hhd h1 h2 h3 h4 h5 h6 ha hb hk
  have c0 : w1.cell? ⟨P, 0, none⟩ = _ := cell_of HX1.out 0
  go_enter Tryz.func26, Tryz.ntmps26
  go_upto_region 1 with fail
  rw [← HW1.out, ← HP.out]
  go_wp2_with fail
  refine (HWO.out w1).mono ?_
  rintro e w2 ⟨rfl, B2⟩
  have HX2 := keepH (heap_below HX1.out B2)
  have HB2 := keepH (below_chain HB1.out B2)
  clear B2 c0
  cases hd with
  | false =>
    have he2 : s.toList.isEmpty = true := by simpa using he
    have HEE : Hid (E = 160) := keepH (by rw [HFF.out]; simp)
    clear he
    go_wp2_with fail
    go_ret
    exact ⟨by rw [HEE.out]; rfl, HB2.out⟩
  | true =>
    have he2 : s.toList.isEmpty = false := by simpa using he
    clear he
    have c0 : w2.cell? ⟨P, 0, none⟩ = _ := cell_of HX2.out 0
    have c1 : w2.cell? ⟨P, 1, none⟩ = _ := cell_of HX2.out 1
    have c2 : w2.cell? ⟨P, 2, none⟩ = _ := cell_of HX2.out 2
    have c3 : w2.cell? ⟨P, 3, none⟩ = _ := cell_of HX2.out 3
    have c4 : w2.cell? ⟨P, 4, none⟩ = _ := cell_of HX2.out 4
    have c5 : w2.cell? ⟨P, 5, none⟩ = _ := cell_of HX2.out 5
    have c6 : w2.cell? ⟨P, 6, none⟩ = _ := cell_of HX2.out 6
    have c7 : w2.cell? ⟨P, 7, none⟩ = _ := cell_of HX2.out 7
    have c8 : w2.cell? ⟨P, 8, none⟩ = _ := cell_of HX2.out 8
    have c9 : w2.cell? ⟨P, 9, none⟩ = _ := cell_of HX2.out 9
    have c10 : w2.cell? ⟨P, 10, none⟩ = _ := cell_of HX2.out 10
    by_cases h7 : k = 7
    · have u7 : ((k : Int) == 7) = true := by simp [h7]
      by_cases hl : 1024 < n
      · have tl : (n : Int) > 1024 := by omega
        have HEE : Hid (E = 6) := keepH (by rw [HFF.out, if_neg (by simp), if_pos ⟨h7, hl⟩])
        clear h7
        go_wp2_with fail
        go_ret
        exact ⟨by rw [HEE.out]; rfl, HB2.out⟩
      · have tl : ¬ ((n : Int) > 1024) := by omega
        have HEE : Hid (E = if V = true then 0 else 52) := keepH (by rw [HFF.out, if_neg (by simp), if_neg (fun h => hl h.2)])
        clear h7
        go_wp2_with fail
        refine (HFO.out w2).mono ?_
        rintro e w3 ⟨rfl, B3⟩
        have HB3 := keepH (below_chain HB2.out B3)
        clear B3 c0 c1 c2 c3 c4 c5 c6 c7 c8 c9 c10
        cases V with
        | true =>
          go_wp2_with fail
          go_ret
          exact ⟨by rw [HEE.out]; rfl, HB3.out⟩
        | false =>
          go_wp2_with fail
          go_ret
          exact ⟨by rw [HEE.out]; rfl, HB3.out⟩
    · have u7 : ((k : Int) == 7) = false := by simp; omega
      have HEE : Hid (E = if V = true then 0 else 52) := keepH (by rw [HFF.out, if_neg (by simp), if_neg (fun h => h7 h.1)])
      clear h7
      go_wp2_with fail
      refine (HFO.out w2).mono ?_
      rintro e w3 ⟨rfl, B3⟩
      have HB3 := keepH (below_chain HB2.out B3)
      clear B3 c0 c1 c2 c3 c4 c5 c6 c7 c8 c9 c10
      cases V with
      | true =>
        go_wp2_with fail
        go_ret
        exact ⟨by rw [HEE.out]; rfl, HB3.out⟩
      | false =>
        go_wp2_with fail
        go_ret
        exact ⟨by rw [HEE.out]; rfl, HB3.out⟩
end Go.Proofs.YtmmaniolaljjlaaGreatDoor
