/- What is wrong with an operation, by the document. (mkScv.py) -/
import Derived.Test.YtmmaniolaljjlaaGreatDoorSct
namespace Go.Proofs.YtmmaniolaljjlaaGreatDoor
open Go.RowKit Go.Shelf
set_option linter.unusedVariables false

def formB (k key val old hnd : Nat) (set : Bool) (rt ri : Int) (kp : Option Addr) (n kc lo hi : Nat) : Bool := blB (zk k 1 key) (zk k 2 val) (zk k 3 old) (if hndK k = true then 0 else hnd) (zk k 9 lo) (zk k 10 hi) (if hndK k = true then false else set) (if hndK k = true then 0 else rt) (if hndK k = true then 0 else ri) (if kysK k = true then 0 else n) && rhB hnd set rt ri
set_option maxRecDepth 100000 in
set_option maxHeartbeats 8000000 in
theorem form_any (k key val old hnd : Nat) (set : Bool) (rt ri : Int) (kp : Option Addr) (n kc lo hi : Nat) (hk : k < 256) (h1 : isU key) (h2 : isU val) (h3 : isU old) (h4 : isU hnd) (h5 : isU lo) (h6 : isU hi) (ha : isI rt) (hb : isI ri) (W : World) :
    Calls Tryz.prog 71 #[.agg (opR k key val old hnd set rt ri (.slice kp n kc) lo hi)] W fun e W' => e = .returned (.bool (formB k key val old hnd set rt ri kp n kc lo hi)) ∧ Below W.heap.size W W' := by
  have hba := fun w => bare_any k key val old hnd set rt ri kp n kc lo hi w
  unfold bareR at hba
  have HF : Hid (formB k key val old hnd set rt ri kp n kc lo hi = (blB (zk k 1 key) (zk k 2 val) (zk k 3 old) (if hndK k = true then 0 else hnd) (zk k 9 lo) (zk k 10 hi) (if hndK k = true then false else set) (if hndK k = true then 0 else rt) (if hndK k = true then 0 else ri) (if kysK k = true then 0 else n) && rhB hnd set rt ri)) := keepH rfl
  obtain ⟨x1, e1⟩ : ∃ x, x = zk k 1 key := ⟨_, rfl⟩
  obtain ⟨x2, e2⟩ : ∃ x, x = zk k 2 val := ⟨_, rfl⟩
  obtain ⟨x3, e3⟩ : ∃ x, x = zk k 3 old := ⟨_, rfl⟩
  obtain ⟨xh, eh⟩ : ∃ x, x = (if hndK k = true then 0 else hnd) := ⟨_, rfl⟩
  obtain ⟨xs, es⟩ : ∃ x, x = (if hndK k = true then false else set) := ⟨_, rfl⟩
  obtain ⟨xt, et⟩ : ∃ x, x = (if hndK k = true then 0 else rt) := ⟨_, rfl⟩
  obtain ⟨xi, ei⟩ : ∃ x, x = (if hndK k = true then 0 else ri) := ⟨_, rfl⟩
  obtain ⟨x9, e9⟩ : ∃ x, x = zk k 9 lo := ⟨_, rfl⟩
  obtain ⟨x10, e10⟩ : ∃ x, x = zk k 10 hi := ⟨_, rfl⟩
  rw [← e1, ← e2, ← e3, ← eh, ← es, ← et, ← ei, ← e9, ← e10] at hba HF
  have it : isI xt := by rw [et]; split; exact ⟨by omega, by omega⟩; exact ha
  have ii : isI xi := by rw [ei]; split; exact ⟨by omega, by omega⟩; exact hb
  have he := fun w => ref_eq0 xs xt xi it ii w
  have hr := fun w => ref_eq0 set rt ri ha hb w
  obtain ⟨V, hV⟩ : ∃ V, V = formB k key val old hnd set rt ri kp n kc lo hi := ⟨_, rfl⟩
  rw [← hV] at HF ⊢
  obtain ⟨w1, hw1⟩ : ∃ w1, w1 = W.alloc (.cells (opR k key val old hnd set rt ri (.slice kp n kc) lo hi) 28) := ⟨_, rfl⟩
  obtain ⟨P, hP⟩ : ∃ P, P = W.heap.size := ⟨_, rfl⟩
  have B1 : Below W.heap.size W w1 := by rw [hw1]; exact below_alloc _ _
  have X1 : w1.heap[P]? = some (.cells (opR k key val old hnd set rt ri (.slice kp n kc) lo hi) 28 (0, 0)) := by rw [hw1, hP]; exact heap_alloc_new _ _
  have HW1 := keepH hw1
  have HP := keepH hP
  have HB1 := keepH B1
  have HX1 := keepH X1
  have HBA := keepH hba
  have hk7 : (if kysK k = true then 0 else n) = 0 ↔ (k = 7 ∨ n = 0) := by
    unfold kysK
    by_cases h : k = 7
    · simp [h]
    · simp [h]
  have HK7 := keepH hk7
  clear e1 e2 e3 eh es et ei e9 e10 it ii ha hb h1 h2 h3 h4 h5 h6 hw1 hP B1 X1 hba hV hk7
  go_enter Tryz.func71, Tryz.ntmps71
  go_upto_region 1 with fail
  rw [← HW1.out, ← HP.out]
  have c0' : w1.cell? ⟨P, 0, none⟩ = _ := cell_of HX1.out 0
  have c1' : w1.cell? ⟨P, 1, none⟩ = _ := cell_of HX1.out 1
  have c2' : w1.cell? ⟨P, 2, none⟩ = _ := cell_of HX1.out 2
  have c3' : w1.cell? ⟨P, 3, none⟩ = _ := cell_of HX1.out 3
  have c4' : w1.cell? ⟨P, 4, none⟩ = _ := cell_of HX1.out 4
  have c5' : w1.cell? ⟨P, 5, none⟩ = _ := cell_of HX1.out 5
  have c6' : w1.cell? ⟨P, 6, none⟩ = _ := cell_of HX1.out 6
  have c7' : w1.cell? ⟨P, 7, none⟩ = _ := cell_of HX1.out 7
  have c8' : w1.cell? ⟨P, 8, none⟩ = _ := cell_of HX1.out 8
  have c9' : w1.cell? ⟨P, 9, none⟩ = _ := cell_of HX1.out 9
  have c10' : w1.cell? ⟨P, 10, none⟩ = _ := cell_of HX1.out 10
  go_wp2_with fail
  refine (HBA.out w1).mono ?_
  rintro e w2 ⟨rfl, B2⟩
  obtain ⟨w3, hw3⟩ : ∃ w3, w3 = w2.alloc (.cells (opR k x1 x2 x3 xh xs xt xi (.slice none 0 0) x9 x10) 28) := ⟨_, rfl⟩
  obtain ⟨Q, hQ⟩ : ∃ Q, Q = w2.heap.size := ⟨_, rfl⟩
  have B3 : Below w2.heap.size w2 w3 := by rw [hw3]; exact below_alloc _ _
  have X3 : w3.heap[Q]? = some (.cells (opR k x1 x2 x3 xh xs xt xi (.slice none 0 0) x9 x10) 28 (0, 0)) := by rw [hw3, hQ]; exact heap_alloc_new _ _
  have Y3 := heap_below (heap_below HX1.out B2) B3
  have HB3 := keepH (below_chain (below_chain HB1.out B2) B3)
  have HW3 := keepH hw3
  have HQ := keepH hQ
  have p0 : w3.cell? ⟨P, 0, none⟩ = _ := cell_of Y3 0
  have p4 : w3.cell? ⟨P, 4, none⟩ = _ := cell_of Y3 4
  have p5 : w3.cell? ⟨P, 5, none⟩ = _ := cell_of Y3 5
  have p6 : w3.cell? ⟨P, 6, none⟩ = _ := cell_of Y3 6
  have p7 : w3.cell? ⟨P, 7, none⟩ = _ := cell_of Y3 7
  have p8 : w3.cell? ⟨P, 8, none⟩ = _ := cell_of Y3 8
  have q1 : w3.cell? ⟨Q, 1, none⟩ = _ := cell_of X3 1
  have q2 : w3.cell? ⟨Q, 2, none⟩ = _ := cell_of X3 2
  have q3 : w3.cell? ⟨Q, 3, none⟩ = _ := cell_of X3 3
  have q4 : w3.cell? ⟨Q, 4, none⟩ = _ := cell_of X3 4
  have q5 : w3.cell? ⟨Q, 5, none⟩ = _ := cell_of X3 5
  have q6 : w3.cell? ⟨Q, 6, none⟩ = _ := cell_of X3 6
  have q7 : w3.cell? ⟨Q, 7, none⟩ = _ := cell_of X3 7
  have q9 : w3.cell? ⟨Q, 9, none⟩ = _ := cell_of X3 9
  have q10 : w3.cell? ⟨Q, 10, none⟩ = _ := cell_of X3 10
  clear c0' c1' c2' c3' c4' c5' c6' c7' c8' c9' c10' B2 B3 X3 Y3 hw3 hQ
  go_upto_region 2 with fail
  rw [← HW3.out, ← HQ.out]
  by_cases c1 : x1 = 0
  · have ux1 : ((x1 : Int) == 0) = true := by simp [c1]
    by_cases c2 : x2 = 0
    · have ux2 : ((x2 : Int) == 0) = true := by simp [c2]
      by_cases c3 : x3 = 0
      · have ux3 : ((x3 : Int) == 0) = true := by simp [c3]
        by_cases c4 : xh = 0
        · have uxh : ((xh : Int) == 0) = true := by simp [c4]
          by_cases c5 : xs = false ∧ xt = 0 ∧ xi = 0
          · have g5 : decide (xs = false ∧ xt = 0 ∧ xi = 0) = true := by simpa using c5
            simp only [g5] at he
            by_cases c6 : x9 = 0
            · have ux9 : ((x9 : Int) == 0) = true := by simp [c6]
              by_cases c7 : x10 = 0
              · have ux10 : ((x10 : Int) == 0) = true := by simp [c7]
                by_cases c8 : k = 7
                · have u8 : ((k : Int) == 7) = true := by simp [c8]
                  have HV : Hid (V = rhB hnd set rt ri) := keepH (by rw [HF.out]; unfold blB; rw [decide_eq_true (by exact ⟨⟨c1, c2, c3, c4, c6, c7⟩, c5, HK7.out.2 (.inl c8)⟩)]; simp)
                  clear c8 c1 c2 c3 c4 c6 c7
                  cases set with
                  | false =>
                    have HV2 : Hid (V = (decide (rt = 0) && decide (ri = 0))) := keepH (by rw [HV.out]; simp [rhB])
                    go_wp2_with fail
                    go_ret
                    exact ⟨by first | (simp [HV2.out]; done) | (rw [HV2.out]; rfl) | (rw [HV2.out]; simp; done) | (rw [HV2.out]; simp; omega), HB3.out⟩
                  | true =>
                    by_cases k1 : hnd = 0
                    · have v1 : ((hnd : Int) == 0) = true := by simp [k1]
                      by_cases k2 : 0 ≤ rt
                      · have HV2 : Hid (V = decide (0 ≤ ri)) := keepH (by rw [HV.out]; simp [rhB, k1, k2])
                        clear k1
                        go_wp2_with fail
                        go_ret
                        exact ⟨by first | (simp [HV2.out]; done) | (rw [HV2.out]; rfl) | (rw [HV2.out]; simp; done) | (rw [HV2.out]; simp; omega), HB3.out⟩
                      · have HV2 : Hid (V = false) := keepH (by rw [HV.out]; simp [rhB, k2])
                        clear k1
                        go_wp2_with fail
                        go_ret
                        exact ⟨by first | (simp [HV2.out]; done) | (rw [HV2.out]; rfl) | (rw [HV2.out]; simp; done) | (rw [HV2.out]; simp; omega), HB3.out⟩
                    · have v1 : ((hnd : Int) == 0) = false := by simp; omega
                      have HV2 : Hid (V = false) := keepH (by rw [HV.out]; simp [rhB, k1])
                      clear k1
                      go_wp2_with fail
                      go_ret
                      exact ⟨by first | (simp [HV2.out]; done) | (rw [HV2.out]; rfl) | (rw [HV2.out]; simp; done) | (rw [HV2.out]; simp; omega), HB3.out⟩
                · have u8 : ((k : Int) == 7) = false := by simp; omega
                  by_cases c9 : n = 0
                  · have u9 : ((n : Int) == 0) = true := by simp [c9]
                    have HV : Hid (V = rhB hnd set rt ri) := keepH (by rw [HF.out]; unfold blB; rw [decide_eq_true (by exact ⟨⟨c1, c2, c3, c4, c6, c7⟩, c5, HK7.out.2 (.inr c9)⟩)]; simp)
                    clear c9 c8 c1 c2 c3 c4 c6 c7
                    cases set with
                    | false =>
                      have HV2 : Hid (V = (decide (rt = 0) && decide (ri = 0))) := keepH (by rw [HV.out]; simp [rhB])
                      go_wp2_with fail
                      go_ret
                      exact ⟨by first | (simp [HV2.out]; done) | (rw [HV2.out]; rfl) | (rw [HV2.out]; simp; done) | (rw [HV2.out]; simp; omega), HB3.out⟩
                    | true =>
                      by_cases k1 : hnd = 0
                      · have v1 : ((hnd : Int) == 0) = true := by simp [k1]
                        by_cases k2 : 0 ≤ rt
                        · have HV2 : Hid (V = decide (0 ≤ ri)) := keepH (by rw [HV.out]; simp [rhB, k1, k2])
                          clear k1
                          go_wp2_with fail
                          go_ret
                          exact ⟨by first | (simp [HV2.out]; done) | (rw [HV2.out]; rfl) | (rw [HV2.out]; simp; done) | (rw [HV2.out]; simp; omega), HB3.out⟩
                        · have HV2 : Hid (V = false) := keepH (by rw [HV.out]; simp [rhB, k2])
                          clear k1
                          go_wp2_with fail
                          go_ret
                          exact ⟨by first | (simp [HV2.out]; done) | (rw [HV2.out]; rfl) | (rw [HV2.out]; simp; done) | (rw [HV2.out]; simp; omega), HB3.out⟩
                      · have v1 : ((hnd : Int) == 0) = false := by simp; omega
                        have HV2 : Hid (V = false) := keepH (by rw [HV.out]; simp [rhB, k1])
                        clear k1
                        go_wp2_with fail
                        go_ret
                        exact ⟨by first | (simp [HV2.out]; done) | (rw [HV2.out]; rfl) | (rw [HV2.out]; simp; done) | (rw [HV2.out]; simp; omega), HB3.out⟩
                  · have u9 : ((n : Int) == 0) = false := by simp; omega
                    have HV : Hid (V = false) := keepH (by rw [HF.out]; unfold blB; rw [decide_eq_false (by rintro ⟨_, _, h⟩; rcases HK7.out.1 h with h | h; exact c8 h; exact c9 h)]; simp)
                    clear c9 c8 c1 c2 c3 c4 c6 c7
                    cases set with
                    | false =>
                      go_wp2_with fail
                      go_ret
                      exact ⟨by first | rfl | simp [HV.out] | (rw [HV.out]; simp), HB3.out⟩
                    | true =>
                      go_wp2_with fail
                      go_ret
                      exact ⟨by first | rfl | simp [HV.out] | (rw [HV.out]; simp), HB3.out⟩
              · have tx10 : ¬ ((x10 : Int) = 0) := by omega
                have ux10 : ((x10 : Int) == 0) = false := by simpa using tx10
                have HV : Hid (V = false) := keepH (by rw [HF.out]; unfold blB; rw [decide_eq_false (by rintro ⟨⟨_, _, _, _, _, h⟩, _⟩; exact c7 h)]; simp)
                clear c1 c2 c3 c4 c5 c6 c7
                cases set with
                | false =>
                  go_wp2_with fail
                  go_ret
                  exact ⟨by first | rfl | simp [HV.out] | (rw [HV.out]; simp), HB3.out⟩
                | true =>
                  go_wp2_with fail
                  go_ret
                  exact ⟨by first | rfl | simp [HV.out] | (rw [HV.out]; simp), HB3.out⟩
            · have tx9 : ¬ ((x9 : Int) = 0) := by omega
              have ux9 : ((x9 : Int) == 0) = false := by simpa using tx9
              have HV : Hid (V = false) := keepH (by rw [HF.out]; unfold blB; rw [decide_eq_false (by rintro ⟨⟨_, _, _, _, h, _⟩, _⟩; exact c6 h)]; simp)
              clear c1 c2 c3 c4 c5 c6
              cases set with
              | false =>
                go_wp2_with fail
                go_ret
                exact ⟨by first | rfl | simp [HV.out] | (rw [HV.out]; simp), HB3.out⟩
              | true =>
                go_wp2_with fail
                go_ret
                exact ⟨by first | rfl | simp [HV.out] | (rw [HV.out]; simp), HB3.out⟩
          · have g5 : decide (xs = false ∧ xt = 0 ∧ xi = 0) = false := by simpa using c5
            simp only [g5] at he
            have HV : Hid (V = false) := keepH (by rw [HF.out]; unfold blB; rw [decide_eq_false (by rintro ⟨_, h, _⟩; exact c5 h)]; simp)
            clear c1 c2 c3 c4 c5
            cases set with
            | false =>
              go_wp2_with fail
              go_ret
              exact ⟨by first | rfl | simp [HV.out] | (rw [HV.out]; simp), HB3.out⟩
            | true =>
              go_wp2_with fail
              go_ret
              exact ⟨by first | rfl | simp [HV.out] | (rw [HV.out]; simp), HB3.out⟩
        · have txh : ¬ ((xh : Int) = 0) := by omega
          have uxh : ((xh : Int) == 0) = false := by simpa using txh
          have HV : Hid (V = false) := keepH (by rw [HF.out]; unfold blB; rw [decide_eq_false (by rintro ⟨⟨_, _, _, h, _⟩, _⟩; exact c4 h)]; simp)
          clear c1 c2 c3 c4
          cases set with
          | false =>
            go_wp2_with fail
            go_ret
            exact ⟨by first | rfl | simp [HV.out] | (rw [HV.out]; simp), HB3.out⟩
          | true =>
            go_wp2_with fail
            go_ret
            exact ⟨by first | rfl | simp [HV.out] | (rw [HV.out]; simp), HB3.out⟩
      · have tx3 : ¬ ((x3 : Int) = 0) := by omega
        have ux3 : ((x3 : Int) == 0) = false := by simpa using tx3
        have HV : Hid (V = false) := keepH (by rw [HF.out]; unfold blB; rw [decide_eq_false (by rintro ⟨⟨_, _, h, _⟩, _⟩; exact c3 h)]; simp)
        clear c1 c2 c3
        cases set with
        | false =>
          go_wp2_with fail
          go_ret
          exact ⟨by first | rfl | simp [HV.out] | (rw [HV.out]; simp), HB3.out⟩
        | true =>
          go_wp2_with fail
          go_ret
          exact ⟨by first | rfl | simp [HV.out] | (rw [HV.out]; simp), HB3.out⟩
    · have tx2 : ¬ ((x2 : Int) = 0) := by omega
      have ux2 : ((x2 : Int) == 0) = false := by simpa using tx2
      have HV : Hid (V = false) := keepH (by rw [HF.out]; unfold blB; rw [decide_eq_false (by rintro ⟨⟨_, h, _⟩, _⟩; exact c2 h)]; simp)
      clear c1 c2
      cases set with
      | false =>
        go_wp2_with fail
        go_ret
        exact ⟨by first | rfl | simp [HV.out] | (rw [HV.out]; simp), HB3.out⟩
      | true =>
        go_wp2_with fail
        go_ret
        exact ⟨by first | rfl | simp [HV.out] | (rw [HV.out]; simp), HB3.out⟩
  · have tx1 : ¬ ((x1 : Int) = 0) := by omega
    have ux1 : ((x1 : Int) == 0) = false := by simpa using tx1
    have HV : Hid (V = false) := keepH (by rw [HF.out]; unfold blB; rw [decide_eq_false (by rintro ⟨⟨h, _⟩, _⟩; exact c1 h)]; simp)
    clear c1
    cases set with
    | false =>
      go_wp2_with fail
      go_ret
      exact ⟨by first | rfl | simp [HV.out] | (rw [HV.out]; simp), HB3.out⟩
    | true =>
      go_wp2_with fail
      go_ret
      exact ⟨by first | rfl | simp [HV.out] | (rw [HV.out]; simp), HB3.out⟩
end Go.Proofs.YtmmaniolaljjlaaGreatDoor
