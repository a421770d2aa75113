/- Do of the document's model: a Swap, a query. (mkD6q.py) -/
import Derived.Test.YtahgaghokpicgaaGreatW11D6p
namespace Go.Proofs.YtahgaghokpicgaaGreat
open Go.RowKit Go.Maps
set_option linter.unusedVariables false
set_option maxHeartbeats 16000000
set_option linter.unusedSimpArgs false
set_option maxRecDepth 100000 in
theorem d_swapno {W : World} {m : Nat} {mu : Int} {mv hv : Value} {hs : List (Nat × Value)} (H : RMod W m mu mv hv hs) {g : Nat → Option Nat} {l : List (Nat × Nat)} (hg : RL W mv g l) (hgl : l.length ≤ 4398046510000) {k : Nat} (hk : k < 18446744073709551616) {v od hk9 r6 r7 lo hi hd : Int} {r5 : Bool} {kp : Option Addr} {kn kc : Nat} (hno : ¬ ((g k).isSome = true ∧ (((g k).getD 0 : Nat) : Int) = od)) :
    Calls Tryz.prog 15 #[.pointer (some ⟨m, 0, none⟩), .agg #[.int .u8 4, .int .u64 k, .int .u64 v, .int .u64 od, .int .u64 hk9, .bool r5, .int .i64 r6, .int .i64 r7, .slice kp kn kc, .int .u64 lo, .int .u64 hi], .int .u64 hd] W (fun e W' => e = .returned (.agg #[.int .i64 0, .bool (g k).isSome, .int .u64 (((g k).getD 0 : Nat) : Int), .bool false, .int .u64 0, .slice none 0 0, .int .u64 0]) ∧ Chg (fun _ => False) W W') := by
 have hlm := lt_of H.at_
 have HFD := keepH (fun w (hc : Chg (fun _ => False) W w) => r_findL (hg.quiet hc) hgl hk)
 obtain ⟨fv, hfv⟩ : ∃ fv, fv = (g k).getD 0 := ⟨_, rfl⟩
 obtain ⟨fb, hfb⟩ : ∃ fb, fb = (g k).isSome := ⟨_, rfl⟩
 rw [← hfv, ← hfb] at HFD ⊢
 rw [← hfv, ← hfb] at hno
 have HFV := keepH hfv
 have HFB := keepH hfb
 have hQ1 : QX W m #[.int .i64 mu, mv, hv] W.heap.size (W.heap.size + 1) #[.int .u8 4, .int .u64 k, .int .u64 v, .int .u64 od, .int .u64 hk9, .bool r5, .int .i64 r6, .int .i64 r7, .slice kp kn kc, .int .u64 lo, .int .u64 hi] #[.int .i64 0, .bool false, .int .u64 0, .bool false, .int .u64 0, .slice none 0 0, .int .u64 0] ((W.alloc (.cells #[.int .u8 4, .int .u64 k, .int .u64 v, .int .u64 od, .int .u64 hk9, .bool r5, .int .i64 r6, .int .i64 r7, .slice kp kn kc, .int .u64 lo, .int .u64 hi] 35)).alloc (.cells #[.int .i64 0, .bool false, .int .u64 0, .bool false, .int .u64 0, .slice none 0 0, .int .u64 0] 39)) := QX.two W H.at_ _ _
 obtain ⟨w1, hw1⟩ : ∃ w1, w1 = (W.alloc (.cells #[.int .u8 4, .int .u64 k, .int .u64 v, .int .u64 od, .int .u64 hk9, .bool r5, .int .i64 r6, .int .i64 r7, .slice kp kn kc, .int .u64 lo, .int .u64 hi] 35)).alloc (.cells #[.int .i64 0, .bool false, .int .u64 0, .bool false, .int .u64 0, .slice none 0 0, .int .u64 0] 39) := ⟨_, rfl⟩
 obtain ⟨P, hP⟩ : ∃ P, P = W.heap.size := ⟨_, rfl⟩
 obtain ⟨R, hR⟩ : ∃ R, R = W.heap.size + 1 := ⟨_, rfl⟩
 rw [← hw1, ← hR, ← hP] at hQ1
 have HQ1 := keepH hQ1
 have HW1 := keepH hw1
 have HP := keepH hP
 have HR := keepH hR
 have HH := keepH H
 have HG := keepH hg
 have HGL := keepH hgl
 have HK := keepH hk
 have hlP : W.heap.size ≤ P := by omega
 clear H hg hgl hk hfv hfb hQ1 hw1 hP hR
 go_enter Tryz.func15, Tryz.ntmps15
 go_upto_region 1 with fail
 rw [show (W.alloc (.cells #[.int .u8 4, .int .u64 k, .int .u64 v, .int .u64 od, .int .u64 hk9, .bool r5, .int .i64 r6, .int .i64 r7, .slice kp kn kc, .int .u64 lo, .int .u64 hi] 35)).alloc (.cells #[.int .i64 0, .bool false, .int .u64 0, .bool false, .int .u64 0, .slice none 0 0, .int .u64 0] 39) = w1 from HW1.out.symm, ← HR.out, ← HP.out]
 clear HW1 HP HR
 go_upto_region 3 with fail
 have HS2 : Hid ((fun w => w.heap[m]? = some (.cells #[.int .i64 mu, mv, hv] 105 (0, 0)) ∧ w.heap[P]? = some (.cells #[.int .u8 4, .int .u64 k, .int .u64 v, .int .u64 od, .int .u64 hk9, .bool r5, .int .i64 r6, .int .i64 r7, .slice kp kn kc, .int .u64 lo, .int .u64 hi] 35 (0, 0))) w1.drew) := keepH ⟨HQ1.out.md, HQ1.out.ox⟩
 refine wp_region_held_drew (S := fun w => w.heap[m]? = some (.cells #[.int .i64 mu, mv, hv] 105 (0, 0)) ∧ w.heap[P]? = some (.cells #[.int .u8 4, .int .u64 k, .int .u64 v, .int .u64 od, .int .u64 hk9, .bool r5, .int .i64 r6, .int .i64 r7, .slice kp kn kc, .int .u64 lo, .int .u64 hi] 35 (0, 0))) (by kernel_rfl) (HS2.out) ?_
 intro hHeld
 refine wT (v := ?_) 0 rfl (by rfl) ?_ hHeld ?_
 rotate_left
 ·intro w hSw
  try dsimp only at hSw
  go_simp
  try with_reducible rfl
 try simp only [Act.put, lj]
 refine wT (v := ?_) 1 rfl (by rfl) ?_ hHeld ?_
 rotate_left
 ·intro w hSw
  try dsimp only at hSw
  go_simp
  try with_reducible rfl
 try simp only [Act.put, lj]
 refine wT (v := ?_) 2 rfl (by rfl) ?_ hHeld ?_
 rotate_left
 ·intro w hSw
  try dsimp only at hSw
  go_simp
  try with_reducible rfl
 try simp only [Act.put, lj]
 refine wT (v := ?_) 3 rfl (by rfl) ?_ hHeld ?_
 rotate_left
 ·intro w hSw
  try dsimp only at hSw
  have y1 := cell_of hSw.1 1
  go_simp
  try with_reducible rfl
 try simp only [Act.put, lj]
 refine wT (v := ?_) 4 rfl (by rfl) ?_ hHeld ?_
 rotate_left
 ·intro w hSw
  try dsimp only at hSw
  go_simp
  try with_reducible rfl
 try simp only [Act.put, lj]
 refine wT (v := ?_) 5 rfl (by rfl) ?_ hHeld ?_
 rotate_left
 ·intro w hSw
  try dsimp only at hSw
  have z1 := cell_of hSw.2 1
  go_simp
  try with_reducible rfl
 try simp only [Act.put, lj]
 refine wR 6 rfl (fun KK hKK => ?_)
 go_simp
 refine (HFD.out _ (chgF HQ1.out.ch (chg_dn (Chg.refl _ _) 1))).mono ?_
 rintro e w3 ⟨rfl, hw3⟩
 have HQ3 : Hid (QX W m #[.int .i64 mu, mv, hv] P R #[.int .u8 4, .int .u64 k, .int .u64 v, .int .u64 od, .int .u64 hk9, .bool r5, .int .i64 r6, .int .i64 r7, .slice kp kn kc, .int .u64 lo, .int .u64 hi] #[.int .i64 0, .bool false, .int .u64 0, .bool false, .int .u64 0, .slice none 0 0, .int .u64 0] w3) := keepH (by rw [hw3]; exact HQ1.out.on (chg_dn (Chg.refl _ _) 1))
 clear hw3
 have hcc := And.intro HQ3.out.md HQ3.out.ox
 refine hKK.out _ _ ?_ (fun hHeld => ?_)
 ·exact hcc
 clear hKK KK
 try simp only [Act.put, lj]
 refine wT (v := ?_) 7 rfl (by rfl) ?_ hHeld ?_
 rotate_left
 ·intro w hSw
  try dsimp only at hSw
  go_simp
  try with_reducible rfl
 try simp only [Act.put, lj]
 refine wT (v := ?_) 8 rfl (by rfl) ?_ hHeld ?_
 rotate_left
 ·intro w hSw
  try dsimp only at hSw
  go_simp
  try with_reducible rfl
 try simp only [Act.put, lj]
 refine wT (v := ?_) 9 rfl (by rfl) ?_ hHeld ?_
 rotate_left
 ·intro w hSw
  try dsimp only at hSw
  go_simp
  try with_reducible rfl
 try simp only [Act.put, lj]
 refine wT (v := ?_) 10 rfl (by rfl) ?_ hHeld ?_
 rotate_left
 ·intro w hSw
  try dsimp only at hSw
  go_simp
  try with_reducible rfl
 try simp only [Act.put, lj]
 refine wT (v := ?_) 11 rfl (by rfl) ?_ hHeld ?_
 rotate_left
 ·intro w hSw
  try dsimp only at hSw
  go_simp
  try with_reducible rfl
 try simp only [Act.put, lj]
 refine wpAnyH_done (by kernel_rfl) ?_ _
 go_simp
 clear hHeld HFD HQ1 HS2
 go_upto_region 5 with fail
 obtain ⟨w4, hw4⟩ : ∃ w4, w4 = w3.alloc (.cells #[.int .i64 0, .bool fb, .int .u64 fv, .bool false, .int .u64 0, .slice none 0 0, .int .u64 0] 39) := ⟨_, rfl⟩
 obtain ⟨A, hA⟩ : ∃ A, A = w3.heap.size := ⟨_, rfl⟩
 have HQ4 : Hid (QX W m #[.int .i64 mu, mv, hv] P R #[.int .u8 4, .int .u64 k, .int .u64 v, .int .u64 od, .int .u64 hk9, .bool r5, .int .i64 r6, .int .i64 r7, .slice kp kn kc, .int .u64 lo, .int .u64 hi] #[.int .i64 0, .bool false, .int .u64 0, .bool false, .int .u64 0, .slice none 0 0, .int .u64 0] w4) := keepH (by rw [hw4]; exact HQ3.out.on ((Chg.refl _ _).alloc _))
 have HA : Hid (w4.heap[A]? = some (.cells #[.int .i64 0, .bool fb, .int .u64 fv, .bool false, .int .u64 0, .slice none 0 0, .int .u64 0] 39 (0, 0))) := keepH (by rw [hw4, hA]; exact heap_alloc_new _ _)
 have hAP : A ≠ P := by have := lt_of HQ3.out.ox; have := HQ3.out.nP; omega
 have hAR : A ≠ R := by have := lt_of HQ3.out.ax; omega
 have hAl : W.heap.size ≤ A := by have := HQ3.out.ch.size; omega
 rw [← hw4, ← hA]
 clear hcc HQ3 hw4 hA
 have p0 : w4.cell? ⟨P, 0, none⟩ = _ := cell_of HQ4.out.ox 0
 have p3 : w4.cell? ⟨P, 3, none⟩ = some (.int .u64 od) := cell_of HQ4.out.ox 3
 go_upto_region 15 with fail
 cases fb with
 | false =>
  have a0 : w4.cell? ⟨A, 0, none⟩ = _ := cell_of HA.out 0
  have a1 : w4.cell? ⟨A, 1, none⟩ = _ := cell_of HA.out 1
  have a2 : w4.cell? ⟨A, 2, none⟩ = _ := cell_of HA.out 2
  have a3 : w4.cell? ⟨A, 3, none⟩ = _ := cell_of HA.out 3
  have a4 : w4.cell? ⟨A, 4, none⟩ = _ := cell_of HA.out 4
  have a5 : w4.cell? ⟨A, 5, none⟩ = _ := cell_of HA.out 5
  have a6 : w4.cell? ⟨A, 6, none⟩ = _ := cell_of HA.out 6
  go_wp2_with (refine wpList_store_mid rfl 39 (.tmp 6) (.tmp 82) rfl R 0 #[.int .i64 0, .bool false, .int .u64 fv, .bool false, .int .u64 0, .slice none 0 0, .int .u64 0] rfl rfl HQ4.out.there (by kernel_rfl) (by first | assumption | simp [Value.oneCell']) ?_; have HQ9 := keepH (HQ4.out.seven (.int .i64 0) (.bool false) (.int .u64 fv) (.bool false) (.int .u64 0) (.slice none 0 0) (.int .u64 0)))
  have e0 := cell_of HQ9.out.ax 0
  have e1 := cell_of HQ9.out.ax 1
  have e2 := cell_of HQ9.out.ax 2
  have e3 := cell_of HQ9.out.ax 3
  have e4 := cell_of HQ9.out.ax 4
  have e5 := cell_of HQ9.out.ax 5
  have e6 := cell_of HQ9.out.ax 6
  simp at e0 e1 e2 e3 e4 e5 e6
  go_wp2_with fail
  refine bodyPost_ret (v := .agg #[.int .i64 0, .bool false, .int .u64 fv, .bool false, .int .u64 0, .slice none 0 0, .int .u64 0]) (by simp [results, Tryz.results15, go_sem, e0, e1, e2, e3, e4, e5, e6]) rfl ?_
  exact ⟨rfl, HQ9.out.ch⟩
 | true =>
  have q3 : decide ((fv : Int) = od) = false := by simp; exact fun e => hno ⟨rfl, e⟩
  have q4 : ¬ ((fv : Int) = od) := fun e => hno ⟨rfl, e⟩
  have a0 : w4.cell? ⟨A, 0, none⟩ = _ := cell_of HA.out 0
  have a1 : w4.cell? ⟨A, 1, none⟩ = _ := cell_of HA.out 1
  have a2 : w4.cell? ⟨A, 2, none⟩ = _ := cell_of HA.out 2
  have a3 : w4.cell? ⟨A, 3, none⟩ = _ := cell_of HA.out 3
  have a4 : w4.cell? ⟨A, 4, none⟩ = _ := cell_of HA.out 4
  have a5 : w4.cell? ⟨A, 5, none⟩ = _ := cell_of HA.out 5
  have a6 : w4.cell? ⟨A, 6, none⟩ = _ := cell_of HA.out 6
  go_wp2_with (refine wpList_store_mid rfl 39 (.tmp 6) (.tmp 82) rfl R 0 #[.int .i64 0, .bool true, .int .u64 fv, .bool false, .int .u64 0, .slice none 0 0, .int .u64 0] rfl rfl HQ4.out.there (by kernel_rfl) (by first | assumption | simp [Value.oneCell']) ?_; have HQ9 := keepH (HQ4.out.seven (.int .i64 0) (.bool true) (.int .u64 fv) (.bool false) (.int .u64 0) (.slice none 0 0) (.int .u64 0)))
  have e0 := cell_of HQ9.out.ax 0
  have e1 := cell_of HQ9.out.ax 1
  have e2 := cell_of HQ9.out.ax 2
  have e3 := cell_of HQ9.out.ax 3
  have e4 := cell_of HQ9.out.ax 4
  have e5 := cell_of HQ9.out.ax 5
  have e6 := cell_of HQ9.out.ax 6
  simp at e0 e1 e2 e3 e4 e5 e6
  go_wp2_with fail
  refine bodyPost_ret (v := .agg #[.int .i64 0, .bool true, .int .u64 fv, .bool false, .int .u64 0, .slice none 0 0, .int .u64 0]) (by simp [results, Tryz.results15, go_sem, e0, e1, e2, e3, e4, e5, e6]) rfl ?_
  exact ⟨rfl, HQ9.out.ch⟩
set_option maxRecDepth 100000 in
theorem d_swap {W : World} {m : Nat} {mu : Int} {mv hv : Value} {hs : List (Nat × Value)} (H : RMod W m mu mv hv hs) {g : Nat → Option Nat} {l : List (Nat × Nat)} (hg : RL W mv g l) (hgl : l.length ≤ 4398046510000) {k : Nat} (hk : k < 18446744073709551616) {x : Nat} (hx : x < 18446744073709551616) {od hk9 r6 r7 lo hi hd : Int} {r5 : Bool} {kp : Option Addr} {kn kc : Nat} (hy1 : (g k).isSome = true) (hy2 : (((g k).getD 0 : Nat) : Int) = od) :
    Calls Tryz.prog 15 #[.pointer (some ⟨m, 0, none⟩), .agg #[.int .u8 4, .int .u64 k, .int .u64 x, .int .u64 od, .int .u64 hk9, .bool r5, .int .i64 r6, .int .i64 r7, .slice kp kn kc, .int .u64 lo, .int .u64 hi], .int .u64 hd] W (Wrote W m mu hv hs #[.int .i64 0, .bool (g k).isSome, .int .u64 (((g k).getD 0 : Nat) : Int), .bool true, .int .u64 0, .slice none 0 0, .int .u64 0] (updO g k (some x)) (withL l k x)) := by
 have hlm := lt_of H.at_
 unfold Wrote
 have HWI := keepH (fun w (hc : Chg (fun _ => False) W w) => r_with (hg.quiet hc) hgl hk hx)
 have HFD := keepH (fun w (hc : Chg (fun _ => False) W w) => r_findL (hg.quiet hc) hgl hk)
 obtain ⟨fv, hfv⟩ : ∃ fv, fv = (g k).getD 0 := ⟨_, rfl⟩
 obtain ⟨fb, hfb⟩ : ∃ fb, fb = (g k).isSome := ⟨_, rfl⟩
 rw [← hfv, ← hfb] at HFD ⊢
 rw [← hfv] at hy2
 rw [← hfb] at hy1
 have HY1 := keepH hy1
 subst hy2
 clear hy1
 have HFV := keepH hfv
 have HFB := keepH hfb
 have hQ1 : QX W m #[.int .i64 mu, mv, hv] W.heap.size (W.heap.size + 1) #[.int .u8 4, .int .u64 k, .int .u64 x, .int .u64 fv, .int .u64 hk9, .bool r5, .int .i64 r6, .int .i64 r7, .slice kp kn kc, .int .u64 lo, .int .u64 hi] #[.int .i64 0, .bool false, .int .u64 0, .bool false, .int .u64 0, .slice none 0 0, .int .u64 0] ((W.alloc (.cells #[.int .u8 4, .int .u64 k, .int .u64 x, .int .u64 fv, .int .u64 hk9, .bool r5, .int .i64 r6, .int .i64 r7, .slice kp kn kc, .int .u64 lo, .int .u64 hi] 35)).alloc (.cells #[.int .i64 0, .bool false, .int .u64 0, .bool false, .int .u64 0, .slice none 0 0, .int .u64 0] 39)) := QX.two W H.at_ _ _
 obtain ⟨w1, hw1⟩ : ∃ w1, w1 = (W.alloc (.cells #[.int .u8 4, .int .u64 k, .int .u64 x, .int .u64 fv, .int .u64 hk9, .bool r5, .int .i64 r6, .int .i64 r7, .slice kp kn kc, .int .u64 lo, .int .u64 hi] 35)).alloc (.cells #[.int .i64 0, .bool false, .int .u64 0, .bool false, .int .u64 0, .slice none 0 0, .int .u64 0] 39) := ⟨_, rfl⟩
 obtain ⟨P, hP⟩ : ∃ P, P = W.heap.size := ⟨_, rfl⟩
 obtain ⟨R, hR⟩ : ∃ R, R = W.heap.size + 1 := ⟨_, rfl⟩
 rw [← hw1, ← hR, ← hP] at hQ1
 have HQ1 := keepH hQ1
 have HW1 := keepH hw1
 have HP := keepH hP
 have HR := keepH hR
 have HH := keepH H
 have HG := keepH hg
 have HGL := keepH hgl
 have HK := keepH hk
 have hlP : W.heap.size ≤ P := by omega
 clear H hg hgl hk hfv hfb hQ1 hw1 hP hR
 go_enter Tryz.func15, Tryz.ntmps15
 go_upto_region 1 with fail
 rw [show (W.alloc (.cells #[.int .u8 4, .int .u64 k, .int .u64 x, .int .u64 fv, .int .u64 hk9, .bool r5, .int .i64 r6, .int .i64 r7, .slice kp kn kc, .int .u64 lo, .int .u64 hi] 35)).alloc (.cells #[.int .i64 0, .bool false, .int .u64 0, .bool false, .int .u64 0, .slice none 0 0, .int .u64 0] 39) = w1 from HW1.out.symm, ← HR.out, ← HP.out]
 clear HW1 HP HR
 go_upto_region 3 with fail
 have HS2 : Hid ((fun w => w.heap[m]? = some (.cells #[.int .i64 mu, mv, hv] 105 (0, 0)) ∧ w.heap[P]? = some (.cells #[.int .u8 4, .int .u64 k, .int .u64 x, .int .u64 fv, .int .u64 hk9, .bool r5, .int .i64 r6, .int .i64 r7, .slice kp kn kc, .int .u64 lo, .int .u64 hi] 35 (0, 0))) w1.drew) := keepH ⟨HQ1.out.md, HQ1.out.ox⟩
 refine wp_region_held_drew (S := fun w => w.heap[m]? = some (.cells #[.int .i64 mu, mv, hv] 105 (0, 0)) ∧ w.heap[P]? = some (.cells #[.int .u8 4, .int .u64 k, .int .u64 x, .int .u64 fv, .int .u64 hk9, .bool r5, .int .i64 r6, .int .i64 r7, .slice kp kn kc, .int .u64 lo, .int .u64 hi] 35 (0, 0))) (by kernel_rfl) (HS2.out) ?_
 intro hHeld
 refine wT (v := ?_) 0 rfl (by rfl) ?_ hHeld ?_
 rotate_left
 ·intro w hSw
  try dsimp only at hSw
  go_simp
  try with_reducible rfl
 try simp only [Act.put, lj]
 refine wT (v := ?_) 1 rfl (by rfl) ?_ hHeld ?_
 rotate_left
 ·intro w hSw
  try dsimp only at hSw
  go_simp
  try with_reducible rfl
 try simp only [Act.put, lj]
 refine wT (v := ?_) 2 rfl (by rfl) ?_ hHeld ?_
 rotate_left
 ·intro w hSw
  try dsimp only at hSw
  go_simp
  try with_reducible rfl
 try simp only [Act.put, lj]
 refine wT (v := ?_) 3 rfl (by rfl) ?_ hHeld ?_
 rotate_left
 ·intro w hSw
  try dsimp only at hSw
  have y1 := cell_of hSw.1 1
  go_simp
  try with_reducible rfl
 try simp only [Act.put, lj]
 refine wT (v := ?_) 4 rfl (by rfl) ?_ hHeld ?_
 rotate_left
 ·intro w hSw
  try dsimp only at hSw
  go_simp
  try with_reducible rfl
 try simp only [Act.put, lj]
 refine wT (v := ?_) 5 rfl (by rfl) ?_ hHeld ?_
 rotate_left
 ·intro w hSw
  try dsimp only at hSw
  have z1 := cell_of hSw.2 1
  go_simp
  try with_reducible rfl
 try simp only [Act.put, lj]
 refine wR 6 rfl (fun KK hKK => ?_)
 go_simp
 refine (HFD.out _ (chgF HQ1.out.ch (chg_dn (Chg.refl _ _) 1))).mono ?_
 rintro e w3 ⟨rfl, hw3⟩
 have HQ3 : Hid (QX W m #[.int .i64 mu, mv, hv] P R #[.int .u8 4, .int .u64 k, .int .u64 x, .int .u64 fv, .int .u64 hk9, .bool r5, .int .i64 r6, .int .i64 r7, .slice kp kn kc, .int .u64 lo, .int .u64 hi] #[.int .i64 0, .bool false, .int .u64 0, .bool false, .int .u64 0, .slice none 0 0, .int .u64 0] w3) := keepH (by rw [hw3]; exact HQ1.out.on (chg_dn (Chg.refl _ _) 1))
 clear hw3
 have hcc := And.intro HQ3.out.md HQ3.out.ox
 refine hKK.out _ _ ?_ (fun hHeld => ?_)
 ·exact hcc
 clear hKK KK
 try simp only [Act.put, lj]
 refine wT (v := ?_) 7 rfl (by rfl) ?_ hHeld ?_
 rotate_left
 ·intro w hSw
  try dsimp only at hSw
  go_simp
  try with_reducible rfl
 try simp only [Act.put, lj]
 refine wT (v := ?_) 8 rfl (by rfl) ?_ hHeld ?_
 rotate_left
 ·intro w hSw
  try dsimp only at hSw
  go_simp
  try with_reducible rfl
 try simp only [Act.put, lj]
 refine wT (v := ?_) 9 rfl (by rfl) ?_ hHeld ?_
 rotate_left
 ·intro w hSw
  try dsimp only at hSw
  go_simp
  try with_reducible rfl
 try simp only [Act.put, lj]
 refine wT (v := ?_) 10 rfl (by rfl) ?_ hHeld ?_
 rotate_left
 ·intro w hSw
  try dsimp only at hSw
  go_simp
  try with_reducible rfl
 try simp only [Act.put, lj]
 refine wT (v := ?_) 11 rfl (by rfl) ?_ hHeld ?_
 rotate_left
 ·intro w hSw
  try dsimp only at hSw
  go_simp
  try with_reducible rfl
 try simp only [Act.put, lj]
 refine wpAnyH_done (by kernel_rfl) ?_ _
 go_simp
 clear hHeld HFD HQ1 HS2
 go_upto_region 5 with fail
 obtain ⟨w4, hw4⟩ : ∃ w4, w4 = w3.alloc (.cells #[.int .i64 0, .bool fb, .int .u64 fv, .bool false, .int .u64 0, .slice none 0 0, .int .u64 0] 39) := ⟨_, rfl⟩
 obtain ⟨A, hA⟩ : ∃ A, A = w3.heap.size := ⟨_, rfl⟩
 have HQ4 : Hid (QX W m #[.int .i64 mu, mv, hv] P R #[.int .u8 4, .int .u64 k, .int .u64 x, .int .u64 fv, .int .u64 hk9, .bool r5, .int .i64 r6, .int .i64 r7, .slice kp kn kc, .int .u64 lo, .int .u64 hi] #[.int .i64 0, .bool false, .int .u64 0, .bool false, .int .u64 0, .slice none 0 0, .int .u64 0] w4) := keepH (by rw [hw4]; exact HQ3.out.on ((Chg.refl _ _).alloc _))
 have HA : Hid (w4.heap[A]? = some (.cells #[.int .i64 0, .bool fb, .int .u64 fv, .bool false, .int .u64 0, .slice none 0 0, .int .u64 0] 39 (0, 0))) := keepH (by rw [hw4, hA]; exact heap_alloc_new _ _)
 have hAP : A ≠ P := by have := lt_of HQ3.out.ox; have := HQ3.out.nP; omega
 have hAR : A ≠ R := by have := lt_of HQ3.out.ax; omega
 have hAl : W.heap.size ≤ A := by have := HQ3.out.ch.size; omega
 rw [← hw4, ← hA]
 clear hcc HQ3 hw4 hA
 have p0 : w4.cell? ⟨P, 0, none⟩ = _ := cell_of HQ4.out.ox 0
 have HL4 := keepH (lt_of HA.out)
 have p3 : w4.cell? ⟨P, 3, none⟩ = some (.int .u64 fv) := cell_of HQ4.out.ox 3
 go_upto_region 15 with fail
 have hy1 := HY1.out
 subst hy1
 go_upto_region 16 with fail
 have HS4 : Hid ((fun w => w.heap[P]? = some (.cells #[.int .u8 4, .int .u64 k, .int .u64 x, .int .u64 fv, .int .u64 hk9, .bool r5, .int .i64 r6, .int .i64 r7, .slice kp kn kc, .int .u64 lo, .int .u64 hi] 35 (0, 0))) w4.drew) := keepH HQ4.out.ox
 refine wp_region_held_drew (S := fun w => w.heap[P]? = some (.cells #[.int .u8 4, .int .u64 k, .int .u64 x, .int .u64 fv, .int .u64 hk9, .bool r5, .int .i64 r6, .int .i64 r7, .slice kp kn kc, .int .u64 lo, .int .u64 hi] 35 (0, 0))) (by kernel_rfl) (HS4.out) ?_
 intro hHeld
 refine wT (v := ?_) 0 rfl (by rfl) ?_ hHeld ?_
 rotate_left
 ·intro w hSw
  try dsimp only at hSw
  go_simp
  try with_reducible rfl
 try simp only [Act.put, lj]
 refine wT (v := ?_) 1 rfl (by rfl) ?_ hHeld ?_
 rotate_left
 ·intro w hSw
  try dsimp only at hSw
  go_simp
  try with_reducible rfl
 try simp only [Act.put, lj]
 refine wT (v := ?_) 2 rfl (by rfl) ?_ hHeld ?_
 rotate_left
 ·intro w hSw
  try dsimp only at hSw
  go_simp
  try with_reducible rfl
 try simp only [Act.put, lj]
 refine wT (v := ?_) 3 rfl (by rfl) ?_ hHeld ?_
 rotate_left
 ·intro w hSw
  try dsimp only at hSw
  go_simp
  try with_reducible rfl
 try simp only [Act.put, lj]
 refine wT (v := ?_) 5 rfl (by rfl) ?_ hHeld ?_
 rotate_left
 ·intro w hSw
  try dsimp only at hSw
  go_simp
  try with_reducible rfl
 try simp only [Act.put, lj]
 refine wT (v := ?_) 6 rfl (by rfl) ?_ hHeld ?_
 rotate_left
 ·intro w hSw
  try dsimp only at hSw
  have z1 := cell_of hSw 1
  go_simp
  try with_reducible rfl
 try simp only [Act.put, lj]
 refine wT (v := ?_) 7 rfl (by rfl) ?_ hHeld ?_
 rotate_left
 ·intro w hSw
  try dsimp only at hSw
  go_simp
  try with_reducible rfl
 try simp only [Act.put, lj]
 refine wT (v := ?_) 8 rfl (by rfl) ?_ hHeld ?_
 rotate_left
 ·intro w hSw
  try dsimp only at hSw
  have z2 := cell_of hSw 2
  go_simp
  try with_reducible rfl
 try simp only [Act.put, lj]
 refine wR 4 rfl (fun KK hKK => ?_)
 have y1 : w4.drew.cell? ⟨m, 1, none⟩ = some mv := cell_of HQ4.out.md 1
 go_simp
 refine hKK.out _ _ ?_ (fun hHeld => ?_)
 ·exact HS4.out
 clear hKK KK
 try simp only [Act.put, lj]
 refine wR 9 rfl (fun KK hKK => ?_)
 go_simp
 refine (HWI.out _ (chgF HQ4.out.ch (chg_dn (Chg.refl _ _) 1))).mono ?_
 rintro e w5 ⟨⟨v5, rfl, hr5, hn5⟩, hc5⟩
 obtain ⟨vp, vc, rfl, -, -⟩ := hr5.row.slice
 obtain ⟨vn, hvn⟩ : ∃ vn, vn = (withL l k x).length := ⟨_, rfl⟩
 rw [← hvn] at hr5 hn5 ⊢
 have HR5 := keepH hr5
 have HN5 := keepH hn5
 have HC5 : Hid (Chg (fun _ => False) w4 w5) := keepH (chgF (chg_dn (Chg.refl _ _) 1) hc5)
 have HQ5 : Hid (QY (fun k => k = m) W m #[.int .i64 mu, mv, hv] P R #[.int .u8 4, .int .u64 k, .int .u64 x, .int .u64 fv, .int .u64 hk9, .bool r5, .int .i64 r6, .int .i64 r7, .slice kp kn kc, .int .u64 lo, .int .u64 hi] #[.int .i64 0, .bool false, .int .u64 0, .bool false, .int .u64 0, .slice none 0 0, .int .u64 0] w5) := keepH ((HQ4.out.on HC5.out).y hlP hlm)
 clear hr5 hn5 hc5 hvn
 refine hKK.out _ _ ?_ (fun hHeld => ?_)
 ·exact HQ5.out.ox
 clear hKK KK
 try simp only [Act.put, lj]
 refine wT (v := ?_) 10 rfl (by rfl) ?_ hHeld ?_
 rotate_left
 ·intro w hSw
  try dsimp only at hSw
  go_simp
  try with_reducible rfl
 try simp only [Act.put, lj]
 refine wT (v := ?_) 11 rfl (by rfl) ?_ hHeld ?_
 rotate_left
 ·intro w hSw
  try dsimp only at hSw
  go_simp
  try with_reducible rfl
 try simp only [Act.put, lj]
 refine wR 12 rfl (fun KK hKK => ?_)
 have x1 : w5.cell? ⟨m, 1, none⟩ = some mv := cell_of HQ5.out.md 1
 have z1 := free_of HQ5.out.md 1
 go_simp
 refine hKK.out _ _ ?_ (fun hHeld => ?_)
 ·exact (HQ5.out.model 1 (.slice vp vn vc)).ox
 clear hKK KK
 try simp only [Act.put, lj]
 refine wpAnyH_done (by kernel_rfl) ?_ _
 go_simp
 clear hHeld
 obtain ⟨w6, hw6⟩ : ∃ w6, w6 = w5.setCell ⟨m, 1, none⟩ (.slice vp vn vc) := ⟨_, rfl⟩
 have HQ6 : Hid (QY (fun k => k = m) W m #[.int .i64 mu, .slice vp vn vc, hv] P R #[.int .u8 4, .int .u64 k, .int .u64 x, .int .u64 fv, .int .u64 hk9, .bool r5, .int .i64 r6, .int .i64 r7, .slice kp kn kc, .int .u64 lo, .int .u64 hi] #[.int .i64 0, .bool false, .int .u64 0, .bool false, .int .u64 0, .slice none 0 0, .int .u64 0] w6) := keepH (by rw [hw6]; exact HQ5.out.model 1 (.slice vp vn vc))
 have HC6 : Hid (Chg (fun k => k = m) w5 w6) := keepH (by rw [hw6]; exact (Chg.refl (fun k => k = m) w5).setCell (p := ⟨m, 1, none⟩) (fun _ => rfl) _)
 have HA6 : Hid (w6.heap[A]? = some (.cells #[.int .i64 0, .bool true, .int .u64 fv, .bool false, .int .u64 0, .slice none 0 0, .int .u64 0] 39 (0, 0))) := keepH (by rw [hw6]; exact other_of ((HC5.out.block A HL4.out (fun x => x)).trans HA.out) (by omega) _)
 rw [← hw6]
 clear hw6
 have a3 : w6.cell? ⟨A, 3, none⟩ = _ := cell_of HA6.out 3
 have z3 := free_of HA6.out 3
 go_upto_region 18 with fail
 obtain ⟨w8, hw8⟩ : ∃ w8, w8 = w6.setCell ⟨A, 3, none⟩ (.bool true) := ⟨_, rfl⟩
 have HQ8 : Hid (QY (fun k => k = m) W m #[.int .i64 mu, .slice vp vn vc, hv] P R #[.int .u8 4, .int .u64 k, .int .u64 x, .int .u64 fv, .int .u64 hk9, .bool r5, .int .i64 r6, .int .i64 r7, .slice kp kn kc, .int .u64 lo, .int .u64 hi] #[.int .i64 0, .bool false, .int .u64 0, .bool false, .int .u64 0, .slice none 0 0, .int .u64 0] w8) := keepH (by rw [hw8]; exact HQ6.out.aside hAl hAR hAP 3 _)
 have HC8 : Hid (Chg (fun k => k = m ∨ k = A) w5 w8) := keepH (by rw [hw8]; exact (show Chg (fun k => k = m ∨ k = A) w5 w6 from HC6.out.mono (fun _ _ x => Or.inl x)).setCell (p := ⟨A, 3, none⟩) (fun _ => Or.inr rfl) _)
 have HA8 : Hid (w8.heap[A]? = some (.cells #[.int .i64 0, .bool true, .int .u64 fv, .bool true, .int .u64 0, .slice none 0 0, .int .u64 0] 39 (0, 0))) := keepH (by rw [hw8]; exact set_of HA6.out 3 (.bool true))
 rw [← hw8]
 clear hw8 a3 z3
 have a0 : w8.cell? ⟨A, 0, none⟩ = _ := cell_of HA8.out 0
 have a1 : w8.cell? ⟨A, 1, none⟩ = _ := cell_of HA8.out 1
 have a2 : w8.cell? ⟨A, 2, none⟩ = _ := cell_of HA8.out 2
 have a3 : w8.cell? ⟨A, 3, none⟩ = _ := cell_of HA8.out 3
 have a4 : w8.cell? ⟨A, 4, none⟩ = _ := cell_of HA8.out 4
 have a5 : w8.cell? ⟨A, 5, none⟩ = _ := cell_of HA8.out 5
 have a6 : w8.cell? ⟨A, 6, none⟩ = _ := cell_of HA8.out 6
 go_wp2_with (refine wpList_store_mid rfl 39 (.tmp 6) (.tmp 82) rfl R 0 #[.int .i64 0, .bool true, .int .u64 fv, .bool true, .int .u64 0, .slice none 0 0, .int .u64 0] rfl rfl HQ8.out.there (by kernel_rfl) (by first | assumption | simp [Value.oneCell']) ?_; have HQ9 := keepH (HQ8.out.seven (.int .i64 0) (.bool true) (.int .u64 fv) (.bool true) (.int .u64 0) (.slice none 0 0) (.int .u64 0)))
 have e0 := cell_of HQ9.out.ax 0
 have e1 := cell_of HQ9.out.ax 1
 have e2 := cell_of HQ9.out.ax 2
 have e3 := cell_of HQ9.out.ax 3
 have e4 := cell_of HQ9.out.ax 4
 have e5 := cell_of HQ9.out.ax 5
 have e6 := cell_of HQ9.out.ax 6
 simp at e0 e1 e2 e3 e4 e5 e6
 go_wp2_with fail
 refine bodyPost_ret (v := .agg #[.int .i64 0, .bool true, .int .u64 fv, .bool true, .int .u64 0, .slice none 0 0, .int .u64 0]) (by simp [results, Tryz.results15, go_sem, e0, e1, e2, e3, e4, e5, e6]) rfl ?_
 refine ⟨rfl, ⟨.slice vp vn vc, ⟨HQ9.out.md, HH.out.row.chg HQ9.out.ch (fun b hb => HH.out.ne b hb)⟩, ?_, fun b hb => ?_⟩, HQ9.out.ch⟩
 ·refine HR5.out.chg (F := fun k => (k = m ∨ k = A) ∨ k = R) ((HC8.out.mono (fun _ _ x => Or.inl x)).trans (chg_seven _ 0) (fun _ _ x => x) (fun _ _ x => Or.inr x)) (fun b hb e => ?_)
  have h1 := HN5.out b hb
  have h2 : R < w4.heap.size := lt_of HQ4.out.ax
  have h3 : w4.heap.size ≤ b := h1
  have h4 := HQ4.out.ch.size
  have h5 := HL4.out
  rcases e with (e | e) | e <;> omega
 ·have h1 : w4.heap.size ≤ b := HN5.out b hb
  have h4 := HQ4.out.ch.size
  omega
set_option maxRecDepth 100000 in
theorem d_query7 {W : World} {m : Nat} {mu : Int} {mv hv : Value} {hs : List (Nat × Value)} (H : RMod W m mu mv hv hs) {g : Nat → Option Nat} {l : List (Nat × Nat)} (hg : RL W mv g l) (hgl : l.length ≤ 4398046510000) {k : Nat} (hk : k < 18446744073709551616) {v od hk9 r6 r7 lo hi hd : Int} {r5 : Bool} {kp : Option Addr} {kn kc : Nat} {Pq : World → Ending → World → Prop} (hq : ∀ w, Chg (fun _ => False) W w → Calls Tryz.prog 46 #[.pointer (some ⟨m, 0, none⟩), .agg #[.int .u8 7, .int .u64 k, .int .u64 v, .int .u64 od, .int .u64 hk9, .bool r5, .int .i64 r6, .int .i64 r7, .slice kp kn kc, .int .u64 lo, .int .u64 hi]] w fun e w' => (∃ x0 x1 x2 x3 x4 x5 x6, e = .returned (.agg #[x0, x1, x2, x3, x4, x5, x6]) ∧ (#[x0, x1, x2, x3, x4, x5, x6] : Array Value).all (·.oneCell') = true) ∧ Pq w e w' ∧ Chg (fun _ => False) w w') :
    Calls Tryz.prog 15 #[.pointer (some ⟨m, 0, none⟩), .agg #[.int .u8 7, .int .u64 k, .int .u64 v, .int .u64 od, .int .u64 hk9, .bool r5, .int .i64 r6, .int .i64 r7, .slice kp kn kc, .int .u64 lo, .int .u64 hi], .int .u64 hd] W (fun e W' => (∃ w1 w2, Chg (fun _ => False) W w1 ∧ Pq w1 e w2 ∧ Chg (fun k => k < w1.heap.size) w2 W') ∧ Chg (fun _ => False) W W') := by
 have hlm := lt_of H.at_
 have HQR := keepH hq
 clear hq
 have HFD := keepH (fun w (hc : Chg (fun _ => False) W w) => r_findL (hg.quiet hc) hgl hk)
 obtain ⟨fv, hfv⟩ : ∃ fv, fv = (g k).getD 0 := ⟨_, rfl⟩
 obtain ⟨fb, hfb⟩ : ∃ fb, fb = (g k).isSome := ⟨_, rfl⟩
 rw [← hfv, ← hfb] at HFD
 have HFV := keepH hfv
 have HFB := keepH hfb
 have hQ1 : QX W m #[.int .i64 mu, mv, hv] W.heap.size (W.heap.size + 1) #[.int .u8 7, .int .u64 k, .int .u64 v, .int .u64 od, .int .u64 hk9, .bool r5, .int .i64 r6, .int .i64 r7, .slice kp kn kc, .int .u64 lo, .int .u64 hi] #[.int .i64 0, .bool false, .int .u64 0, .bool false, .int .u64 0, .slice none 0 0, .int .u64 0] ((W.alloc (.cells #[.int .u8 7, .int .u64 k, .int .u64 v, .int .u64 od, .int .u64 hk9, .bool r5, .int .i64 r6, .int .i64 r7, .slice kp kn kc, .int .u64 lo, .int .u64 hi] 35)).alloc (.cells #[.int .i64 0, .bool false, .int .u64 0, .bool false, .int .u64 0, .slice none 0 0, .int .u64 0] 39)) := QX.two W H.at_ _ _
 obtain ⟨w1, hw1⟩ : ∃ w1, w1 = (W.alloc (.cells #[.int .u8 7, .int .u64 k, .int .u64 v, .int .u64 od, .int .u64 hk9, .bool r5, .int .i64 r6, .int .i64 r7, .slice kp kn kc, .int .u64 lo, .int .u64 hi] 35)).alloc (.cells #[.int .i64 0, .bool false, .int .u64 0, .bool false, .int .u64 0, .slice none 0 0, .int .u64 0] 39) := ⟨_, rfl⟩
 obtain ⟨P, hP⟩ : ∃ P, P = W.heap.size := ⟨_, rfl⟩
 obtain ⟨R, hR⟩ : ∃ R, R = W.heap.size + 1 := ⟨_, rfl⟩
 rw [← hw1, ← hR, ← hP] at hQ1
 have HQ1 := keepH hQ1
 have HW1 := keepH hw1
 have HP := keepH hP
 have HR := keepH hR
 have HH := keepH H
 have HG := keepH hg
 have HGL := keepH hgl
 have HK := keepH hk
 have hlP : W.heap.size ≤ P := by omega
 clear H hg hgl hk hfv hfb hQ1 hw1 hP hR
 go_enter Tryz.func15, Tryz.ntmps15
 go_upto_region 1 with fail
 rw [show (W.alloc (.cells #[.int .u8 7, .int .u64 k, .int .u64 v, .int .u64 od, .int .u64 hk9, .bool r5, .int .i64 r6, .int .i64 r7, .slice kp kn kc, .int .u64 lo, .int .u64 hi] 35)).alloc (.cells #[.int .i64 0, .bool false, .int .u64 0, .bool false, .int .u64 0, .slice none 0 0, .int .u64 0] 39) = w1 from HW1.out.symm, ← HR.out, ← HP.out]
 clear HW1 HP HR
 go_upto_region 3 with fail
 have HS2 : Hid ((fun w => w.heap[m]? = some (.cells #[.int .i64 mu, mv, hv] 105 (0, 0)) ∧ w.heap[P]? = some (.cells #[.int .u8 7, .int .u64 k, .int .u64 v, .int .u64 od, .int .u64 hk9, .bool r5, .int .i64 r6, .int .i64 r7, .slice kp kn kc, .int .u64 lo, .int .u64 hi] 35 (0, 0))) w1.drew) := keepH ⟨HQ1.out.md, HQ1.out.ox⟩
 refine wp_region_held_drew (S := fun w => w.heap[m]? = some (.cells #[.int .i64 mu, mv, hv] 105 (0, 0)) ∧ w.heap[P]? = some (.cells #[.int .u8 7, .int .u64 k, .int .u64 v, .int .u64 od, .int .u64 hk9, .bool r5, .int .i64 r6, .int .i64 r7, .slice kp kn kc, .int .u64 lo, .int .u64 hi] 35 (0, 0))) (by kernel_rfl) (HS2.out) ?_
 intro hHeld
 refine wT (v := ?_) 0 rfl (by rfl) ?_ hHeld ?_
 rotate_left
 ·intro w hSw
  try dsimp only at hSw
  go_simp
  try with_reducible rfl
 try simp only [Act.put, lj]
 refine wT (v := ?_) 1 rfl (by rfl) ?_ hHeld ?_
 rotate_left
 ·intro w hSw
  try dsimp only at hSw
  go_simp
  try with_reducible rfl
 try simp only [Act.put, lj]
 refine wT (v := ?_) 2 rfl (by rfl) ?_ hHeld ?_
 rotate_left
 ·intro w hSw
  try dsimp only at hSw
  go_simp
  try with_reducible rfl
 try simp only [Act.put, lj]
 refine wT (v := ?_) 3 rfl (by rfl) ?_ hHeld ?_
 rotate_left
 ·intro w hSw
  try dsimp only at hSw
  have y1 := cell_of hSw.1 1
  go_simp
  try with_reducible rfl
 try simp only [Act.put, lj]
 refine wT (v := ?_) 4 rfl (by rfl) ?_ hHeld ?_
 rotate_left
 ·intro w hSw
  try dsimp only at hSw
  go_simp
  try with_reducible rfl
 try simp only [Act.put, lj]
 refine wT (v := ?_) 5 rfl (by rfl) ?_ hHeld ?_
 rotate_left
 ·intro w hSw
  try dsimp only at hSw
  have z1 := cell_of hSw.2 1
  go_simp
  try with_reducible rfl
 try simp only [Act.put, lj]
 refine wR 6 rfl (fun KK hKK => ?_)
 go_simp
 refine (HFD.out _ (chgF HQ1.out.ch (chg_dn (Chg.refl _ _) 1))).mono ?_
 rintro e w3 ⟨rfl, hw3⟩
 have HQ3 : Hid (QX W m #[.int .i64 mu, mv, hv] P R #[.int .u8 7, .int .u64 k, .int .u64 v, .int .u64 od, .int .u64 hk9, .bool r5, .int .i64 r6, .int .i64 r7, .slice kp kn kc, .int .u64 lo, .int .u64 hi] #[.int .i64 0, .bool false, .int .u64 0, .bool false, .int .u64 0, .slice none 0 0, .int .u64 0] w3) := keepH (by rw [hw3]; exact HQ1.out.on (chg_dn (Chg.refl _ _) 1))
 clear hw3
 have hcc := And.intro HQ3.out.md HQ3.out.ox
 refine hKK.out _ _ ?_ (fun hHeld => ?_)
 ·exact hcc
 clear hKK KK
 try simp only [Act.put, lj]
 refine wT (v := ?_) 7 rfl (by rfl) ?_ hHeld ?_
 rotate_left
 ·intro w hSw
  try dsimp only at hSw
  go_simp
  try with_reducible rfl
 try simp only [Act.put, lj]
 refine wT (v := ?_) 8 rfl (by rfl) ?_ hHeld ?_
 rotate_left
 ·intro w hSw
  try dsimp only at hSw
  go_simp
  try with_reducible rfl
 try simp only [Act.put, lj]
 refine wT (v := ?_) 9 rfl (by rfl) ?_ hHeld ?_
 rotate_left
 ·intro w hSw
  try dsimp only at hSw
  go_simp
  try with_reducible rfl
 try simp only [Act.put, lj]
 refine wT (v := ?_) 10 rfl (by rfl) ?_ hHeld ?_
 rotate_left
 ·intro w hSw
  try dsimp only at hSw
  go_simp
  try with_reducible rfl
 try simp only [Act.put, lj]
 refine wT (v := ?_) 11 rfl (by rfl) ?_ hHeld ?_
 rotate_left
 ·intro w hSw
  try dsimp only at hSw
  go_simp
  try with_reducible rfl
 try simp only [Act.put, lj]
 refine wpAnyH_done (by kernel_rfl) ?_ _
 go_simp
 clear hHeld HFD HQ1 HS2
 go_upto_region 5 with fail
 obtain ⟨w4, hw4⟩ : ∃ w4, w4 = w3.alloc (.cells #[.int .i64 0, .bool fb, .int .u64 fv, .bool false, .int .u64 0, .slice none 0 0, .int .u64 0] 39) := ⟨_, rfl⟩
 obtain ⟨A, hA⟩ : ∃ A, A = w3.heap.size := ⟨_, rfl⟩
 have HQ4 : Hid (QX W m #[.int .i64 mu, mv, hv] P R #[.int .u8 7, .int .u64 k, .int .u64 v, .int .u64 od, .int .u64 hk9, .bool r5, .int .i64 r6, .int .i64 r7, .slice kp kn kc, .int .u64 lo, .int .u64 hi] #[.int .i64 0, .bool false, .int .u64 0, .bool false, .int .u64 0, .slice none 0 0, .int .u64 0] w4) := keepH (by rw [hw4]; exact HQ3.out.on ((Chg.refl _ _).alloc _))
 have HA : Hid (w4.heap[A]? = some (.cells #[.int .i64 0, .bool fb, .int .u64 fv, .bool false, .int .u64 0, .slice none 0 0, .int .u64 0] 39 (0, 0))) := keepH (by rw [hw4, hA]; exact heap_alloc_new _ _)
 have hAP : A ≠ P := by have := lt_of HQ3.out.ox; have := HQ3.out.nP; omega
 have hAR : A ≠ R := by have := lt_of HQ3.out.ax; omega
 have hAl : W.heap.size ≤ A := by have := HQ3.out.ch.size; omega
 rw [← hw4, ← hA]
 clear hcc HQ3 hw4 hA
 have p0 : w4.cell? ⟨P, 0, none⟩ = _ := cell_of HQ4.out.ox 0
 have p1 : w4.cell? ⟨P, 1, none⟩ = _ := cell_of HQ4.out.ox 1
 have p2 : w4.cell? ⟨P, 2, none⟩ = _ := cell_of HQ4.out.ox 2
 have p3 : w4.cell? ⟨P, 3, none⟩ = _ := cell_of HQ4.out.ox 3
 have p4 : w4.cell? ⟨P, 4, none⟩ = _ := cell_of HQ4.out.ox 4
 have p5 : w4.cell? ⟨P, 5, none⟩ = _ := cell_of HQ4.out.ox 5
 have p6 : w4.cell? ⟨P, 6, none⟩ = _ := cell_of HQ4.out.ox 6
 have p7 : w4.cell? ⟨P, 7, none⟩ = _ := cell_of HQ4.out.ox 7
 have p8 : w4.cell? ⟨P, 8, none⟩ = _ := cell_of HQ4.out.ox 8
 have p9 : w4.cell? ⟨P, 9, none⟩ = _ := cell_of HQ4.out.ox 9
 have p10 : w4.cell? ⟨P, 10, none⟩ = _ := cell_of HQ4.out.ox 10
 go_wp2_with fail
 refine (HQR.out _ HQ4.out.ch).mono ?_
 rintro e w5 ⟨⟨x0, x1, x2, x3, x4, x5, x6, rfl, h1⟩, hp5, hc5⟩
 have HP5 := keepH hp5
 have HQ5 := keepH (HQ4.out.on hc5)
 clear hp5 hc5
 go_wp2_with (refine wpList_store_mid rfl 39 (.tmp 6) (.tmp 117) rfl R 0 #[x0, x1, x2, x3, x4, x5, x6] rfl rfl HQ5.out.there (by kernel_rfl) (by first | assumption | simp [Value.oneCell']) ?_; have HQ9 := keepH (HQ5.out.seven (x0) (x1) (x2) (x3) (x4) (x5) (x6)))
 have e0 := cell_of HQ9.out.ax 0
 have e1 := cell_of HQ9.out.ax 1
 have e2 := cell_of HQ9.out.ax 2
 have e3 := cell_of HQ9.out.ax 3
 have e4 := cell_of HQ9.out.ax 4
 have e5 := cell_of HQ9.out.ax 5
 have e6 := cell_of HQ9.out.ax 6
 simp at e0 e1 e2 e3 e4 e5 e6
 go_wp2_with fail
 refine bodyPost_ret (v := .agg #[x0, x1, x2, x3, x4, x5, x6]) (by simp [results, Tryz.results15, go_sem, e0, e1, e2, e3, e4, e5, e6]) rfl ?_
 exact ⟨⟨_, _, HQ4.out.ch, HP5.out, (chg_seven _ 0).mono (fun b _ e => by have h2 : R < w4.heap.size := lt_of HQ4.out.ax; have e : b = R := e; omega)⟩, HQ9.out.ch⟩
set_option maxRecDepth 100000 in
theorem d_query8 {W : World} {m : Nat} {mu : Int} {mv hv : Value} {hs : List (Nat × Value)} (H : RMod W m mu mv hv hs) {g : Nat → Option Nat} {l : List (Nat × Nat)} (hg : RL W mv g l) (hgl : l.length ≤ 4398046510000) {k : Nat} (hk : k < 18446744073709551616) {v od hk9 r6 r7 lo hi hd : Int} {r5 : Bool} {kp : Option Addr} {kn kc : Nat} {Pq : World → Ending → World → Prop} (hq : ∀ w, Chg (fun _ => False) W w → Calls Tryz.prog 46 #[.pointer (some ⟨m, 0, none⟩), .agg #[.int .u8 8, .int .u64 k, .int .u64 v, .int .u64 od, .int .u64 hk9, .bool r5, .int .i64 r6, .int .i64 r7, .slice kp kn kc, .int .u64 lo, .int .u64 hi]] w fun e w' => (∃ x0 x1 x2 x3 x4 x5 x6, e = .returned (.agg #[x0, x1, x2, x3, x4, x5, x6]) ∧ (#[x0, x1, x2, x3, x4, x5, x6] : Array Value).all (·.oneCell') = true) ∧ Pq w e w' ∧ Chg (fun _ => False) w w') :
    Calls Tryz.prog 15 #[.pointer (some ⟨m, 0, none⟩), .agg #[.int .u8 8, .int .u64 k, .int .u64 v, .int .u64 od, .int .u64 hk9, .bool r5, .int .i64 r6, .int .i64 r7, .slice kp kn kc, .int .u64 lo, .int .u64 hi], .int .u64 hd] W (fun e W' => (∃ w1 w2, Chg (fun _ => False) W w1 ∧ Pq w1 e w2 ∧ Chg (fun k => k < w1.heap.size) w2 W') ∧ Chg (fun _ => False) W W') := by
 have hlm := lt_of H.at_
 have HQR := keepH hq
 clear hq
 have HFD := keepH (fun w (hc : Chg (fun _ => False) W w) => r_findL (hg.quiet hc) hgl hk)
 obtain ⟨fv, hfv⟩ : ∃ fv, fv = (g k).getD 0 := ⟨_, rfl⟩
 obtain ⟨fb, hfb⟩ : ∃ fb, fb = (g k).isSome := ⟨_, rfl⟩
 rw [← hfv, ← hfb] at HFD
 have HFV := keepH hfv
 have HFB := keepH hfb
 have hQ1 : QX W m #[.int .i64 mu, mv, hv] W.heap.size (W.heap.size + 1) #[.int .u8 8, .int .u64 k, .int .u64 v, .int .u64 od, .int .u64 hk9, .bool r5, .int .i64 r6, .int .i64 r7, .slice kp kn kc, .int .u64 lo, .int .u64 hi] #[.int .i64 0, .bool false, .int .u64 0, .bool false, .int .u64 0, .slice none 0 0, .int .u64 0] ((W.alloc (.cells #[.int .u8 8, .int .u64 k, .int .u64 v, .int .u64 od, .int .u64 hk9, .bool r5, .int .i64 r6, .int .i64 r7, .slice kp kn kc, .int .u64 lo, .int .u64 hi] 35)).alloc (.cells #[.int .i64 0, .bool false, .int .u64 0, .bool false, .int .u64 0, .slice none 0 0, .int .u64 0] 39)) := QX.two W H.at_ _ _
 obtain ⟨w1, hw1⟩ : ∃ w1, w1 = (W.alloc (.cells #[.int .u8 8, .int .u64 k, .int .u64 v, .int .u64 od, .int .u64 hk9, .bool r5, .int .i64 r6, .int .i64 r7, .slice kp kn kc, .int .u64 lo, .int .u64 hi] 35)).alloc (.cells #[.int .i64 0, .bool false, .int .u64 0, .bool false, .int .u64 0, .slice none 0 0, .int .u64 0] 39) := ⟨_, rfl⟩
 obtain ⟨P, hP⟩ : ∃ P, P = W.heap.size := ⟨_, rfl⟩
 obtain ⟨R, hR⟩ : ∃ R, R = W.heap.size + 1 := ⟨_, rfl⟩
 rw [← hw1, ← hR, ← hP] at hQ1
 have HQ1 := keepH hQ1
 have HW1 := keepH hw1
 have HP := keepH hP
 have HR := keepH hR
 have HH := keepH H
 have HG := keepH hg
 have HGL := keepH hgl
 have HK := keepH hk
 have hlP : W.heap.size ≤ P := by omega
 clear H hg hgl hk hfv hfb hQ1 hw1 hP hR
 go_enter Tryz.func15, Tryz.ntmps15
 go_upto_region 1 with fail
 rw [show (W.alloc (.cells #[.int .u8 8, .int .u64 k, .int .u64 v, .int .u64 od, .int .u64 hk9, .bool r5, .int .i64 r6, .int .i64 r7, .slice kp kn kc, .int .u64 lo, .int .u64 hi] 35)).alloc (.cells #[.int .i64 0, .bool false, .int .u64 0, .bool false, .int .u64 0, .slice none 0 0, .int .u64 0] 39) = w1 from HW1.out.symm, ← HR.out, ← HP.out]
 clear HW1 HP HR
 go_upto_region 3 with fail
 have HS2 : Hid ((fun w => w.heap[m]? = some (.cells #[.int .i64 mu, mv, hv] 105 (0, 0)) ∧ w.heap[P]? = some (.cells #[.int .u8 8, .int .u64 k, .int .u64 v, .int .u64 od, .int .u64 hk9, .bool r5, .int .i64 r6, .int .i64 r7, .slice kp kn kc, .int .u64 lo, .int .u64 hi] 35 (0, 0))) w1.drew) := keepH ⟨HQ1.out.md, HQ1.out.ox⟩
 refine wp_region_held_drew (S := fun w => w.heap[m]? = some (.cells #[.int .i64 mu, mv, hv] 105 (0, 0)) ∧ w.heap[P]? = some (.cells #[.int .u8 8, .int .u64 k, .int .u64 v, .int .u64 od, .int .u64 hk9, .bool r5, .int .i64 r6, .int .i64 r7, .slice kp kn kc, .int .u64 lo, .int .u64 hi] 35 (0, 0))) (by kernel_rfl) (HS2.out) ?_
 intro hHeld
 refine wT (v := ?_) 0 rfl (by rfl) ?_ hHeld ?_
 rotate_left
 ·intro w hSw
  try dsimp only at hSw
  go_simp
  try with_reducible rfl
 try simp only [Act.put, lj]
 refine wT (v := ?_) 1 rfl (by rfl) ?_ hHeld ?_
 rotate_left
 ·intro w hSw
  try dsimp only at hSw
  go_simp
  try with_reducible rfl
 try simp only [Act.put, lj]
 refine wT (v := ?_) 2 rfl (by rfl) ?_ hHeld ?_
 rotate_left
 ·intro w hSw
  try dsimp only at hSw
  go_simp
  try with_reducible rfl
 try simp only [Act.put, lj]
 refine wT (v := ?_) 3 rfl (by rfl) ?_ hHeld ?_
 rotate_left
 ·intro w hSw
  try dsimp only at hSw
  have y1 := cell_of hSw.1 1
  go_simp
  try with_reducible rfl
 try simp only [Act.put, lj]
 refine wT (v := ?_) 4 rfl (by rfl) ?_ hHeld ?_
 rotate_left
 ·intro w hSw
  try dsimp only at hSw
  go_simp
  try with_reducible rfl
 try simp only [Act.put, lj]
 refine wT (v := ?_) 5 rfl (by rfl) ?_ hHeld ?_
 rotate_left
 ·intro w hSw
  try dsimp only at hSw
  have z1 := cell_of hSw.2 1
  go_simp
  try with_reducible rfl
 try simp only [Act.put, lj]
 refine wR 6 rfl (fun KK hKK => ?_)
 go_simp
 refine (HFD.out _ (chgF HQ1.out.ch (chg_dn (Chg.refl _ _) 1))).mono ?_
 rintro e w3 ⟨rfl, hw3⟩
 have HQ3 : Hid (QX W m #[.int .i64 mu, mv, hv] P R #[.int .u8 8, .int .u64 k, .int .u64 v, .int .u64 od, .int .u64 hk9, .bool r5, .int .i64 r6, .int .i64 r7, .slice kp kn kc, .int .u64 lo, .int .u64 hi] #[.int .i64 0, .bool false, .int .u64 0, .bool false, .int .u64 0, .slice none 0 0, .int .u64 0] w3) := keepH (by rw [hw3]; exact HQ1.out.on (chg_dn (Chg.refl _ _) 1))
 clear hw3
 have hcc := And.intro HQ3.out.md HQ3.out.ox
 refine hKK.out _ _ ?_ (fun hHeld => ?_)
 ·exact hcc
 clear hKK KK
 try simp only [Act.put, lj]
 refine wT (v := ?_) 7 rfl (by rfl) ?_ hHeld ?_
 rotate_left
 ·intro w hSw
  try dsimp only at hSw
  go_simp
  try with_reducible rfl
 try simp only [Act.put, lj]
 refine wT (v := ?_) 8 rfl (by rfl) ?_ hHeld ?_
 rotate_left
 ·intro w hSw
  try dsimp only at hSw
  go_simp
  try with_reducible rfl
 try simp only [Act.put, lj]
 refine wT (v := ?_) 9 rfl (by rfl) ?_ hHeld ?_
 rotate_left
 ·intro w hSw
  try dsimp only at hSw
  go_simp
  try with_reducible rfl
 try simp only [Act.put, lj]
 refine wT (v := ?_) 10 rfl (by rfl) ?_ hHeld ?_
 rotate_left
 ·intro w hSw
  try dsimp only at hSw
  go_simp
  try with_reducible rfl
 try simp only [Act.put, lj]
 refine wT (v := ?_) 11 rfl (by rfl) ?_ hHeld ?_
 rotate_left
 ·intro w hSw
  try dsimp only at hSw
  go_simp
  try with_reducible rfl
 try simp only [Act.put, lj]
 refine wpAnyH_done (by kernel_rfl) ?_ _
 go_simp
 clear hHeld HFD HQ1 HS2
 go_upto_region 5 with fail
 obtain ⟨w4, hw4⟩ : ∃ w4, w4 = w3.alloc (.cells #[.int .i64 0, .bool fb, .int .u64 fv, .bool false, .int .u64 0, .slice none 0 0, .int .u64 0] 39) := ⟨_, rfl⟩
 obtain ⟨A, hA⟩ : ∃ A, A = w3.heap.size := ⟨_, rfl⟩
 have HQ4 : Hid (QX W m #[.int .i64 mu, mv, hv] P R #[.int .u8 8, .int .u64 k, .int .u64 v, .int .u64 od, .int .u64 hk9, .bool r5, .int .i64 r6, .int .i64 r7, .slice kp kn kc, .int .u64 lo, .int .u64 hi] #[.int .i64 0, .bool false, .int .u64 0, .bool false, .int .u64 0, .slice none 0 0, .int .u64 0] w4) := keepH (by rw [hw4]; exact HQ3.out.on ((Chg.refl _ _).alloc _))
 have HA : Hid (w4.heap[A]? = some (.cells #[.int .i64 0, .bool fb, .int .u64 fv, .bool false, .int .u64 0, .slice none 0 0, .int .u64 0] 39 (0, 0))) := keepH (by rw [hw4, hA]; exact heap_alloc_new _ _)
 have hAP : A ≠ P := by have := lt_of HQ3.out.ox; have := HQ3.out.nP; omega
 have hAR : A ≠ R := by have := lt_of HQ3.out.ax; omega
 have hAl : W.heap.size ≤ A := by have := HQ3.out.ch.size; omega
 rw [← hw4, ← hA]
 clear hcc HQ3 hw4 hA
 have p0 : w4.cell? ⟨P, 0, none⟩ = _ := cell_of HQ4.out.ox 0
 have p1 : w4.cell? ⟨P, 1, none⟩ = _ := cell_of HQ4.out.ox 1
 have p2 : w4.cell? ⟨P, 2, none⟩ = _ := cell_of HQ4.out.ox 2
 have p3 : w4.cell? ⟨P, 3, none⟩ = _ := cell_of HQ4.out.ox 3
 have p4 : w4.cell? ⟨P, 4, none⟩ = _ := cell_of HQ4.out.ox 4
 have p5 : w4.cell? ⟨P, 5, none⟩ = _ := cell_of HQ4.out.ox 5
 have p6 : w4.cell? ⟨P, 6, none⟩ = _ := cell_of HQ4.out.ox 6
 have p7 : w4.cell? ⟨P, 7, none⟩ = _ := cell_of HQ4.out.ox 7
 have p8 : w4.cell? ⟨P, 8, none⟩ = _ := cell_of HQ4.out.ox 8
 have p9 : w4.cell? ⟨P, 9, none⟩ = _ := cell_of HQ4.out.ox 9
 have p10 : w4.cell? ⟨P, 10, none⟩ = _ := cell_of HQ4.out.ox 10
 go_wp2_with fail
 refine (HQR.out _ HQ4.out.ch).mono ?_
 rintro e w5 ⟨⟨x0, x1, x2, x3, x4, x5, x6, rfl, h1⟩, hp5, hc5⟩
 have HP5 := keepH hp5
 have HQ5 := keepH (HQ4.out.on hc5)
 clear hp5 hc5
 go_wp2_with (refine wpList_store_mid rfl 39 (.tmp 6) (.tmp 117) rfl R 0 #[x0, x1, x2, x3, x4, x5, x6] rfl rfl HQ5.out.there (by kernel_rfl) (by first | assumption | simp [Value.oneCell']) ?_; have HQ9 := keepH (HQ5.out.seven (x0) (x1) (x2) (x3) (x4) (x5) (x6)))
 have e0 := cell_of HQ9.out.ax 0
 have e1 := cell_of HQ9.out.ax 1
 have e2 := cell_of HQ9.out.ax 2
 have e3 := cell_of HQ9.out.ax 3
 have e4 := cell_of HQ9.out.ax 4
 have e5 := cell_of HQ9.out.ax 5
 have e6 := cell_of HQ9.out.ax 6
 simp at e0 e1 e2 e3 e4 e5 e6
 go_wp2_with fail
 refine bodyPost_ret (v := .agg #[x0, x1, x2, x3, x4, x5, x6]) (by simp [results, Tryz.results15, go_sem, e0, e1, e2, e3, e4, e5, e6]) rfl ?_
 exact ⟨⟨_, _, HQ4.out.ch, HP5.out, (chg_seven _ 0).mono (fun b _ e => by have h2 : R < w4.heap.size := lt_of HQ4.out.ax; have e : b = R := e; omega)⟩, HQ9.out.ch⟩
set_option maxRecDepth 100000 in
theorem d_query9 {W : World} {m : Nat} {mu : Int} {mv hv : Value} {hs : List (Nat × Value)} (H : RMod W m mu mv hv hs) {g : Nat → Option Nat} {l : List (Nat × Nat)} (hg : RL W mv g l) (hgl : l.length ≤ 4398046510000) {k : Nat} (hk : k < 18446744073709551616) {v od hk9 r6 r7 lo hi hd : Int} {r5 : Bool} {kp : Option Addr} {kn kc : Nat} {Pq : World → Ending → World → Prop} (hq : ∀ w, Chg (fun _ => False) W w → Calls Tryz.prog 46 #[.pointer (some ⟨m, 0, none⟩), .agg #[.int .u8 9, .int .u64 k, .int .u64 v, .int .u64 od, .int .u64 hk9, .bool r5, .int .i64 r6, .int .i64 r7, .slice kp kn kc, .int .u64 lo, .int .u64 hi]] w fun e w' => (∃ x0 x1 x2 x3 x4 x5 x6, e = .returned (.agg #[x0, x1, x2, x3, x4, x5, x6]) ∧ (#[x0, x1, x2, x3, x4, x5, x6] : Array Value).all (·.oneCell') = true) ∧ Pq w e w' ∧ Chg (fun _ => False) w w') :
    Calls Tryz.prog 15 #[.pointer (some ⟨m, 0, none⟩), .agg #[.int .u8 9, .int .u64 k, .int .u64 v, .int .u64 od, .int .u64 hk9, .bool r5, .int .i64 r6, .int .i64 r7, .slice kp kn kc, .int .u64 lo, .int .u64 hi], .int .u64 hd] W (fun e W' => (∃ w1 w2, Chg (fun _ => False) W w1 ∧ Pq w1 e w2 ∧ Chg (fun k => k < w1.heap.size) w2 W') ∧ Chg (fun _ => False) W W') := by
 have hlm := lt_of H.at_
 have HQR := keepH hq
 clear hq
 have HFD := keepH (fun w (hc : Chg (fun _ => False) W w) => r_findL (hg.quiet hc) hgl hk)
 obtain ⟨fv, hfv⟩ : ∃ fv, fv = (g k).getD 0 := ⟨_, rfl⟩
 obtain ⟨fb, hfb⟩ : ∃ fb, fb = (g k).isSome := ⟨_, rfl⟩
 rw [← hfv, ← hfb] at HFD
 have HFV := keepH hfv
 have HFB := keepH hfb
 have hQ1 : QX W m #[.int .i64 mu, mv, hv] W.heap.size (W.heap.size + 1) #[.int .u8 9, .int .u64 k, .int .u64 v, .int .u64 od, .int .u64 hk9, .bool r5, .int .i64 r6, .int .i64 r7, .slice kp kn kc, .int .u64 lo, .int .u64 hi] #[.int .i64 0, .bool false, .int .u64 0, .bool false, .int .u64 0, .slice none 0 0, .int .u64 0] ((W.alloc (.cells #[.int .u8 9, .int .u64 k, .int .u64 v, .int .u64 od, .int .u64 hk9, .bool r5, .int .i64 r6, .int .i64 r7, .slice kp kn kc, .int .u64 lo, .int .u64 hi] 35)).alloc (.cells #[.int .i64 0, .bool false, .int .u64 0, .bool false, .int .u64 0, .slice none 0 0, .int .u64 0] 39)) := QX.two W H.at_ _ _
 obtain ⟨w1, hw1⟩ : ∃ w1, w1 = (W.alloc (.cells #[.int .u8 9, .int .u64 k, .int .u64 v, .int .u64 od, .int .u64 hk9, .bool r5, .int .i64 r6, .int .i64 r7, .slice kp kn kc, .int .u64 lo, .int .u64 hi] 35)).alloc (.cells #[.int .i64 0, .bool false, .int .u64 0, .bool false, .int .u64 0, .slice none 0 0, .int .u64 0] 39) := ⟨_, rfl⟩
 obtain ⟨P, hP⟩ : ∃ P, P = W.heap.size := ⟨_, rfl⟩
 obtain ⟨R, hR⟩ : ∃ R, R = W.heap.size + 1 := ⟨_, rfl⟩
 rw [← hw1, ← hR, ← hP] at hQ1
 have HQ1 := keepH hQ1
 have HW1 := keepH hw1
 have HP := keepH hP
 have HR := keepH hR
 have HH := keepH H
 have HG := keepH hg
 have HGL := keepH hgl
 have HK := keepH hk
 have hlP : W.heap.size ≤ P := by omega
 clear H hg hgl hk hfv hfb hQ1 hw1 hP hR
 go_enter Tryz.func15, Tryz.ntmps15
 go_upto_region 1 with fail
 rw [show (W.alloc (.cells #[.int .u8 9, .int .u64 k, .int .u64 v, .int .u64 od, .int .u64 hk9, .bool r5, .int .i64 r6, .int .i64 r7, .slice kp kn kc, .int .u64 lo, .int .u64 hi] 35)).alloc (.cells #[.int .i64 0, .bool false, .int .u64 0, .bool false, .int .u64 0, .slice none 0 0, .int .u64 0] 39) = w1 from HW1.out.symm, ← HR.out, ← HP.out]
 clear HW1 HP HR
 go_upto_region 3 with fail
 have HS2 : Hid ((fun w => w.heap[m]? = some (.cells #[.int .i64 mu, mv, hv] 105 (0, 0)) ∧ w.heap[P]? = some (.cells #[.int .u8 9, .int .u64 k, .int .u64 v, .int .u64 od, .int .u64 hk9, .bool r5, .int .i64 r6, .int .i64 r7, .slice kp kn kc, .int .u64 lo, .int .u64 hi] 35 (0, 0))) w1.drew) := keepH ⟨HQ1.out.md, HQ1.out.ox⟩
 refine wp_region_held_drew (S := fun w => w.heap[m]? = some (.cells #[.int .i64 mu, mv, hv] 105 (0, 0)) ∧ w.heap[P]? = some (.cells #[.int .u8 9, .int .u64 k, .int .u64 v, .int .u64 od, .int .u64 hk9, .bool r5, .int .i64 r6, .int .i64 r7, .slice kp kn kc, .int .u64 lo, .int .u64 hi] 35 (0, 0))) (by kernel_rfl) (HS2.out) ?_
 intro hHeld
 refine wT (v := ?_) 0 rfl (by rfl) ?_ hHeld ?_
 rotate_left
 ·intro w hSw
  try dsimp only at hSw
  go_simp
  try with_reducible rfl
 try simp only [Act.put, lj]
 refine wT (v := ?_) 1 rfl (by rfl) ?_ hHeld ?_
 rotate_left
 ·intro w hSw
  try dsimp only at hSw
  go_simp
  try with_reducible rfl
 try simp only [Act.put, lj]
 refine wT (v := ?_) 2 rfl (by rfl) ?_ hHeld ?_
 rotate_left
 ·intro w hSw
  try dsimp only at hSw
  go_simp
  try with_reducible rfl
 try simp only [Act.put, lj]
 refine wT (v := ?_) 3 rfl (by rfl) ?_ hHeld ?_
 rotate_left
 ·intro w hSw
  try dsimp only at hSw
  have y1 := cell_of hSw.1 1
  go_simp
  try with_reducible rfl
 try simp only [Act.put, lj]
 refine wT (v := ?_) 4 rfl (by rfl) ?_ hHeld ?_
 rotate_left
 ·intro w hSw
  try dsimp only at hSw
  go_simp
  try with_reducible rfl
 try simp only [Act.put, lj]
 refine wT (v := ?_) 5 rfl (by rfl) ?_ hHeld ?_
 rotate_left
 ·intro w hSw
  try dsimp only at hSw
  have z1 := cell_of hSw.2 1
  go_simp
  try with_reducible rfl
 try simp only [Act.put, lj]
 refine wR 6 rfl (fun KK hKK => ?_)
 go_simp
 refine (HFD.out _ (chgF HQ1.out.ch (chg_dn (Chg.refl _ _) 1))).mono ?_
 rintro e w3 ⟨rfl, hw3⟩
 have HQ3 : Hid (QX W m #[.int .i64 mu, mv, hv] P R #[.int .u8 9, .int .u64 k, .int .u64 v, .int .u64 od, .int .u64 hk9, .bool r5, .int .i64 r6, .int .i64 r7, .slice kp kn kc, .int .u64 lo, .int .u64 hi] #[.int .i64 0, .bool false, .int .u64 0, .bool false, .int .u64 0, .slice none 0 0, .int .u64 0] w3) := keepH (by rw [hw3]; exact HQ1.out.on (chg_dn (Chg.refl _ _) 1))
 clear hw3
 have hcc := And.intro HQ3.out.md HQ3.out.ox
 refine hKK.out _ _ ?_ (fun hHeld => ?_)
 ·exact hcc
 clear hKK KK
 try simp only [Act.put, lj]
 refine wT (v := ?_) 7 rfl (by rfl) ?_ hHeld ?_
 rotate_left
 ·intro w hSw
  try dsimp only at hSw
  go_simp
  try with_reducible rfl
 try simp only [Act.put, lj]
 refine wT (v := ?_) 8 rfl (by rfl) ?_ hHeld ?_
 rotate_left
 ·intro w hSw
  try dsimp only at hSw
  go_simp
  try with_reducible rfl
 try simp only [Act.put, lj]
 refine wT (v := ?_) 9 rfl (by rfl) ?_ hHeld ?_
 rotate_left
 ·intro w hSw
  try dsimp only at hSw
  go_simp
  try with_reducible rfl
 try simp only [Act.put, lj]
 refine wT (v := ?_) 10 rfl (by rfl) ?_ hHeld ?_
 rotate_left
 ·intro w hSw
  try dsimp only at hSw
  go_simp
  try with_reducible rfl
 try simp only [Act.put, lj]
 refine wT (v := ?_) 11 rfl (by rfl) ?_ hHeld ?_
 rotate_left
 ·intro w hSw
  try dsimp only at hSw
  go_simp
  try with_reducible rfl
 try simp only [Act.put, lj]
 refine wpAnyH_done (by kernel_rfl) ?_ _
 go_simp
 clear hHeld HFD HQ1 HS2
 go_upto_region 5 with fail
 obtain ⟨w4, hw4⟩ : ∃ w4, w4 = w3.alloc (.cells #[.int .i64 0, .bool fb, .int .u64 fv, .bool false, .int .u64 0, .slice none 0 0, .int .u64 0] 39) := ⟨_, rfl⟩
 obtain ⟨A, hA⟩ : ∃ A, A = w3.heap.size := ⟨_, rfl⟩
 have HQ4 : Hid (QX W m #[.int .i64 mu, mv, hv] P R #[.int .u8 9, .int .u64 k, .int .u64 v, .int .u64 od, .int .u64 hk9, .bool r5, .int .i64 r6, .int .i64 r7, .slice kp kn kc, .int .u64 lo, .int .u64 hi] #[.int .i64 0, .bool false, .int .u64 0, .bool false, .int .u64 0, .slice none 0 0, .int .u64 0] w4) := keepH (by rw [hw4]; exact HQ3.out.on ((Chg.refl _ _).alloc _))
 have HA : Hid (w4.heap[A]? = some (.cells #[.int .i64 0, .bool fb, .int .u64 fv, .bool false, .int .u64 0, .slice none 0 0, .int .u64 0] 39 (0, 0))) := keepH (by rw [hw4, hA]; exact heap_alloc_new _ _)
 have hAP : A ≠ P := by have := lt_of HQ3.out.ox; have := HQ3.out.nP; omega
 have hAR : A ≠ R := by have := lt_of HQ3.out.ax; omega
 have hAl : W.heap.size ≤ A := by have := HQ3.out.ch.size; omega
 rw [← hw4, ← hA]
 clear hcc HQ3 hw4 hA
 have p0 : w4.cell? ⟨P, 0, none⟩ = _ := cell_of HQ4.out.ox 0
 have p1 : w4.cell? ⟨P, 1, none⟩ = _ := cell_of HQ4.out.ox 1
 have p2 : w4.cell? ⟨P, 2, none⟩ = _ := cell_of HQ4.out.ox 2
 have p3 : w4.cell? ⟨P, 3, none⟩ = _ := cell_of HQ4.out.ox 3
 have p4 : w4.cell? ⟨P, 4, none⟩ = _ := cell_of HQ4.out.ox 4
 have p5 : w4.cell? ⟨P, 5, none⟩ = _ := cell_of HQ4.out.ox 5
 have p6 : w4.cell? ⟨P, 6, none⟩ = _ := cell_of HQ4.out.ox 6
 have p7 : w4.cell? ⟨P, 7, none⟩ = _ := cell_of HQ4.out.ox 7
 have p8 : w4.cell? ⟨P, 8, none⟩ = _ := cell_of HQ4.out.ox 8
 have p9 : w4.cell? ⟨P, 9, none⟩ = _ := cell_of HQ4.out.ox 9
 have p10 : w4.cell? ⟨P, 10, none⟩ = _ := cell_of HQ4.out.ox 10
 go_wp2_with fail
 refine (HQR.out _ HQ4.out.ch).mono ?_
 rintro e w5 ⟨⟨x0, x1, x2, x3, x4, x5, x6, rfl, h1⟩, hp5, hc5⟩
 have HP5 := keepH hp5
 have HQ5 := keepH (HQ4.out.on hc5)
 clear hp5 hc5
 go_wp2_with (refine wpList_store_mid rfl 39 (.tmp 6) (.tmp 117) rfl R 0 #[x0, x1, x2, x3, x4, x5, x6] rfl rfl HQ5.out.there (by kernel_rfl) (by first | assumption | simp [Value.oneCell']) ?_; have HQ9 := keepH (HQ5.out.seven (x0) (x1) (x2) (x3) (x4) (x5) (x6)))
 have e0 := cell_of HQ9.out.ax 0
 have e1 := cell_of HQ9.out.ax 1
 have e2 := cell_of HQ9.out.ax 2
 have e3 := cell_of HQ9.out.ax 3
 have e4 := cell_of HQ9.out.ax 4
 have e5 := cell_of HQ9.out.ax 5
 have e6 := cell_of HQ9.out.ax 6
 simp at e0 e1 e2 e3 e4 e5 e6
 go_wp2_with fail
 refine bodyPost_ret (v := .agg #[x0, x1, x2, x3, x4, x5, x6]) (by simp [results, Tryz.results15, go_sem, e0, e1, e2, e3, e4, e5, e6]) rfl ?_
 exact ⟨⟨_, _, HQ4.out.ch, HP5.out, (chg_seven _ 0).mono (fun b _ e => by have h2 : R < w4.heap.size := lt_of HQ4.out.ax; have e : b = R := e; omega)⟩, HQ9.out.ch⟩
end Go.Proofs.YtahgaghokpicgaaGreat
