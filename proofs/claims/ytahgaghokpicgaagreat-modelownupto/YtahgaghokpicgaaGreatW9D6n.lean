/- Do of the document's model: a Get. (mkD6n.py) -/
import Derived.Test.YtahgaghokpicgaaGreatW8D6m
namespace Go.Proofs.YtahgaghokpicgaaGreat
open Go.RowKit Go.Maps
set_option linter.unusedVariables false
set_option maxHeartbeats 16000000
set_option linter.unusedSimpArgs false
set_option maxRecDepth 100000 in
theorem d_get {W : World} {m : Nat} {mu : Int} {mv hv : Value} {hs : List (Nat × Value)} (H : RMod W m mu mv hv hs) {g : Nat → Option Nat} {l : List (Nat × Nat)} (hg : RL W mv g l) (hgl : l.length ≤ 4398046510000) {k : Nat} (hk : k < 18446744073709551616) {v od hk9 r6 r7 lo hi hd : Int} {r5 : Bool} {kp : Option Addr} {kn kc : Nat} :
    Calls Tryz.prog 15 #[.pointer (some ⟨m, 0, none⟩), .agg #[.int .u8 1, .int .u64 k, .int .u64 v, .int .u64 od, .int .u64 hk9, .bool r5, .int .i64 r6, .int .i64 r7, .slice kp kn kc, .int .u64 lo, .int .u64 hi], .int .u64 hd] W fun e W' => e = .returned (.agg #[.int .i64 0, .bool (g k).isSome, .int .u64 (((g k).getD 0 : Nat) : Int), .bool false, .int .u64 0, .slice none 0 0, .int .u64 0]) ∧ Chg (fun _ => False) W W' := by
 have HFD := keepH (fun w (hc : Chg (fun _ => False) W w) => r_findL (hg.quiet hc) hgl hk)
 obtain ⟨fv, hfv⟩ : ∃ fv, fv = (g k).getD 0 := ⟨_, rfl⟩
 obtain ⟨fb, hfb⟩ : ∃ fb, fb = (g k).isSome := ⟨_, rfl⟩
 rw [← hfv, ← hfb] at HFD ⊢
 have HFV := keepH hfv
 have HFB := keepH hfb
 have hQ1 : QX W m #[.int .i64 mu, mv, hv] W.heap.size (W.heap.size + 1) #[.int .u8 1, .int .u64 k, .int .u64 v, .int .u64 od, .int .u64 hk9, .bool r5, .int .i64 r6, .int .i64 r7, .slice kp kn kc, .int .u64 lo, .int .u64 hi] #[.int .i64 0, .bool false, .int .u64 0, .bool false, .int .u64 0, .slice none 0 0, .int .u64 0] ((W.alloc (.cells #[.int .u8 1, .int .u64 k, .int .u64 v, .int .u64 od, .int .u64 hk9, .bool r5, .int .i64 r6, .int .i64 r7, .slice kp kn kc, .int .u64 lo, .int .u64 hi] 35)).alloc (.cells #[.int .i64 0, .bool false, .int .u64 0, .bool false, .int .u64 0, .slice none 0 0, .int .u64 0] 39)) := QX.two W H.at_ _ _
 obtain ⟨w1, hw1⟩ : ∃ w1, w1 = (W.alloc (.cells #[.int .u8 1, .int .u64 k, .int .u64 v, .int .u64 od, .int .u64 hk9, .bool r5, .int .i64 r6, .int .i64 r7, .slice kp kn kc, .int .u64 lo, .int .u64 hi] 35)).alloc (.cells #[.int .i64 0, .bool false, .int .u64 0, .bool false, .int .u64 0, .slice none 0 0, .int .u64 0] 39) := ⟨_, rfl⟩
 obtain ⟨P, hP⟩ : ∃ P, P = W.heap.size := ⟨_, rfl⟩
 obtain ⟨R, hR⟩ : ∃ R, R = W.heap.size + 1 := ⟨_, rfl⟩
 rw [← hw1, ← hR, ← hP] at hQ1
 have HQ1 := keepH hQ1
 have HW1 := keepH hw1
 have HP := keepH hP
 have HR := keepH hR
 have HH := keepH H
 have HG := keepH hg
 have HGL := keepH hgl
 have HK := keepH hk
 clear H hg hgl hk hfv hfb hQ1 hw1 hP hR
 go_enter Tryz.func15, Tryz.ntmps15
 go_upto_region 1 with fail
 rw [show (W.alloc (.cells #[.int .u8 1, .int .u64 k, .int .u64 v, .int .u64 od, .int .u64 hk9, .bool r5, .int .i64 r6, .int .i64 r7, .slice kp kn kc, .int .u64 lo, .int .u64 hi] 35)).alloc (.cells #[.int .i64 0, .bool false, .int .u64 0, .bool false, .int .u64 0, .slice none 0 0, .int .u64 0] 39) = w1 from HW1.out.symm, ← HR.out, ← HP.out]
 clear HW1 HP HR
 go_upto_region 3 with fail
 have HS2 : Hid ((fun w => w.heap[m]? = some (.cells #[.int .i64 mu, mv, hv] 105 (0, 0)) ∧ w.heap[P]? = some (.cells #[.int .u8 1, .int .u64 k, .int .u64 v, .int .u64 od, .int .u64 hk9, .bool r5, .int .i64 r6, .int .i64 r7, .slice kp kn kc, .int .u64 lo, .int .u64 hi] 35 (0, 0))) w1.drew) := keepH ⟨HQ1.out.md, HQ1.out.ox⟩
 refine wp_region_held_drew (S := fun w => w.heap[m]? = some (.cells #[.int .i64 mu, mv, hv] 105 (0, 0)) ∧ w.heap[P]? = some (.cells #[.int .u8 1, .int .u64 k, .int .u64 v, .int .u64 od, .int .u64 hk9, .bool r5, .int .i64 r6, .int .i64 r7, .slice kp kn kc, .int .u64 lo, .int .u64 hi] 35 (0, 0))) (by kernel_rfl) (HS2.out) ?_
 intro hHeld
 refine wT (v := ?_) 0 rfl (by rfl) ?_ hHeld ?_
 rotate_left
 ·intro w hSw
  try dsimp only at hSw
  go_simp
  try with_reducible rfl
 try simp only [Act.put, lj]
 refine wT (v := ?_) 1 rfl (by rfl) ?_ hHeld ?_
 rotate_left
 ·intro w hSw
  try dsimp only at hSw
  go_simp
  try with_reducible rfl
 try simp only [Act.put, lj]
 refine wT (v := ?_) 2 rfl (by rfl) ?_ hHeld ?_
 rotate_left
 ·intro w hSw
  try dsimp only at hSw
  go_simp
  try with_reducible rfl
 try simp only [Act.put, lj]
 refine wT (v := ?_) 3 rfl (by rfl) ?_ hHeld ?_
 rotate_left
 ·intro w hSw
  try dsimp only at hSw
  have y1 := cell_of hSw.1 1
  go_simp
  try with_reducible rfl
 try simp only [Act.put, lj]
 refine wT (v := ?_) 4 rfl (by rfl) ?_ hHeld ?_
 rotate_left
 ·intro w hSw
  try dsimp only at hSw
  go_simp
  try with_reducible rfl
 try simp only [Act.put, lj]
 refine wT (v := ?_) 5 rfl (by rfl) ?_ hHeld ?_
 rotate_left
 ·intro w hSw
  try dsimp only at hSw
  have z1 := cell_of hSw.2 1
  go_simp
  try with_reducible rfl
 try simp only [Act.put, lj]
 refine wR 6 rfl (fun KK hKK => ?_)
 go_simp
 refine (HFD.out _ (chgF HQ1.out.ch (chg_dn (Chg.refl _ _) 1))).mono ?_
 rintro e w3 ⟨rfl, hw3⟩
 have HQ3 : Hid (QX W m #[.int .i64 mu, mv, hv] P R #[.int .u8 1, .int .u64 k, .int .u64 v, .int .u64 od, .int .u64 hk9, .bool r5, .int .i64 r6, .int .i64 r7, .slice kp kn kc, .int .u64 lo, .int .u64 hi] #[.int .i64 0, .bool false, .int .u64 0, .bool false, .int .u64 0, .slice none 0 0, .int .u64 0] w3) := keepH (by rw [hw3]; exact HQ1.out.on (chg_dn (Chg.refl _ _) 1))
 clear hw3
 have hcc := And.intro HQ3.out.md HQ3.out.ox
 refine hKK.out _ _ ?_ (fun hHeld => ?_)
 ·exact hcc
 clear hKK KK
 try simp only [Act.put, lj]
 refine wT (v := ?_) 7 rfl (by rfl) ?_ hHeld ?_
 rotate_left
 ·intro w hSw
  try dsimp only at hSw
  go_simp
  try with_reducible rfl
 try simp only [Act.put, lj]
 refine wT (v := ?_) 8 rfl (by rfl) ?_ hHeld ?_
 rotate_left
 ·intro w hSw
  try dsimp only at hSw
  go_simp
  try with_reducible rfl
 try simp only [Act.put, lj]
 refine wT (v := ?_) 9 rfl (by rfl) ?_ hHeld ?_
 rotate_left
 ·intro w hSw
  try dsimp only at hSw
  go_simp
  try with_reducible rfl
 try simp only [Act.put, lj]
 refine wT (v := ?_) 10 rfl (by rfl) ?_ hHeld ?_
 rotate_left
 ·intro w hSw
  try dsimp only at hSw
  go_simp
  try with_reducible rfl
 try simp only [Act.put, lj]
 refine wT (v := ?_) 11 rfl (by rfl) ?_ hHeld ?_
 rotate_left
 ·intro w hSw
  try dsimp only at hSw
  go_simp
  try with_reducible rfl
 try simp only [Act.put, lj]
 refine wpAnyH_done (by kernel_rfl) ?_ _
 go_simp
 clear hHeld HFD HQ1 HS2
 go_upto_region 5 with fail
 obtain ⟨w4, hw4⟩ : ∃ w4, w4 = w3.alloc (.cells #[.int .i64 0, .bool fb, .int .u64 fv, .bool false, .int .u64 0, .slice none 0 0, .int .u64 0] 39) := ⟨_, rfl⟩
 obtain ⟨A, hA⟩ : ∃ A, A = w3.heap.size := ⟨_, rfl⟩
 have HQ4 : Hid (QX W m #[.int .i64 mu, mv, hv] P R #[.int .u8 1, .int .u64 k, .int .u64 v, .int .u64 od, .int .u64 hk9, .bool r5, .int .i64 r6, .int .i64 r7, .slice kp kn kc, .int .u64 lo, .int .u64 hi] #[.int .i64 0, .bool false, .int .u64 0, .bool false, .int .u64 0, .slice none 0 0, .int .u64 0] w4) := keepH (by rw [hw4]; exact HQ3.out.on ((Chg.refl _ _).alloc _))
 have HA : Hid (w4.heap[A]? = some (.cells #[.int .i64 0, .bool fb, .int .u64 fv, .bool false, .int .u64 0, .slice none 0 0, .int .u64 0] 39 (0, 0))) := keepH (by rw [hw4, hA]; exact heap_alloc_new _ _)
 have hAR : A ≠ R := by have := lt_of HQ3.out.ax; omega
 have hAl : W.heap.size ≤ A := by have := HQ3.out.ch.size; omega
 rw [← hw4, ← hA]
 clear hcc HQ3 hw4 hA
 have p0 : w4.cell? ⟨P, 0, none⟩ = _ := cell_of HQ4.out.ox 0
 have a0 : w4.cell? ⟨A, 0, none⟩ = _ := cell_of HA.out 0
 have a1 : w4.cell? ⟨A, 1, none⟩ = _ := cell_of HA.out 1
 have a2 : w4.cell? ⟨A, 2, none⟩ = _ := cell_of HA.out 2
 have a3 : w4.cell? ⟨A, 3, none⟩ = _ := cell_of HA.out 3
 have a4 : w4.cell? ⟨A, 4, none⟩ = _ := cell_of HA.out 4
 have a5 : w4.cell? ⟨A, 5, none⟩ = _ := cell_of HA.out 5
 have a6 : w4.cell? ⟨A, 6, none⟩ = _ := cell_of HA.out 6
 have hC4 : Hid (Chg (fun _ => False) W w4) := keepH HQ4.out.ch
 go_wp2_with (refine wpList_store_mid rfl 39 (.tmp 6) (.tmp 31) rfl R 0 #[.int .i64 0, .bool fb, .int .u64 fv, .bool false, .int .u64 0, .slice none 0 0, .int .u64 0] rfl rfl HQ4.out.there (by kernel_rfl) (by simp [Value.oneCell']) ?_; have HQ5 := keepH (HQ4.out.seven (.int .i64 0) (.bool fb) (.int .u64 fv) (.bool false) (.int .u64 0) (.slice none 0 0) (.int .u64 0)))
 have e0 := cell_of HQ5.out.ax 0
 have e1 := cell_of HQ5.out.ax 1
 have e2 := cell_of HQ5.out.ax 2
 have e3 := cell_of HQ5.out.ax 3
 have e4 := cell_of HQ5.out.ax 4
 have e5 := cell_of HQ5.out.ax 5
 have e6 := cell_of HQ5.out.ax 6
 simp at e0 e1 e2 e3 e4 e5 e6
 go_wp2_with fail
 refine bodyPost_ret (v := .agg #[.int .i64 0, .bool fb, .int .u64 fv, .bool false, .int .u64 0, .slice none 0 0, .int .u64 0]) (by simp [results, Tryz.results15, go_sem, e0, e1, e2, e3, e4, e5, e6]) rfl ?_
 exact ⟨rfl, HQ5.out.ch⟩
end Go.Proofs.YtahgaghokpicgaaGreat
