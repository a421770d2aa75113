/- Do of the document's model: a Collect, a Snapshot, a Release. (mkD6p.py) -/
import Derived.Test.YtahgaghokpicgaaGreatW10D6o
namespace Go.Proofs.YtahgaghokpicgaaGreat
open Go.RowKit Go.Maps
set_option linter.unusedVariables false
set_option maxHeartbeats 16000000
set_option linter.unusedSimpArgs false
theorem QY.hrow {F : Nat → Prop} {W : World} {m : Nat} {mr : Array Value} {P R : Nat} {row ar : Array Value} {wr : World} (h : QY F W m mr P R row ar wr) {hv : Value} {hs : List (Nat × Value)} (hr : HRow wr 0 hv hs) : ∀ b, hv.ownBlock = some b → b ≠ R := by
 intro b hb e
 subst e
 rcases hr.1.2 with ⟨e, _⟩ | ⟨g, cap, cur, e, _, hg, _⟩
 ·rw [e] at hb; cases hb
 ·rw [e] at hb
  injection hb with hb
  subst hb
  rw [h.ax] at hg
  injection hg with hg
  injection hg with _ hg
  exact absurd hg (by decide)
theorem QY.fresh {W : World} {m : Nat} {mr mr2 : Array Value} {P R : Nat} {row ar : Array Value} {wr X : World} (h : QY (fun k => k = m) W m mr P R row ar wr) (c : Chg (fun k => k = m) wr X) (hm : X.heap[m]? = some (.cells mr2 105 (0, 0))) : QY (fun k => k = m) W m mr2 P R row ar X :=
 ⟨hm, (c.block P (lt_of h.ox) (by have := h.lP; have := h.lm; intro e; have e : P = m := e; omega)).trans h.ox, (c.block R (lt_of h.ax) (by have := h.lR; have := h.lm; intro e; have e : R = m := e; omega)).trans h.ax, h.ch.trans c (fun _ _ x => x) (fun _ _ x => x), h.lR, h.lP, h.lm, h.nP⟩
set_option maxRecDepth 100000 in
theorem d_collect {W : World} {m : Nat} {mu : Int} {mv hv : Value} {hs : List (Nat × Value)} (H : RMod W m mu mv hv hs) {g : Nat → Option Nat} {l : List (Nat × Nat)} (hg : RL W mv g l) (hgl : l.length ≤ 4398046510000) {k : Nat} (hk : k < 18446744073709551616) {hd : Int} {hk9 : Int} {v od r6 r7 lo hi : Int} {r5 : Bool} {kp : Option Addr} {kn kc : Nat} :
    Calls Tryz.prog 15 #[.pointer (some ⟨m, 0, none⟩), .agg #[.int .u8 10, .int .u64 k, .int .u64 v, .int .u64 od, .int .u64 hk9, .bool r5, .int .i64 r6, .int .i64 r7, .slice kp kn kc, .int .u64 lo, .int .u64 hi], .int .u64 hd] W (fun e W' => e = .returned (.agg #[.int .i64 0, .bool false, .int .u64 0, .bool false, .int .u64 0, .slice none 0 0, .int .u64 0]) ∧ Chg (fun _ => False) W W') := by
 have hlm := lt_of H.at_
 have HFD := keepH (fun w (hc : Chg (fun _ => False) W w) => r_findL (hg.quiet hc) hgl hk)
 obtain ⟨fv, hfv⟩ : ∃ fv, fv = (g k).getD 0 := ⟨_, rfl⟩
 obtain ⟨fb, hfb⟩ : ∃ fb, fb = (g k).isSome := ⟨_, rfl⟩
 rw [← hfv, ← hfb] at HFD
 have HFV := keepH hfv
 have HFB := keepH hfb
 have hQ1 : QX W m #[.int .i64 mu, mv, hv] W.heap.size (W.heap.size + 1) #[.int .u8 10, .int .u64 k, .int .u64 v, .int .u64 od, .int .u64 hk9, .bool r5, .int .i64 r6, .int .i64 r7, .slice kp kn kc, .int .u64 lo, .int .u64 hi] #[.int .i64 0, .bool false, .int .u64 0, .bool false, .int .u64 0, .slice none 0 0, .int .u64 0] ((W.alloc (.cells #[.int .u8 10, .int .u64 k, .int .u64 v, .int .u64 od, .int .u64 hk9, .bool r5, .int .i64 r6, .int .i64 r7, .slice kp kn kc, .int .u64 lo, .int .u64 hi] 35)).alloc (.cells #[.int .i64 0, .bool false, .int .u64 0, .bool false, .int .u64 0, .slice none 0 0, .int .u64 0] 39)) := QX.two W H.at_ _ _
 obtain ⟨w1, hw1⟩ : ∃ w1, w1 = (W.alloc (.cells #[.int .u8 10, .int .u64 k, .int .u64 v, .int .u64 od, .int .u64 hk9, .bool r5, .int .i64 r6, .int .i64 r7, .slice kp kn kc, .int .u64 lo, .int .u64 hi] 35)).alloc (.cells #[.int .i64 0, .bool false, .int .u64 0, .bool false, .int .u64 0, .slice none 0 0, .int .u64 0] 39) := ⟨_, rfl⟩
 obtain ⟨P, hP⟩ : ∃ P, P = W.heap.size := ⟨_, rfl⟩
 obtain ⟨R, hR⟩ : ∃ R, R = W.heap.size + 1 := ⟨_, rfl⟩
 rw [← hw1, ← hR, ← hP] at hQ1
 have HQ1 := keepH hQ1
 have HW1 := keepH hw1
 have HP := keepH hP
 have HR := keepH hR
 have HH := keepH H
 have HG := keepH hg
 have HGL := keepH hgl
 have HK := keepH hk
 have hlP : W.heap.size ≤ P := by omega
 clear H hg hgl hk hfv hfb hQ1 hw1 hP hR
 go_enter Tryz.func15, Tryz.ntmps15
 go_upto_region 1 with fail
 rw [show (W.alloc (.cells #[.int .u8 10, .int .u64 k, .int .u64 v, .int .u64 od, .int .u64 hk9, .bool r5, .int .i64 r6, .int .i64 r7, .slice kp kn kc, .int .u64 lo, .int .u64 hi] 35)).alloc (.cells #[.int .i64 0, .bool false, .int .u64 0, .bool false, .int .u64 0, .slice none 0 0, .int .u64 0] 39) = w1 from HW1.out.symm, ← HR.out, ← HP.out]
 clear HW1 HP HR
 go_upto_region 3 with fail
 have HS2 : Hid ((fun w => w.heap[m]? = some (.cells #[.int .i64 mu, mv, hv] 105 (0, 0)) ∧ w.heap[P]? = some (.cells #[.int .u8 10, .int .u64 k, .int .u64 v, .int .u64 od, .int .u64 hk9, .bool r5, .int .i64 r6, .int .i64 r7, .slice kp kn kc, .int .u64 lo, .int .u64 hi] 35 (0, 0))) w1.drew) := keepH ⟨HQ1.out.md, HQ1.out.ox⟩
 refine wp_region_held_drew (S := fun w => w.heap[m]? = some (.cells #[.int .i64 mu, mv, hv] 105 (0, 0)) ∧ w.heap[P]? = some (.cells #[.int .u8 10, .int .u64 k, .int .u64 v, .int .u64 od, .int .u64 hk9, .bool r5, .int .i64 r6, .int .i64 r7, .slice kp kn kc, .int .u64 lo, .int .u64 hi] 35 (0, 0))) (by kernel_rfl) (HS2.out) ?_
 intro hHeld
 refine wT (v := ?_) 0 rfl (by rfl) ?_ hHeld ?_
 rotate_left
 ·intro w hSw
  try dsimp only at hSw
  go_simp
  try with_reducible rfl
 try simp only [Act.put, lj]
 refine wT (v := ?_) 1 rfl (by rfl) ?_ hHeld ?_
 rotate_left
 ·intro w hSw
  try dsimp only at hSw
  go_simp
  try with_reducible rfl
 try simp only [Act.put, lj]
 refine wT (v := ?_) 2 rfl (by rfl) ?_ hHeld ?_
 rotate_left
 ·intro w hSw
  try dsimp only at hSw
  go_simp
  try with_reducible rfl
 try simp only [Act.put, lj]
 refine wT (v := ?_) 3 rfl (by rfl) ?_ hHeld ?_
 rotate_left
 ·intro w hSw
  try dsimp only at hSw
  have y1 := cell_of hSw.1 1
  go_simp
  try with_reducible rfl
 try simp only [Act.put, lj]
 refine wT (v := ?_) 4 rfl (by rfl) ?_ hHeld ?_
 rotate_left
 ·intro w hSw
  try dsimp only at hSw
  go_simp
  try with_reducible rfl
 try simp only [Act.put, lj]
 refine wT (v := ?_) 5 rfl (by rfl) ?_ hHeld ?_
 rotate_left
 ·intro w hSw
  try dsimp only at hSw
  have z1 := cell_of hSw.2 1
  go_simp
  try with_reducible rfl
 try simp only [Act.put, lj]
 refine wR 6 rfl (fun KK hKK => ?_)
 go_simp
 refine (HFD.out _ (chgF HQ1.out.ch (chg_dn (Chg.refl _ _) 1))).mono ?_
 rintro e w3 ⟨rfl, hw3⟩
 have HQ3 : Hid (QX W m #[.int .i64 mu, mv, hv] P R #[.int .u8 10, .int .u64 k, .int .u64 v, .int .u64 od, .int .u64 hk9, .bool r5, .int .i64 r6, .int .i64 r7, .slice kp kn kc, .int .u64 lo, .int .u64 hi] #[.int .i64 0, .bool false, .int .u64 0, .bool false, .int .u64 0, .slice none 0 0, .int .u64 0] w3) := keepH (by rw [hw3]; exact HQ1.out.on (chg_dn (Chg.refl _ _) 1))
 clear hw3
 have hcc := And.intro HQ3.out.md HQ3.out.ox
 refine hKK.out _ _ ?_ (fun hHeld => ?_)
 ·exact hcc
 clear hKK KK
 try simp only [Act.put, lj]
 refine wT (v := ?_) 7 rfl (by rfl) ?_ hHeld ?_
 rotate_left
 ·intro w hSw
  try dsimp only at hSw
  go_simp
  try with_reducible rfl
 try simp only [Act.put, lj]
 refine wT (v := ?_) 8 rfl (by rfl) ?_ hHeld ?_
 rotate_left
 ·intro w hSw
  try dsimp only at hSw
  go_simp
  try with_reducible rfl
 try simp only [Act.put, lj]
 refine wT (v := ?_) 9 rfl (by rfl) ?_ hHeld ?_
 rotate_left
 ·intro w hSw
  try dsimp only at hSw
  go_simp
  try with_reducible rfl
 try simp only [Act.put, lj]
 refine wT (v := ?_) 10 rfl (by rfl) ?_ hHeld ?_
 rotate_left
 ·intro w hSw
  try dsimp only at hSw
  go_simp
  try with_reducible rfl
 try simp only [Act.put, lj]
 refine wT (v := ?_) 11 rfl (by rfl) ?_ hHeld ?_
 rotate_left
 ·intro w hSw
  try dsimp only at hSw
  go_simp
  try with_reducible rfl
 try simp only [Act.put, lj]
 refine wpAnyH_done (by kernel_rfl) ?_ _
 go_simp
 clear hHeld HFD HQ1 HS2
 go_upto_region 5 with fail
 obtain ⟨w4, hw4⟩ : ∃ w4, w4 = w3.alloc (.cells #[.int .i64 0, .bool fb, .int .u64 fv, .bool false, .int .u64 0, .slice none 0 0, .int .u64 0] 39) := ⟨_, rfl⟩
 obtain ⟨A, hA⟩ : ∃ A, A = w3.heap.size := ⟨_, rfl⟩
 have HQ4 : Hid (QX W m #[.int .i64 mu, mv, hv] P R #[.int .u8 10, .int .u64 k, .int .u64 v, .int .u64 od, .int .u64 hk9, .bool r5, .int .i64 r6, .int .i64 r7, .slice kp kn kc, .int .u64 lo, .int .u64 hi] #[.int .i64 0, .bool false, .int .u64 0, .bool false, .int .u64 0, .slice none 0 0, .int .u64 0] w4) := keepH (by rw [hw4]; exact HQ3.out.on ((Chg.refl _ _).alloc _))
 have HA : Hid (w4.heap[A]? = some (.cells #[.int .i64 0, .bool fb, .int .u64 fv, .bool false, .int .u64 0, .slice none 0 0, .int .u64 0] 39 (0, 0))) := keepH (by rw [hw4, hA]; exact heap_alloc_new _ _)
 have hAR : A ≠ R := by have := lt_of HQ3.out.ax; omega
 have hAl : W.heap.size ≤ A := by have := HQ3.out.ch.size; omega
 rw [← hw4, ← hA]
 clear hcc HQ3 hw4 hA
 have p0 : w4.cell? ⟨P, 0, none⟩ = _ := cell_of HQ4.out.ox 0
 go_wp2_with (refine wpList_store_mid rfl 39 (.tmp 6) (.tmp 120) rfl R 0 #[.int .i64 0, .bool false, .int .u64 0, .bool false, .int .u64 0, .slice none 0 0, .int .u64 0] rfl rfl HQ4.out.there (by kernel_rfl) (by simp [Value.oneCell']) ?_; have HQ9 := keepH (HQ4.out.seven (.int .i64 0) (.bool false) (.int .u64 0) (.bool false) (.int .u64 0) (.slice none 0 0) (.int .u64 0)))
 have e0 := cell_of HQ9.out.ax 0
 have e1 := cell_of HQ9.out.ax 1
 have e2 := cell_of HQ9.out.ax 2
 have e3 := cell_of HQ9.out.ax 3
 have e4 := cell_of HQ9.out.ax 4
 have e5 := cell_of HQ9.out.ax 5
 have e6 := cell_of HQ9.out.ax 6
 simp at e0 e1 e2 e3 e4 e5 e6
 go_wp2_with fail
 refine bodyPost_ret (v := .agg #[.int .i64 0, .bool false, .int .u64 0, .bool false, .int .u64 0, .slice none 0 0, .int .u64 0]) (by simp [results, Tryz.results15, go_sem, e0, e1, e2, e3, e4, e5, e6]) rfl ?_
 exact ⟨rfl, HQ9.out.ch⟩
set_option maxRecDepth 100000 in
theorem d_snap0 {W : World} {m : Nat} {mu : Int} {mv hv : Value} {hs : List (Nat × Value)} (H : RMod W m mu mv hv hs) {g : Nat → Option Nat} {l : List (Nat × Nat)} (hg : RL W mv g l) (hgl : l.length ≤ 4398046510000) {k : Nat} (hk : k < 18446744073709551616) {hk9 : Int} {v od r6 r7 lo hi : Int} {r5 : Bool} {kp : Option Addr} {kn kc : Nat} :
    Calls Tryz.prog 15 #[.pointer (some ⟨m, 0, none⟩), .agg #[.int .u8 5, .int .u64 k, .int .u64 v, .int .u64 od, .int .u64 hk9, .bool r5, .int .i64 r6, .int .i64 r7, .slice kp kn kc, .int .u64 lo, .int .u64 hi], .int .u64 0] W (fun e W' => e = .returned (.agg #[.int .i64 0, .bool false, .int .u64 0, .bool false, .int .u64 0, .slice none 0 0, .int .u64 0]) ∧ Chg (fun _ => False) W W') := by
 have hlm := lt_of H.at_
 have HFD := keepH (fun w (hc : Chg (fun _ => False) W w) => r_findL (hg.quiet hc) hgl hk)
 obtain ⟨fv, hfv⟩ : ∃ fv, fv = (g k).getD 0 := ⟨_, rfl⟩
 obtain ⟨fb, hfb⟩ : ∃ fb, fb = (g k).isSome := ⟨_, rfl⟩
 rw [← hfv, ← hfb] at HFD
 have HFV := keepH hfv
 have HFB := keepH hfb
 have hQ1 : QX W m #[.int .i64 mu, mv, hv] W.heap.size (W.heap.size + 1) #[.int .u8 5, .int .u64 k, .int .u64 v, .int .u64 od, .int .u64 hk9, .bool r5, .int .i64 r6, .int .i64 r7, .slice kp kn kc, .int .u64 lo, .int .u64 hi] #[.int .i64 0, .bool false, .int .u64 0, .bool false, .int .u64 0, .slice none 0 0, .int .u64 0] ((W.alloc (.cells #[.int .u8 5, .int .u64 k, .int .u64 v, .int .u64 od, .int .u64 hk9, .bool r5, .int .i64 r6, .int .i64 r7, .slice kp kn kc, .int .u64 lo, .int .u64 hi] 35)).alloc (.cells #[.int .i64 0, .bool false, .int .u64 0, .bool false, .int .u64 0, .slice none 0 0, .int .u64 0] 39)) := QX.two W H.at_ _ _
 obtain ⟨w1, hw1⟩ : ∃ w1, w1 = (W.alloc (.cells #[.int .u8 5, .int .u64 k, .int .u64 v, .int .u64 od, .int .u64 hk9, .bool r5, .int .i64 r6, .int .i64 r7, .slice kp kn kc, .int .u64 lo, .int .u64 hi] 35)).alloc (.cells #[.int .i64 0, .bool false, .int .u64 0, .bool false, .int .u64 0, .slice none 0 0, .int .u64 0] 39) := ⟨_, rfl⟩
 obtain ⟨P, hP⟩ : ∃ P, P = W.heap.size := ⟨_, rfl⟩
 obtain ⟨R, hR⟩ : ∃ R, R = W.heap.size + 1 := ⟨_, rfl⟩
 rw [← hw1, ← hR, ← hP] at hQ1
 have HQ1 := keepH hQ1
 have HW1 := keepH hw1
 have HP := keepH hP
 have HR := keepH hR
 have HH := keepH H
 have HG := keepH hg
 have HGL := keepH hgl
 have HK := keepH hk
 have hlP : W.heap.size ≤ P := by omega
 clear H hg hgl hk hfv hfb hQ1 hw1 hP hR
 go_enter Tryz.func15, Tryz.ntmps15
 go_upto_region 1 with fail
 rw [show (W.alloc (.cells #[.int .u8 5, .int .u64 k, .int .u64 v, .int .u64 od, .int .u64 hk9, .bool r5, .int .i64 r6, .int .i64 r7, .slice kp kn kc, .int .u64 lo, .int .u64 hi] 35)).alloc (.cells #[.int .i64 0, .bool false, .int .u64 0, .bool false, .int .u64 0, .slice none 0 0, .int .u64 0] 39) = w1 from HW1.out.symm, ← HR.out, ← HP.out]
 clear HW1 HP HR
 go_upto_region 3 with fail
 have HS2 : Hid ((fun w => w.heap[m]? = some (.cells #[.int .i64 mu, mv, hv] 105 (0, 0)) ∧ w.heap[P]? = some (.cells #[.int .u8 5, .int .u64 k, .int .u64 v, .int .u64 od, .int .u64 hk9, .bool r5, .int .i64 r6, .int .i64 r7, .slice kp kn kc, .int .u64 lo, .int .u64 hi] 35 (0, 0))) w1.drew) := keepH ⟨HQ1.out.md, HQ1.out.ox⟩
 refine wp_region_held_drew (S := fun w => w.heap[m]? = some (.cells #[.int .i64 mu, mv, hv] 105 (0, 0)) ∧ w.heap[P]? = some (.cells #[.int .u8 5, .int .u64 k, .int .u64 v, .int .u64 od, .int .u64 hk9, .bool r5, .int .i64 r6, .int .i64 r7, .slice kp kn kc, .int .u64 lo, .int .u64 hi] 35 (0, 0))) (by kernel_rfl) (HS2.out) ?_
 intro hHeld
 refine wT (v := ?_) 0 rfl (by rfl) ?_ hHeld ?_
 rotate_left
 ·intro w hSw
  try dsimp only at hSw
  go_simp
  try with_reducible rfl
 try simp only [Act.put, lj]
 refine wT (v := ?_) 1 rfl (by rfl) ?_ hHeld ?_
 rotate_left
 ·intro w hSw
  try dsimp only at hSw
  go_simp
  try with_reducible rfl
 try simp only [Act.put, lj]
 refine wT (v := ?_) 2 rfl (by rfl) ?_ hHeld ?_
 rotate_left
 ·intro w hSw
  try dsimp only at hSw
  go_simp
  try with_reducible rfl
 try simp only [Act.put, lj]
 refine wT (v := ?_) 3 rfl (by rfl) ?_ hHeld ?_
 rotate_left
 ·intro w hSw
  try dsimp only at hSw
  have y1 := cell_of hSw.1 1
  go_simp
  try with_reducible rfl
 try simp only [Act.put, lj]
 refine wT (v := ?_) 4 rfl (by rfl) ?_ hHeld ?_
 rotate_left
 ·intro w hSw
  try dsimp only at hSw
  go_simp
  try with_reducible rfl
 try simp only [Act.put, lj]
 refine wT (v := ?_) 5 rfl (by rfl) ?_ hHeld ?_
 rotate_left
 ·intro w hSw
  try dsimp only at hSw
  have z1 := cell_of hSw.2 1
  go_simp
  try with_reducible rfl
 try simp only [Act.put, lj]
 refine wR 6 rfl (fun KK hKK => ?_)
 go_simp
 refine (HFD.out _ (chgF HQ1.out.ch (chg_dn (Chg.refl _ _) 1))).mono ?_
 rintro e w3 ⟨rfl, hw3⟩
 have HQ3 : Hid (QX W m #[.int .i64 mu, mv, hv] P R #[.int .u8 5, .int .u64 k, .int .u64 v, .int .u64 od, .int .u64 hk9, .bool r5, .int .i64 r6, .int .i64 r7, .slice kp kn kc, .int .u64 lo, .int .u64 hi] #[.int .i64 0, .bool false, .int .u64 0, .bool false, .int .u64 0, .slice none 0 0, .int .u64 0] w3) := keepH (by rw [hw3]; exact HQ1.out.on (chg_dn (Chg.refl _ _) 1))
 clear hw3
 have hcc := And.intro HQ3.out.md HQ3.out.ox
 refine hKK.out _ _ ?_ (fun hHeld => ?_)
 ·exact hcc
 clear hKK KK
 try simp only [Act.put, lj]
 refine wT (v := ?_) 7 rfl (by rfl) ?_ hHeld ?_
 rotate_left
 ·intro w hSw
  try dsimp only at hSw
  go_simp
  try with_reducible rfl
 try simp only [Act.put, lj]
 refine wT (v := ?_) 8 rfl (by rfl) ?_ hHeld ?_
 rotate_left
 ·intro w hSw
  try dsimp only at hSw
  go_simp
  try with_reducible rfl
 try simp only [Act.put, lj]
 refine wT (v := ?_) 9 rfl (by rfl) ?_ hHeld ?_
 rotate_left
 ·intro w hSw
  try dsimp only at hSw
  go_simp
  try with_reducible rfl
 try simp only [Act.put, lj]
 refine wT (v := ?_) 10 rfl (by rfl) ?_ hHeld ?_
 rotate_left
 ·intro w hSw
  try dsimp only at hSw
  go_simp
  try with_reducible rfl
 try simp only [Act.put, lj]
 refine wT (v := ?_) 11 rfl (by rfl) ?_ hHeld ?_
 rotate_left
 ·intro w hSw
  try dsimp only at hSw
  go_simp
  try with_reducible rfl
 try simp only [Act.put, lj]
 refine wpAnyH_done (by kernel_rfl) ?_ _
 go_simp
 clear hHeld HFD HQ1 HS2
 go_upto_region 5 with fail
 obtain ⟨w4, hw4⟩ : ∃ w4, w4 = w3.alloc (.cells #[.int .i64 0, .bool fb, .int .u64 fv, .bool false, .int .u64 0, .slice none 0 0, .int .u64 0] 39) := ⟨_, rfl⟩
 obtain ⟨A, hA⟩ : ∃ A, A = w3.heap.size := ⟨_, rfl⟩
 have HQ4 : Hid (QX W m #[.int .i64 mu, mv, hv] P R #[.int .u8 5, .int .u64 k, .int .u64 v, .int .u64 od, .int .u64 hk9, .bool r5, .int .i64 r6, .int .i64 r7, .slice kp kn kc, .int .u64 lo, .int .u64 hi] #[.int .i64 0, .bool false, .int .u64 0, .bool false, .int .u64 0, .slice none 0 0, .int .u64 0] w4) := keepH (by rw [hw4]; exact HQ3.out.on ((Chg.refl _ _).alloc _))
 have HA : Hid (w4.heap[A]? = some (.cells #[.int .i64 0, .bool fb, .int .u64 fv, .bool false, .int .u64 0, .slice none 0 0, .int .u64 0] 39 (0, 0))) := keepH (by rw [hw4, hA]; exact heap_alloc_new _ _)
 have hAR : A ≠ R := by have := lt_of HQ3.out.ax; omega
 have hAl : W.heap.size ≤ A := by have := HQ3.out.ch.size; omega
 rw [← hw4, ← hA]
 clear hcc HQ3 hw4 hA
 have p0 : w4.cell? ⟨P, 0, none⟩ = _ := cell_of HQ4.out.ox 0
 go_wp2_with (refine wpList_store_mid rfl 39 (.tmp 6) (.tmp 87) rfl R 0 #[.int .i64 0, .bool false, .int .u64 0, .bool false, .int .u64 0, .slice none 0 0, .int .u64 0] rfl rfl HQ4.out.there (by kernel_rfl) (by simp [Value.oneCell']) ?_; have HQ9 := keepH (HQ4.out.seven (.int .i64 0) (.bool false) (.int .u64 0) (.bool false) (.int .u64 0) (.slice none 0 0) (.int .u64 0)))
 have e0 := cell_of HQ9.out.ax 0
 have e1 := cell_of HQ9.out.ax 1
 have e2 := cell_of HQ9.out.ax 2
 have e3 := cell_of HQ9.out.ax 3
 have e4 := cell_of HQ9.out.ax 4
 have e5 := cell_of HQ9.out.ax 5
 have e6 := cell_of HQ9.out.ax 6
 simp at e0 e1 e2 e3 e4 e5 e6
 go_wp2_with fail
 refine bodyPost_ret (v := .agg #[.int .i64 0, .bool false, .int .u64 0, .bool false, .int .u64 0, .slice none 0 0, .int .u64 0]) (by simp [results, Tryz.results15, go_sem, e0, e1, e2, e3, e4, e5, e6]) rfl ?_
 exact ⟨rfl, HQ9.out.ch⟩
set_option maxRecDepth 100000 in
theorem d_snapfull {W : World} {m : Nat} {mu : Int} {mv hv : Value} {hs : List (Nat × Value)} (H : RMod W m mu mv hv hs) {g : Nat → Option Nat} {l : List (Nat × Nat)} (hg : RL W mv g l) (hgl : l.length ≤ 4398046510000) {k : Nat} (hk : k < 18446744073709551616) (hl : hs.length ≤ 4000000) {hd i : Nat} (hd0 : hd ≠ 0) (hpl : placeI hs hd = (i : Int)) {hk9 : Int} {v od r6 r7 lo hi : Int} {r5 : Bool} {kp : Option Addr} {kn kc : Nat} :
    Calls Tryz.prog 15 #[.pointer (some ⟨m, 0, none⟩), .agg #[.int .u8 5, .int .u64 k, .int .u64 v, .int .u64 od, .int .u64 hk9, .bool r5, .int .i64 r6, .int .i64 r7, .slice kp kn kc, .int .u64 lo, .int .u64 hi], .int .u64 hd] W (fun e W' => e = .returned (.agg #[.int .i64 32, .bool false, .int .u64 0, .bool false, .int .u64 0, .slice none 0 0, .int .u64 0]) ∧ Chg (fun _ => False) W W') := by
 have HPL := keepH (fun w (hc : Chg (fun _ => False) W w) => r_placeM (H.quiet hc) hl hd)
 rw [hpl] at HPL
 clear hpl hl
 have q1 : decide ((hd : Int) = 0) = false := by simp; exact hd0
 have q2 : decide ((0 : Int) ≤ (i : Int)) = true := by simp
 have hlm := lt_of H.at_
 have HFD := keepH (fun w (hc : Chg (fun _ => False) W w) => r_findL (hg.quiet hc) hgl hk)
 obtain ⟨fv, hfv⟩ : ∃ fv, fv = (g k).getD 0 := ⟨_, rfl⟩
 obtain ⟨fb, hfb⟩ : ∃ fb, fb = (g k).isSome := ⟨_, rfl⟩
 rw [← hfv, ← hfb] at HFD
 have HFV := keepH hfv
 have HFB := keepH hfb
 have hQ1 : QX W m #[.int .i64 mu, mv, hv] W.heap.size (W.heap.size + 1) #[.int .u8 5, .int .u64 k, .int .u64 v, .int .u64 od, .int .u64 hk9, .bool r5, .int .i64 r6, .int .i64 r7, .slice kp kn kc, .int .u64 lo, .int .u64 hi] #[.int .i64 0, .bool false, .int .u64 0, .bool false, .int .u64 0, .slice none 0 0, .int .u64 0] ((W.alloc (.cells #[.int .u8 5, .int .u64 k, .int .u64 v, .int .u64 od, .int .u64 hk9, .bool r5, .int .i64 r6, .int .i64 r7, .slice kp kn kc, .int .u64 lo, .int .u64 hi] 35)).alloc (.cells #[.int .i64 0, .bool false, .int .u64 0, .bool false, .int .u64 0, .slice none 0 0, .int .u64 0] 39)) := QX.two W H.at_ _ _
 obtain ⟨w1, hw1⟩ : ∃ w1, w1 = (W.alloc (.cells #[.int .u8 5, .int .u64 k, .int .u64 v, .int .u64 od, .int .u64 hk9, .bool r5, .int .i64 r6, .int .i64 r7, .slice kp kn kc, .int .u64 lo, .int .u64 hi] 35)).alloc (.cells #[.int .i64 0, .bool false, .int .u64 0, .bool false, .int .u64 0, .slice none 0 0, .int .u64 0] 39) := ⟨_, rfl⟩
 obtain ⟨P, hP⟩ : ∃ P, P = W.heap.size := ⟨_, rfl⟩
 obtain ⟨R, hR⟩ : ∃ R, R = W.heap.size + 1 := ⟨_, rfl⟩
 rw [← hw1, ← hR, ← hP] at hQ1
 have HQ1 := keepH hQ1
 have HW1 := keepH hw1
 have HP := keepH hP
 have HR := keepH hR
 have HH := keepH H
 have HG := keepH hg
 have HGL := keepH hgl
 have HK := keepH hk
 have hlP : W.heap.size ≤ P := by omega
 clear H hg hgl hk hfv hfb hQ1 hw1 hP hR
 go_enter Tryz.func15, Tryz.ntmps15
 go_upto_region 1 with fail
 rw [show (W.alloc (.cells #[.int .u8 5, .int .u64 k, .int .u64 v, .int .u64 od, .int .u64 hk9, .bool r5, .int .i64 r6, .int .i64 r7, .slice kp kn kc, .int .u64 lo, .int .u64 hi] 35)).alloc (.cells #[.int .i64 0, .bool false, .int .u64 0, .bool false, .int .u64 0, .slice none 0 0, .int .u64 0] 39) = w1 from HW1.out.symm, ← HR.out, ← HP.out]
 clear HW1 HP HR
 go_upto_region 3 with fail
 have HS2 : Hid ((fun w => w.heap[m]? = some (.cells #[.int .i64 mu, mv, hv] 105 (0, 0)) ∧ w.heap[P]? = some (.cells #[.int .u8 5, .int .u64 k, .int .u64 v, .int .u64 od, .int .u64 hk9, .bool r5, .int .i64 r6, .int .i64 r7, .slice kp kn kc, .int .u64 lo, .int .u64 hi] 35 (0, 0))) w1.drew) := keepH ⟨HQ1.out.md, HQ1.out.ox⟩
 refine wp_region_held_drew (S := fun w => w.heap[m]? = some (.cells #[.int .i64 mu, mv, hv] 105 (0, 0)) ∧ w.heap[P]? = some (.cells #[.int .u8 5, .int .u64 k, .int .u64 v, .int .u64 od, .int .u64 hk9, .bool r5, .int .i64 r6, .int .i64 r7, .slice kp kn kc, .int .u64 lo, .int .u64 hi] 35 (0, 0))) (by kernel_rfl) (HS2.out) ?_
 intro hHeld
 refine wT (v := ?_) 0 rfl (by rfl) ?_ hHeld ?_
 rotate_left
 ·intro w hSw
  try dsimp only at hSw
  go_simp
  try with_reducible rfl
 try simp only [Act.put, lj]
 refine wT (v := ?_) 1 rfl (by rfl) ?_ hHeld ?_
 rotate_left
 ·intro w hSw
  try dsimp only at hSw
  go_simp
  try with_reducible rfl
 try simp only [Act.put, lj]
 refine wT (v := ?_) 2 rfl (by rfl) ?_ hHeld ?_
 rotate_left
 ·intro w hSw
  try dsimp only at hSw
  go_simp
  try with_reducible rfl
 try simp only [Act.put, lj]
 refine wT (v := ?_) 3 rfl (by rfl) ?_ hHeld ?_
 rotate_left
 ·intro w hSw
  try dsimp only at hSw
  have y1 := cell_of hSw.1 1
  go_simp
  try with_reducible rfl
 try simp only [Act.put, lj]
 refine wT (v := ?_) 4 rfl (by rfl) ?_ hHeld ?_
 rotate_left
 ·intro w hSw
  try dsimp only at hSw
  go_simp
  try with_reducible rfl
 try simp only [Act.put, lj]
 refine wT (v := ?_) 5 rfl (by rfl) ?_ hHeld ?_
 rotate_left
 ·intro w hSw
  try dsimp only at hSw
  have z1 := cell_of hSw.2 1
  go_simp
  try with_reducible rfl
 try simp only [Act.put, lj]
 refine wR 6 rfl (fun KK hKK => ?_)
 go_simp
 refine (HFD.out _ (chgF HQ1.out.ch (chg_dn (Chg.refl _ _) 1))).mono ?_
 rintro e w3 ⟨rfl, hw3⟩
 have HQ3 : Hid (QX W m #[.int .i64 mu, mv, hv] P R #[.int .u8 5, .int .u64 k, .int .u64 v, .int .u64 od, .int .u64 hk9, .bool r5, .int .i64 r6, .int .i64 r7, .slice kp kn kc, .int .u64 lo, .int .u64 hi] #[.int .i64 0, .bool false, .int .u64 0, .bool false, .int .u64 0, .slice none 0 0, .int .u64 0] w3) := keepH (by rw [hw3]; exact HQ1.out.on (chg_dn (Chg.refl _ _) 1))
 clear hw3
 have hcc := And.intro HQ3.out.md HQ3.out.ox
 refine hKK.out _ _ ?_ (fun hHeld => ?_)
 ·exact hcc
 clear hKK KK
 try simp only [Act.put, lj]
 refine wT (v := ?_) 7 rfl (by rfl) ?_ hHeld ?_
 rotate_left
 ·intro w hSw
  try dsimp only at hSw
  go_simp
  try with_reducible rfl
 try simp only [Act.put, lj]
 refine wT (v := ?_) 8 rfl (by rfl) ?_ hHeld ?_
 rotate_left
 ·intro w hSw
  try dsimp only at hSw
  go_simp
  try with_reducible rfl
 try simp only [Act.put, lj]
 refine wT (v := ?_) 9 rfl (by rfl) ?_ hHeld ?_
 rotate_left
 ·intro w hSw
  try dsimp only at hSw
  go_simp
  try with_reducible rfl
 try simp only [Act.put, lj]
 refine wT (v := ?_) 10 rfl (by rfl) ?_ hHeld ?_
 rotate_left
 ·intro w hSw
  try dsimp only at hSw
  go_simp
  try with_reducible rfl
 try simp only [Act.put, lj]
 refine wT (v := ?_) 11 rfl (by rfl) ?_ hHeld ?_
 rotate_left
 ·intro w hSw
  try dsimp only at hSw
  go_simp
  try with_reducible rfl
 try simp only [Act.put, lj]
 refine wpAnyH_done (by kernel_rfl) ?_ _
 go_simp
 clear hHeld HFD HQ1 HS2
 go_upto_region 5 with fail
 obtain ⟨w4, hw4⟩ : ∃ w4, w4 = w3.alloc (.cells #[.int .i64 0, .bool fb, .int .u64 fv, .bool false, .int .u64 0, .slice none 0 0, .int .u64 0] 39) := ⟨_, rfl⟩
 obtain ⟨A, hA⟩ : ∃ A, A = w3.heap.size := ⟨_, rfl⟩
 have HQ4 : Hid (QX W m #[.int .i64 mu, mv, hv] P R #[.int .u8 5, .int .u64 k, .int .u64 v, .int .u64 od, .int .u64 hk9, .bool r5, .int .i64 r6, .int .i64 r7, .slice kp kn kc, .int .u64 lo, .int .u64 hi] #[.int .i64 0, .bool false, .int .u64 0, .bool false, .int .u64 0, .slice none 0 0, .int .u64 0] w4) := keepH (by rw [hw4]; exact HQ3.out.on ((Chg.refl _ _).alloc _))
 have HA : Hid (w4.heap[A]? = some (.cells #[.int .i64 0, .bool fb, .int .u64 fv, .bool false, .int .u64 0, .slice none 0 0, .int .u64 0] 39 (0, 0))) := keepH (by rw [hw4, hA]; exact heap_alloc_new _ _)
 have hAR : A ≠ R := by have := lt_of HQ3.out.ax; omega
 have hAl : W.heap.size ≤ A := by have := HQ3.out.ch.size; omega
 rw [← hw4, ← hA]
 clear hcc HQ3 hw4 hA
 have p0 : w4.cell? ⟨P, 0, none⟩ = _ := cell_of HQ4.out.ox 0
 go_wp2_with fail
 refine (HPL.out _ HQ4.out.ch).mono ?_
 rintro e w5 ⟨rfl, rfl⟩
 go_wp2_with (refine wpList_store_mid rfl 39 (.tmp 6) (.tmp 92) rfl R 0 #[.int .i64 32, .bool false, .int .u64 0, .bool false, .int .u64 0, .slice none 0 0, .int .u64 0] rfl rfl HQ4.out.there (by kernel_rfl) (by simp [Value.oneCell']) ?_; have HQ9 := keepH (HQ4.out.seven (.int .i64 32) (.bool false) (.int .u64 0) (.bool false) (.int .u64 0) (.slice none 0 0) (.int .u64 0)))
 have e0 := cell_of HQ9.out.ax 0
 have e1 := cell_of HQ9.out.ax 1
 have e2 := cell_of HQ9.out.ax 2
 have e3 := cell_of HQ9.out.ax 3
 have e4 := cell_of HQ9.out.ax 4
 have e5 := cell_of HQ9.out.ax 5
 have e6 := cell_of HQ9.out.ax 6
 simp at e0 e1 e2 e3 e4 e5 e6
 go_wp2_with fail
 refine bodyPost_ret (v := .agg #[.int .i64 32, .bool false, .int .u64 0, .bool false, .int .u64 0, .slice none 0 0, .int .u64 0]) (by simp [results, Tryz.results15, go_sem, e0, e1, e2, e3, e4, e5, e6]) rfl ?_
 exact ⟨rfl, HQ9.out.ch⟩
set_option maxRecDepth 100000 in
theorem d_relnone {W : World} {m : Nat} {mu : Int} {mv hv : Value} {hs : List (Nat × Value)} (H : RMod W m mu mv hv hs) {g : Nat → Option Nat} {l : List (Nat × Nat)} (hg : RL W mv g l) (hgl : l.length ≤ 4398046510000) {k : Nat} (hk : k < 18446744073709551616) (hl : hs.length ≤ 4000000) {hk9 : Nat} (hpl : placeI hs hk9 = -1) {hd : Int} {v od r6 r7 lo hi : Int} {r5 : Bool} {kp : Option Addr} {kn kc : Nat} :
    Calls Tryz.prog 15 #[.pointer (some ⟨m, 0, none⟩), .agg #[.int .u8 6, .int .u64 k, .int .u64 v, .int .u64 od, .int .u64 hk9, .bool r5, .int .i64 r6, .int .i64 r7, .slice kp kn kc, .int .u64 lo, .int .u64 hi], .int .u64 hd] W (fun e W' => e = .returned (.agg #[.int .i64 33, .bool false, .int .u64 0, .bool false, .int .u64 0, .slice none 0 0, .int .u64 0]) ∧ Chg (fun _ => False) W W') := by
 have HPL := keepH (fun w (hc : Chg (fun _ => False) W w) => r_placeM (H.quiet hc) hl hk9)
 rw [hpl] at HPL
 clear hpl hl
 have hlm := lt_of H.at_
 have HFD := keepH (fun w (hc : Chg (fun _ => False) W w) => r_findL (hg.quiet hc) hgl hk)
 obtain ⟨fv, hfv⟩ : ∃ fv, fv = (g k).getD 0 := ⟨_, rfl⟩
 obtain ⟨fb, hfb⟩ : ∃ fb, fb = (g k).isSome := ⟨_, rfl⟩
 rw [← hfv, ← hfb] at HFD
 have HFV := keepH hfv
 have HFB := keepH hfb
 have hQ1 : QX W m #[.int .i64 mu, mv, hv] W.heap.size (W.heap.size + 1) #[.int .u8 6, .int .u64 k, .int .u64 v, .int .u64 od, .int .u64 hk9, .bool r5, .int .i64 r6, .int .i64 r7, .slice kp kn kc, .int .u64 lo, .int .u64 hi] #[.int .i64 0, .bool false, .int .u64 0, .bool false, .int .u64 0, .slice none 0 0, .int .u64 0] ((W.alloc (.cells #[.int .u8 6, .int .u64 k, .int .u64 v, .int .u64 od, .int .u64 hk9, .bool r5, .int .i64 r6, .int .i64 r7, .slice kp kn kc, .int .u64 lo, .int .u64 hi] 35)).alloc (.cells #[.int .i64 0, .bool false, .int .u64 0, .bool false, .int .u64 0, .slice none 0 0, .int .u64 0] 39)) := QX.two W H.at_ _ _
 obtain ⟨w1, hw1⟩ : ∃ w1, w1 = (W.alloc (.cells #[.int .u8 6, .int .u64 k, .int .u64 v, .int .u64 od, .int .u64 hk9, .bool r5, .int .i64 r6, .int .i64 r7, .slice kp kn kc, .int .u64 lo, .int .u64 hi] 35)).alloc (.cells #[.int .i64 0, .bool false, .int .u64 0, .bool false, .int .u64 0, .slice none 0 0, .int .u64 0] 39) := ⟨_, rfl⟩
 obtain ⟨P, hP⟩ : ∃ P, P = W.heap.size := ⟨_, rfl⟩
 obtain ⟨R, hR⟩ : ∃ R, R = W.heap.size + 1 := ⟨_, rfl⟩
 rw [← hw1, ← hR, ← hP] at hQ1
 have HQ1 := keepH hQ1
 have HW1 := keepH hw1
 have HP := keepH hP
 have HR := keepH hR
 have HH := keepH H
 have HG := keepH hg
 have HGL := keepH hgl
 have HK := keepH hk
 have hlP : W.heap.size ≤ P := by omega
 clear H hg hgl hk hfv hfb hQ1 hw1 hP hR
 go_enter Tryz.func15, Tryz.ntmps15
 go_upto_region 1 with fail
 rw [show (W.alloc (.cells #[.int .u8 6, .int .u64 k, .int .u64 v, .int .u64 od, .int .u64 hk9, .bool r5, .int .i64 r6, .int .i64 r7, .slice kp kn kc, .int .u64 lo, .int .u64 hi] 35)).alloc (.cells #[.int .i64 0, .bool false, .int .u64 0, .bool false, .int .u64 0, .slice none 0 0, .int .u64 0] 39) = w1 from HW1.out.symm, ← HR.out, ← HP.out]
 clear HW1 HP HR
 go_upto_region 3 with fail
 have HS2 : Hid ((fun w => w.heap[m]? = some (.cells #[.int .i64 mu, mv, hv] 105 (0, 0)) ∧ w.heap[P]? = some (.cells #[.int .u8 6, .int .u64 k, .int .u64 v, .int .u64 od, .int .u64 hk9, .bool r5, .int .i64 r6, .int .i64 r7, .slice kp kn kc, .int .u64 lo, .int .u64 hi] 35 (0, 0))) w1.drew) := keepH ⟨HQ1.out.md, HQ1.out.ox⟩
 refine wp_region_held_drew (S := fun w => w.heap[m]? = some (.cells #[.int .i64 mu, mv, hv] 105 (0, 0)) ∧ w.heap[P]? = some (.cells #[.int .u8 6, .int .u64 k, .int .u64 v, .int .u64 od, .int .u64 hk9, .bool r5, .int .i64 r6, .int .i64 r7, .slice kp kn kc, .int .u64 lo, .int .u64 hi] 35 (0, 0))) (by kernel_rfl) (HS2.out) ?_
 intro hHeld
 refine wT (v := ?_) 0 rfl (by rfl) ?_ hHeld ?_
 rotate_left
 ·intro w hSw
  try dsimp only at hSw
  go_simp
  try with_reducible rfl
 try simp only [Act.put, lj]
 refine wT (v := ?_) 1 rfl (by rfl) ?_ hHeld ?_
 rotate_left
 ·intro w hSw
  try dsimp only at hSw
  go_simp
  try with_reducible rfl
 try simp only [Act.put, lj]
 refine wT (v := ?_) 2 rfl (by rfl) ?_ hHeld ?_
 rotate_left
 ·intro w hSw
  try dsimp only at hSw
  go_simp
  try with_reducible rfl
 try simp only [Act.put, lj]
 refine wT (v := ?_) 3 rfl (by rfl) ?_ hHeld ?_
 rotate_left
 ·intro w hSw
  try dsimp only at hSw
  have y1 := cell_of hSw.1 1
  go_simp
  try with_reducible rfl
 try simp only [Act.put, lj]
 refine wT (v := ?_) 4 rfl (by rfl) ?_ hHeld ?_
 rotate_left
 ·intro w hSw
  try dsimp only at hSw
  go_simp
  try with_reducible rfl
 try simp only [Act.put, lj]
 refine wT (v := ?_) 5 rfl (by rfl) ?_ hHeld ?_
 rotate_left
 ·intro w hSw
  try dsimp only at hSw
  have z1 := cell_of hSw.2 1
  go_simp
  try with_reducible rfl
 try simp only [Act.put, lj]
 refine wR 6 rfl (fun KK hKK => ?_)
 go_simp
 refine (HFD.out _ (chgF HQ1.out.ch (chg_dn (Chg.refl _ _) 1))).mono ?_
 rintro e w3 ⟨rfl, hw3⟩
 have HQ3 : Hid (QX W m #[.int .i64 mu, mv, hv] P R #[.int .u8 6, .int .u64 k, .int .u64 v, .int .u64 od, .int .u64 hk9, .bool r5, .int .i64 r6, .int .i64 r7, .slice kp kn kc, .int .u64 lo, .int .u64 hi] #[.int .i64 0, .bool false, .int .u64 0, .bool false, .int .u64 0, .slice none 0 0, .int .u64 0] w3) := keepH (by rw [hw3]; exact HQ1.out.on (chg_dn (Chg.refl _ _) 1))
 clear hw3
 have hcc := And.intro HQ3.out.md HQ3.out.ox
 refine hKK.out _ _ ?_ (fun hHeld => ?_)
 ·exact hcc
 clear hKK KK
 try simp only [Act.put, lj]
 refine wT (v := ?_) 7 rfl (by rfl) ?_ hHeld ?_
 rotate_left
 ·intro w hSw
  try dsimp only at hSw
  go_simp
  try with_reducible rfl
 try simp only [Act.put, lj]
 refine wT (v := ?_) 8 rfl (by rfl) ?_ hHeld ?_
 rotate_left
 ·intro w hSw
  try dsimp only at hSw
  go_simp
  try with_reducible rfl
 try simp only [Act.put, lj]
 refine wT (v := ?_) 9 rfl (by rfl) ?_ hHeld ?_
 rotate_left
 ·intro w hSw
  try dsimp only at hSw
  go_simp
  try with_reducible rfl
 try simp only [Act.put, lj]
 refine wT (v := ?_) 10 rfl (by rfl) ?_ hHeld ?_
 rotate_left
 ·intro w hSw
  try dsimp only at hSw
  go_simp
  try with_reducible rfl
 try simp only [Act.put, lj]
 refine wT (v := ?_) 11 rfl (by rfl) ?_ hHeld ?_
 rotate_left
 ·intro w hSw
  try dsimp only at hSw
  go_simp
  try with_reducible rfl
 try simp only [Act.put, lj]
 refine wpAnyH_done (by kernel_rfl) ?_ _
 go_simp
 clear hHeld HFD HQ1 HS2
 go_upto_region 5 with fail
 obtain ⟨w4, hw4⟩ : ∃ w4, w4 = w3.alloc (.cells #[.int .i64 0, .bool fb, .int .u64 fv, .bool false, .int .u64 0, .slice none 0 0, .int .u64 0] 39) := ⟨_, rfl⟩
 obtain ⟨A, hA⟩ : ∃ A, A = w3.heap.size := ⟨_, rfl⟩
 have HQ4 : Hid (QX W m #[.int .i64 mu, mv, hv] P R #[.int .u8 6, .int .u64 k, .int .u64 v, .int .u64 od, .int .u64 hk9, .bool r5, .int .i64 r6, .int .i64 r7, .slice kp kn kc, .int .u64 lo, .int .u64 hi] #[.int .i64 0, .bool false, .int .u64 0, .bool false, .int .u64 0, .slice none 0 0, .int .u64 0] w4) := keepH (by rw [hw4]; exact HQ3.out.on ((Chg.refl _ _).alloc _))
 have HA : Hid (w4.heap[A]? = some (.cells #[.int .i64 0, .bool fb, .int .u64 fv, .bool false, .int .u64 0, .slice none 0 0, .int .u64 0] 39 (0, 0))) := keepH (by rw [hw4, hA]; exact heap_alloc_new _ _)
 have hAR : A ≠ R := by have := lt_of HQ3.out.ax; omega
 have hAl : W.heap.size ≤ A := by have := HQ3.out.ch.size; omega
 rw [← hw4, ← hA]
 clear hcc HQ3 hw4 hA
 have p0 : w4.cell? ⟨P, 0, none⟩ = _ := cell_of HQ4.out.ox 0
 have p4 : w4.cell? ⟨P, 4, none⟩ = some (.int .u64 hk9) := cell_of HQ4.out.ox 4
 go_wp2_with fail
 refine (HPL.out _ HQ4.out.ch).mono ?_
 rintro e w5 ⟨rfl, rfl⟩
 go_wp2_with (refine wpList_store_mid rfl 39 (.tmp 6) (.tmp 106) rfl R 0 #[.int .i64 33, .bool false, .int .u64 0, .bool false, .int .u64 0, .slice none 0 0, .int .u64 0] rfl rfl HQ4.out.there (by kernel_rfl) (by simp [Value.oneCell']) ?_; have HQ9 := keepH (HQ4.out.seven (.int .i64 33) (.bool false) (.int .u64 0) (.bool false) (.int .u64 0) (.slice none 0 0) (.int .u64 0)))
 have e0 := cell_of HQ9.out.ax 0
 have e1 := cell_of HQ9.out.ax 1
 have e2 := cell_of HQ9.out.ax 2
 have e3 := cell_of HQ9.out.ax 3
 have e4 := cell_of HQ9.out.ax 4
 have e5 := cell_of HQ9.out.ax 5
 have e6 := cell_of HQ9.out.ax 6
 simp at e0 e1 e2 e3 e4 e5 e6
 go_wp2_with fail
 refine bodyPost_ret (v := .agg #[.int .i64 33, .bool false, .int .u64 0, .bool false, .int .u64 0, .slice none 0 0, .int .u64 0]) (by simp [results, Tryz.results15, go_sem, e0, e1, e2, e3, e4, e5, e6]) rfl ?_
 exact ⟨rfl, HQ9.out.ch⟩
set_option maxRecDepth 100000 in
theorem d_snaphold {W : World} {m : Nat} {mu : Int} {mv hv : Value} {hs : List (Nat × Value)} (H : RMod W m mu mv hv hs) {g : Nat → Option Nat} {l : List (Nat × Nat)} (hg : RL W mv g l) (hgl : l.length ≤ 4398046510000) {k : Nat} (hk : k < 18446744073709551616) (hl : hs.length ≤ 4000000) {hd : Nat} (hd0 : hd ≠ 0) (hdk : hd < 18446744073709551616) (hpl : placeI hs hd = -1) {hk9 : Int} {v od r6 r7 lo hi : Int} {r5 : Bool} {kp : Option Addr} {kn kc : Nat} :
    Calls Tryz.prog 15 #[.pointer (some ⟨m, 0, none⟩), .agg #[.int .u8 5, .int .u64 k, .int .u64 v, .int .u64 od, .int .u64 hk9, .bool r5, .int .i64 r6, .int .i64 r7, .slice kp kn kc, .int .u64 lo, .int .u64 hi], .int .u64 hd] W (fun e W' => e = .returned (.agg #[.int .i64 0, .bool false, .int .u64 0, .bool false, .int .u64 hd, .slice none 0 0, .int .u64 0]) ∧ (∃ v2, RMod W' m mu mv v2 (holdL hs hd mv)) ∧ Chg (fun k => k = m) W W') := by
 obtain ⟨pm, nm, rfl, -, -⟩ := hg.row.slice
 have HHO := keepH (fun w (hc : Chg (fun _ => False) W w) => r_hold (H.quiet hc) hl hdk)
 have HPL := keepH (fun w (hc : Chg (fun _ => False) W w) => r_placeM (H.quiet hc) hl hd)
 rw [hpl] at HPL
 clear hpl hl
 have q1 : decide ((hd : Int) = 0) = false := by simp; exact hd0
 obtain ⟨mv, hmv⟩ : ∃ mv, mv = Value.slice pm l.length nm := ⟨_, rfl⟩
 rw [← hmv] at H hg HHO ⊢
 clear hmv
 have hlm := lt_of H.at_
 have HFD := keepH (fun w (hc : Chg (fun _ => False) W w) => r_findL (hg.quiet hc) hgl hk)
 obtain ⟨fv, hfv⟩ : ∃ fv, fv = (g k).getD 0 := ⟨_, rfl⟩
 obtain ⟨fb, hfb⟩ : ∃ fb, fb = (g k).isSome := ⟨_, rfl⟩
 rw [← hfv, ← hfb] at HFD
 have HFV := keepH hfv
 have HFB := keepH hfb
 have hQ1 : QX W m #[.int .i64 mu, mv, hv] W.heap.size (W.heap.size + 1) #[.int .u8 5, .int .u64 k, .int .u64 v, .int .u64 od, .int .u64 hk9, .bool r5, .int .i64 r6, .int .i64 r7, .slice kp kn kc, .int .u64 lo, .int .u64 hi] #[.int .i64 0, .bool false, .int .u64 0, .bool false, .int .u64 0, .slice none 0 0, .int .u64 0] ((W.alloc (.cells #[.int .u8 5, .int .u64 k, .int .u64 v, .int .u64 od, .int .u64 hk9, .bool r5, .int .i64 r6, .int .i64 r7, .slice kp kn kc, .int .u64 lo, .int .u64 hi] 35)).alloc (.cells #[.int .i64 0, .bool false, .int .u64 0, .bool false, .int .u64 0, .slice none 0 0, .int .u64 0] 39)) := QX.two W H.at_ _ _
 obtain ⟨w1, hw1⟩ : ∃ w1, w1 = (W.alloc (.cells #[.int .u8 5, .int .u64 k, .int .u64 v, .int .u64 od, .int .u64 hk9, .bool r5, .int .i64 r6, .int .i64 r7, .slice kp kn kc, .int .u64 lo, .int .u64 hi] 35)).alloc (.cells #[.int .i64 0, .bool false, .int .u64 0, .bool false, .int .u64 0, .slice none 0 0, .int .u64 0] 39) := ⟨_, rfl⟩
 obtain ⟨P, hP⟩ : ∃ P, P = W.heap.size := ⟨_, rfl⟩
 obtain ⟨R, hR⟩ : ∃ R, R = W.heap.size + 1 := ⟨_, rfl⟩
 rw [← hw1, ← hR, ← hP] at hQ1
 have HQ1 := keepH hQ1
 have HW1 := keepH hw1
 have HP := keepH hP
 have HR := keepH hR
 have HH := keepH H
 have HG := keepH hg
 have HGL := keepH hgl
 have HK := keepH hk
 have hlP : W.heap.size ≤ P := by omega
 clear H hg hgl hk hfv hfb hQ1 hw1 hP hR
 go_enter Tryz.func15, Tryz.ntmps15
 go_upto_region 1 with fail
 rw [show (W.alloc (.cells #[.int .u8 5, .int .u64 k, .int .u64 v, .int .u64 od, .int .u64 hk9, .bool r5, .int .i64 r6, .int .i64 r7, .slice kp kn kc, .int .u64 lo, .int .u64 hi] 35)).alloc (.cells #[.int .i64 0, .bool false, .int .u64 0, .bool false, .int .u64 0, .slice none 0 0, .int .u64 0] 39) = w1 from HW1.out.symm, ← HR.out, ← HP.out]
 clear HW1 HP HR
 go_upto_region 3 with fail
 have HS2 : Hid ((fun w => w.heap[m]? = some (.cells #[.int .i64 mu, mv, hv] 105 (0, 0)) ∧ w.heap[P]? = some (.cells #[.int .u8 5, .int .u64 k, .int .u64 v, .int .u64 od, .int .u64 hk9, .bool r5, .int .i64 r6, .int .i64 r7, .slice kp kn kc, .int .u64 lo, .int .u64 hi] 35 (0, 0))) w1.drew) := keepH ⟨HQ1.out.md, HQ1.out.ox⟩
 refine wp_region_held_drew (S := fun w => w.heap[m]? = some (.cells #[.int .i64 mu, mv, hv] 105 (0, 0)) ∧ w.heap[P]? = some (.cells #[.int .u8 5, .int .u64 k, .int .u64 v, .int .u64 od, .int .u64 hk9, .bool r5, .int .i64 r6, .int .i64 r7, .slice kp kn kc, .int .u64 lo, .int .u64 hi] 35 (0, 0))) (by kernel_rfl) (HS2.out) ?_
 intro hHeld
 refine wT (v := ?_) 0 rfl (by rfl) ?_ hHeld ?_
 rotate_left
 ·intro w hSw
  try dsimp only at hSw
  go_simp
  try with_reducible rfl
 try simp only [Act.put, lj]
 refine wT (v := ?_) 1 rfl (by rfl) ?_ hHeld ?_
 rotate_left
 ·intro w hSw
  try dsimp only at hSw
  go_simp
  try with_reducible rfl
 try simp only [Act.put, lj]
 refine wT (v := ?_) 2 rfl (by rfl) ?_ hHeld ?_
 rotate_left
 ·intro w hSw
  try dsimp only at hSw
  go_simp
  try with_reducible rfl
 try simp only [Act.put, lj]
 refine wT (v := ?_) 3 rfl (by rfl) ?_ hHeld ?_
 rotate_left
 ·intro w hSw
  try dsimp only at hSw
  have y1 := cell_of hSw.1 1
  go_simp
  try with_reducible rfl
 try simp only [Act.put, lj]
 refine wT (v := ?_) 4 rfl (by rfl) ?_ hHeld ?_
 rotate_left
 ·intro w hSw
  try dsimp only at hSw
  go_simp
  try with_reducible rfl
 try simp only [Act.put, lj]
 refine wT (v := ?_) 5 rfl (by rfl) ?_ hHeld ?_
 rotate_left
 ·intro w hSw
  try dsimp only at hSw
  have z1 := cell_of hSw.2 1
  go_simp
  try with_reducible rfl
 try simp only [Act.put, lj]
 refine wR 6 rfl (fun KK hKK => ?_)
 go_simp
 refine (HFD.out _ (chgF HQ1.out.ch (chg_dn (Chg.refl _ _) 1))).mono ?_
 rintro e w3 ⟨rfl, hw3⟩
 have HQ3 : Hid (QX W m #[.int .i64 mu, mv, hv] P R #[.int .u8 5, .int .u64 k, .int .u64 v, .int .u64 od, .int .u64 hk9, .bool r5, .int .i64 r6, .int .i64 r7, .slice kp kn kc, .int .u64 lo, .int .u64 hi] #[.int .i64 0, .bool false, .int .u64 0, .bool false, .int .u64 0, .slice none 0 0, .int .u64 0] w3) := keepH (by rw [hw3]; exact HQ1.out.on (chg_dn (Chg.refl _ _) 1))
 clear hw3
 have hcc := And.intro HQ3.out.md HQ3.out.ox
 refine hKK.out _ _ ?_ (fun hHeld => ?_)
 ·exact hcc
 clear hKK KK
 try simp only [Act.put, lj]
 refine wT (v := ?_) 7 rfl (by rfl) ?_ hHeld ?_
 rotate_left
 ·intro w hSw
  try dsimp only at hSw
  go_simp
  try with_reducible rfl
 try simp only [Act.put, lj]
 refine wT (v := ?_) 8 rfl (by rfl) ?_ hHeld ?_
 rotate_left
 ·intro w hSw
  try dsimp only at hSw
  go_simp
  try with_reducible rfl
 try simp only [Act.put, lj]
 refine wT (v := ?_) 9 rfl (by rfl) ?_ hHeld ?_
 rotate_left
 ·intro w hSw
  try dsimp only at hSw
  go_simp
  try with_reducible rfl
 try simp only [Act.put, lj]
 refine wT (v := ?_) 10 rfl (by rfl) ?_ hHeld ?_
 rotate_left
 ·intro w hSw
  try dsimp only at hSw
  go_simp
  try with_reducible rfl
 try simp only [Act.put, lj]
 refine wT (v := ?_) 11 rfl (by rfl) ?_ hHeld ?_
 rotate_left
 ·intro w hSw
  try dsimp only at hSw
  go_simp
  try with_reducible rfl
 try simp only [Act.put, lj]
 refine wpAnyH_done (by kernel_rfl) ?_ _
 go_simp
 clear hHeld HFD HQ1 HS2
 go_upto_region 5 with fail
 obtain ⟨w4, hw4⟩ : ∃ w4, w4 = w3.alloc (.cells #[.int .i64 0, .bool fb, .int .u64 fv, .bool false, .int .u64 0, .slice none 0 0, .int .u64 0] 39) := ⟨_, rfl⟩
 obtain ⟨A, hA⟩ : ∃ A, A = w3.heap.size := ⟨_, rfl⟩
 have HQ4 : Hid (QX W m #[.int .i64 mu, mv, hv] P R #[.int .u8 5, .int .u64 k, .int .u64 v, .int .u64 od, .int .u64 hk9, .bool r5, .int .i64 r6, .int .i64 r7, .slice kp kn kc, .int .u64 lo, .int .u64 hi] #[.int .i64 0, .bool false, .int .u64 0, .bool false, .int .u64 0, .slice none 0 0, .int .u64 0] w4) := keepH (by rw [hw4]; exact HQ3.out.on ((Chg.refl _ _).alloc _))
 have HA : Hid (w4.heap[A]? = some (.cells #[.int .i64 0, .bool fb, .int .u64 fv, .bool false, .int .u64 0, .slice none 0 0, .int .u64 0] 39 (0, 0))) := keepH (by rw [hw4, hA]; exact heap_alloc_new _ _)
 have hAR : A ≠ R := by have := lt_of HQ3.out.ax; omega
 have hAl : W.heap.size ≤ A := by have := HQ3.out.ch.size; omega
 rw [← hw4, ← hA]
 clear hcc HQ3 hw4 hA
 have p0 : w4.cell? ⟨P, 0, none⟩ = _ := cell_of HQ4.out.ox 0
 go_wp2_with fail
 refine (HPL.out _ HQ4.out.ch).mono ?_
 rintro e w5 ⟨rfl, rfl⟩
 go_wp2_with fail
 refine (HHO.out _ HQ4.out.ch).mono ?_
 rintro e w6 ⟨rfl, ⟨v6, hm6⟩, hc6⟩
 have HM6 := keepH hm6
 have HQ7 := keepH ((HQ4.out.y (F := fun k => k = m) hlP hlm).fresh hc6 hm6.at_)
 clear hm6 hc6
 go_wp2_with (refine wpList_store_mid rfl 39 (.tmp 6) (.tmp 97) rfl R 0 #[.int .i64 0, .bool false, .int .u64 0, .bool false, .int .u64 hd, .slice none 0 0, .int .u64 0] rfl rfl HQ7.out.there (by kernel_rfl) (by simp [Value.oneCell']) ?_; have HQ9 := keepH (HQ7.out.seven (.int .i64 0) (.bool false) (.int .u64 0) (.bool false) (.int .u64 hd) (.slice none 0 0) (.int .u64 0)))
 have e0 := cell_of HQ9.out.ax 0
 have e1 := cell_of HQ9.out.ax 1
 have e2 := cell_of HQ9.out.ax 2
 have e3 := cell_of HQ9.out.ax 3
 have e4 := cell_of HQ9.out.ax 4
 have e5 := cell_of HQ9.out.ax 5
 have e6 := cell_of HQ9.out.ax 6
 simp at e0 e1 e2 e3 e4 e5 e6
 go_wp2_with fail
 refine bodyPost_ret (v := .agg #[.int .i64 0, .bool false, .int .u64 0, .bool false, .int .u64 hd, .slice none 0 0, .int .u64 0]) (by simp [results, Tryz.results15, go_sem, e0, e1, e2, e3, e4, e5, e6]) rfl ?_
 exact ⟨rfl, ⟨_, HQ9.out.md, HM6.out.row.chg (chg_seven _ 0) (fun b hb e => HQ7.out.hrow HM6.out.row b hb e)⟩, HQ9.out.ch⟩
set_option maxRecDepth 100000 in
theorem d_reldrop {W : World} {m : Nat} {mu : Int} {mv hv : Value} {hs : List (Nat × Value)} (H : RMod W m mu mv hv hs) {g : Nat → Option Nat} {l : List (Nat × Nat)} (hg : RL W mv g l) (hgl : l.length ≤ 4398046510000) {k : Nat} (hk : k < 18446744073709551616) (hl : hs.length ≤ 4000000) {hk9 i : Nat} (hpl : placeI hs hk9 = (i : Int)) (hi2 : i < hs.length) {hd : Int} {v od r6 r7 lo hi : Int} {r5 : Bool} {kp : Option Addr} {kn kc : Nat} :
    Calls Tryz.prog 15 #[.pointer (some ⟨m, 0, none⟩), .agg #[.int .u8 6, .int .u64 k, .int .u64 v, .int .u64 od, .int .u64 hk9, .bool r5, .int .i64 r6, .int .i64 r7, .slice kp kn kc, .int .u64 lo, .int .u64 hi], .int .u64 hd] W (fun e W' => e = .returned (.agg #[.int .i64 0, .bool false, .int .u64 0, .bool false, .int .u64 0, .slice none 0 0, .int .u64 0]) ∧ (∃ v2, RMod W' m mu mv v2 (hs.take i ++ hs.drop (i + 1))) ∧ Chg (fun k => k = m) W W') := by
 have HHO := keepH (fun w (hc : Chg (fun _ => False) W w) => r_drop (H.quiet hc) hl hi2)
 have HPL := keepH (fun w (hc : Chg (fun _ => False) W w) => r_placeM (H.quiet hc) hl hk9)
 rw [hpl] at HPL
 clear hpl hl
 have q2 : decide ((i : Int) < 0) = false := by simp
 have hlm := lt_of H.at_
 have HFD := keepH (fun w (hc : Chg (fun _ => False) W w) => r_findL (hg.quiet hc) hgl hk)
 obtain ⟨fv, hfv⟩ : ∃ fv, fv = (g k).getD 0 := ⟨_, rfl⟩
 obtain ⟨fb, hfb⟩ : ∃ fb, fb = (g k).isSome := ⟨_, rfl⟩
 rw [← hfv, ← hfb] at HFD
 have HFV := keepH hfv
 have HFB := keepH hfb
 have hQ1 : QX W m #[.int .i64 mu, mv, hv] W.heap.size (W.heap.size + 1) #[.int .u8 6, .int .u64 k, .int .u64 v, .int .u64 od, .int .u64 hk9, .bool r5, .int .i64 r6, .int .i64 r7, .slice kp kn kc, .int .u64 lo, .int .u64 hi] #[.int .i64 0, .bool false, .int .u64 0, .bool false, .int .u64 0, .slice none 0 0, .int .u64 0] ((W.alloc (.cells #[.int .u8 6, .int .u64 k, .int .u64 v, .int .u64 od, .int .u64 hk9, .bool r5, .int .i64 r6, .int .i64 r7, .slice kp kn kc, .int .u64 lo, .int .u64 hi] 35)).alloc (.cells #[.int .i64 0, .bool false, .int .u64 0, .bool false, .int .u64 0, .slice none 0 0, .int .u64 0] 39)) := QX.two W H.at_ _ _
 obtain ⟨w1, hw1⟩ : ∃ w1, w1 = (W.alloc (.cells #[.int .u8 6, .int .u64 k, .int .u64 v, .int .u64 od, .int .u64 hk9, .bool r5, .int .i64 r6, .int .i64 r7, .slice kp kn kc, .int .u64 lo, .int .u64 hi] 35)).alloc (.cells #[.int .i64 0, .bool false, .int .u64 0, .bool false, .int .u64 0, .slice none 0 0, .int .u64 0] 39) := ⟨_, rfl⟩
 obtain ⟨P, hP⟩ : ∃ P, P = W.heap.size := ⟨_, rfl⟩
 obtain ⟨R, hR⟩ : ∃ R, R = W.heap.size + 1 := ⟨_, rfl⟩
 rw [← hw1, ← hR, ← hP] at hQ1
 have HQ1 := keepH hQ1
 have HW1 := keepH hw1
 have HP := keepH hP
 have HR := keepH hR
 have HH := keepH H
 have HG := keepH hg
 have HGL := keepH hgl
 have HK := keepH hk
 have hlP : W.heap.size ≤ P := by omega
 clear H hg hgl hk hfv hfb hQ1 hw1 hP hR
 go_enter Tryz.func15, Tryz.ntmps15
 go_upto_region 1 with fail
 rw [show (W.alloc (.cells #[.int .u8 6, .int .u64 k, .int .u64 v, .int .u64 od, .int .u64 hk9, .bool r5, .int .i64 r6, .int .i64 r7, .slice kp kn kc, .int .u64 lo, .int .u64 hi] 35)).alloc (.cells #[.int .i64 0, .bool false, .int .u64 0, .bool false, .int .u64 0, .slice none 0 0, .int .u64 0] 39) = w1 from HW1.out.symm, ← HR.out, ← HP.out]
 clear HW1 HP HR
 go_upto_region 3 with fail
 have HS2 : Hid ((fun w => w.heap[m]? = some (.cells #[.int .i64 mu, mv, hv] 105 (0, 0)) ∧ w.heap[P]? = some (.cells #[.int .u8 6, .int .u64 k, .int .u64 v, .int .u64 od, .int .u64 hk9, .bool r5, .int .i64 r6, .int .i64 r7, .slice kp kn kc, .int .u64 lo, .int .u64 hi] 35 (0, 0))) w1.drew) := keepH ⟨HQ1.out.md, HQ1.out.ox⟩
 refine wp_region_held_drew (S := fun w => w.heap[m]? = some (.cells #[.int .i64 mu, mv, hv] 105 (0, 0)) ∧ w.heap[P]? = some (.cells #[.int .u8 6, .int .u64 k, .int .u64 v, .int .u64 od, .int .u64 hk9, .bool r5, .int .i64 r6, .int .i64 r7, .slice kp kn kc, .int .u64 lo, .int .u64 hi] 35 (0, 0))) (by kernel_rfl) (HS2.out) ?_
 intro hHeld
 refine wT (v := ?_) 0 rfl (by rfl) ?_ hHeld ?_
 rotate_left
 ·intro w hSw
  try dsimp only at hSw
  go_simp
  try with_reducible rfl
 try simp only [Act.put, lj]
 refine wT (v := ?_) 1 rfl (by rfl) ?_ hHeld ?_
 rotate_left
 ·intro w hSw
  try dsimp only at hSw
  go_simp
  try with_reducible rfl
 try simp only [Act.put, lj]
 refine wT (v := ?_) 2 rfl (by rfl) ?_ hHeld ?_
 rotate_left
 ·intro w hSw
  try dsimp only at hSw
  go_simp
  try with_reducible rfl
 try simp only [Act.put, lj]
 refine wT (v := ?_) 3 rfl (by rfl) ?_ hHeld ?_
 rotate_left
 ·intro w hSw
  try dsimp only at hSw
  have y1 := cell_of hSw.1 1
  go_simp
  try with_reducible rfl
 try simp only [Act.put, lj]
 refine wT (v := ?_) 4 rfl (by rfl) ?_ hHeld ?_
 rotate_left
 ·intro w hSw
  try dsimp only at hSw
  go_simp
  try with_reducible rfl
 try simp only [Act.put, lj]
 refine wT (v := ?_) 5 rfl (by rfl) ?_ hHeld ?_
 rotate_left
 ·intro w hSw
  try dsimp only at hSw
  have z1 := cell_of hSw.2 1
  go_simp
  try with_reducible rfl
 try simp only [Act.put, lj]
 refine wR 6 rfl (fun KK hKK => ?_)
 go_simp
 refine (HFD.out _ (chgF HQ1.out.ch (chg_dn (Chg.refl _ _) 1))).mono ?_
 rintro e w3 ⟨rfl, hw3⟩
 have HQ3 : Hid (QX W m #[.int .i64 mu, mv, hv] P R #[.int .u8 6, .int .u64 k, .int .u64 v, .int .u64 od, .int .u64 hk9, .bool r5, .int .i64 r6, .int .i64 r7, .slice kp kn kc, .int .u64 lo, .int .u64 hi] #[.int .i64 0, .bool false, .int .u64 0, .bool false, .int .u64 0, .slice none 0 0, .int .u64 0] w3) := keepH (by rw [hw3]; exact HQ1.out.on (chg_dn (Chg.refl _ _) 1))
 clear hw3
 have hcc := And.intro HQ3.out.md HQ3.out.ox
 refine hKK.out _ _ ?_ (fun hHeld => ?_)
 ·exact hcc
 clear hKK KK
 try simp only [Act.put, lj]
 refine wT (v := ?_) 7 rfl (by rfl) ?_ hHeld ?_
 rotate_left
 ·intro w hSw
  try dsimp only at hSw
  go_simp
  try with_reducible rfl
 try simp only [Act.put, lj]
 refine wT (v := ?_) 8 rfl (by rfl) ?_ hHeld ?_
 rotate_left
 ·intro w hSw
  try dsimp only at hSw
  go_simp
  try with_reducible rfl
 try simp only [Act.put, lj]
 refine wT (v := ?_) 9 rfl (by rfl) ?_ hHeld ?_
 rotate_left
 ·intro w hSw
  try dsimp only at hSw
  go_simp
  try with_reducible rfl
 try simp only [Act.put, lj]
 refine wT (v := ?_) 10 rfl (by rfl) ?_ hHeld ?_
 rotate_left
 ·intro w hSw
  try dsimp only at hSw
  go_simp
  try with_reducible rfl
 try simp only [Act.put, lj]
 refine wT (v := ?_) 11 rfl (by rfl) ?_ hHeld ?_
 rotate_left
 ·intro w hSw
  try dsimp only at hSw
  go_simp
  try with_reducible rfl
 try simp only [Act.put, lj]
 refine wpAnyH_done (by kernel_rfl) ?_ _
 go_simp
 clear hHeld HFD HQ1 HS2
 go_upto_region 5 with fail
 obtain ⟨w4, hw4⟩ : ∃ w4, w4 = w3.alloc (.cells #[.int .i64 0, .bool fb, .int .u64 fv, .bool false, .int .u64 0, .slice none 0 0, .int .u64 0] 39) := ⟨_, rfl⟩
 obtain ⟨A, hA⟩ : ∃ A, A = w3.heap.size := ⟨_, rfl⟩
 have HQ4 : Hid (QX W m #[.int .i64 mu, mv, hv] P R #[.int .u8 6, .int .u64 k, .int .u64 v, .int .u64 od, .int .u64 hk9, .bool r5, .int .i64 r6, .int .i64 r7, .slice kp kn kc, .int .u64 lo, .int .u64 hi] #[.int .i64 0, .bool false, .int .u64 0, .bool false, .int .u64 0, .slice none 0 0, .int .u64 0] w4) := keepH (by rw [hw4]; exact HQ3.out.on ((Chg.refl _ _).alloc _))
 have HA : Hid (w4.heap[A]? = some (.cells #[.int .i64 0, .bool fb, .int .u64 fv, .bool false, .int .u64 0, .slice none 0 0, .int .u64 0] 39 (0, 0))) := keepH (by rw [hw4, hA]; exact heap_alloc_new _ _)
 have hAR : A ≠ R := by have := lt_of HQ3.out.ax; omega
 have hAl : W.heap.size ≤ A := by have := HQ3.out.ch.size; omega
 rw [← hw4, ← hA]
 clear hcc HQ3 hw4 hA
 have p0 : w4.cell? ⟨P, 0, none⟩ = _ := cell_of HQ4.out.ox 0
 have p4 : w4.cell? ⟨P, 4, none⟩ = some (.int .u64 hk9) := cell_of HQ4.out.ox 4
 go_wp2_with fail
 refine (HPL.out _ HQ4.out.ch).mono ?_
 rintro e w5 ⟨rfl, rfl⟩
 go_wp2_with fail
 refine (HHO.out _ HQ4.out.ch).mono ?_
 rintro e w6 ⟨rfl, ⟨v6, hm6⟩, hc6⟩
 have HM6 := keepH hm6
 have HQ7 := keepH ((HQ4.out.y (F := fun k => k = m) hlP hlm).fresh hc6 hm6.at_)
 clear hm6 hc6
 go_wp2_with (refine wpList_store_mid rfl 39 (.tmp 6) (.tmp 110) rfl R 0 #[.int .i64 0, .bool false, .int .u64 0, .bool false, .int .u64 0, .slice none 0 0, .int .u64 0] rfl rfl HQ7.out.there (by kernel_rfl) (by simp [Value.oneCell']) ?_; have HQ9 := keepH (HQ7.out.seven (.int .i64 0) (.bool false) (.int .u64 0) (.bool false) (.int .u64 0) (.slice none 0 0) (.int .u64 0)))
 have e0 := cell_of HQ9.out.ax 0
 have e1 := cell_of HQ9.out.ax 1
 have e2 := cell_of HQ9.out.ax 2
 have e3 := cell_of HQ9.out.ax 3
 have e4 := cell_of HQ9.out.ax 4
 have e5 := cell_of HQ9.out.ax 5
 have e6 := cell_of HQ9.out.ax 6
 simp at e0 e1 e2 e3 e4 e5 e6
 go_wp2_with fail
 refine bodyPost_ret (v := .agg #[.int .i64 0, .bool false, .int .u64 0, .bool false, .int .u64 0, .slice none 0 0, .int .u64 0]) (by simp [results, Tryz.results15, go_sem, e0, e1, e2, e3, e4, e5, e6]) rfl ?_
 exact ⟨rfl, ⟨_, HQ9.out.md, HM6.out.row.chg (chg_seven _ 0) (fun b hb e => HQ7.out.hrow HM6.out.row b hb e)⟩, HQ9.out.ch⟩
end Go.Proofs.YtahgaghokpicgaaGreat
