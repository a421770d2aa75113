/- Do of the document's model: a Put, a Delete. (mkD6o.py) -/
import Derived.Test.YtahgaghokpicgaaGreatW9D6n
namespace Go.Proofs.YtahgaghokpicgaaGreat
open Go.RowKit Go.Maps
set_option linter.unusedVariables false
set_option maxHeartbeats 16000000
set_option linter.unusedSimpArgs false
structure QY (F : Nat → Prop) (W : World) (m : Nat) (mr : Array Value) (P R : Nat) (row ar : Array Value) (wr : World) : Prop where
 md : wr.heap[m]? = some (.cells mr 105 (0, 0))
 ox : wr.heap[P]? = some (.cells row 35 (0, 0))
 ax : wr.heap[R]? = some (.cells ar 39 (0, 0))
 ch : Chg F W wr
 lR : W.heap.size ≤ R
 lP : W.heap.size ≤ P
 lm : m < W.heap.size
 nP : P ≠ R
theorem QX.y {F : Nat → Prop} {W : World} {m : Nat} {mr : Array Value} {P R : Nat} {row ar : Array Value} {wr : World} (h : QX W m mr P R row ar wr) (lP : W.heap.size ≤ P) (lm : m < W.heap.size) : QY F W m mr P R row ar wr :=
 ⟨h.md, h.ox, h.ax, h.ch.mono (fun _ _ x => x.elim), h.lR, lP, lm, h.nP⟩
theorem QY.set {F : Nat → Prop} {W : World} {m : Nat} {mr : Array Value} {P R : Nat} {row ar : Array Value} {wr : World} (h : QY F W m mr P R row ar wr) (i : Nat) (x : Value) : QY F W m mr P R row (ar.setIfInBounds i x) (wr.setCell ⟨R, i, none⟩ x) :=
 ⟨other_of h.md (by have := h.lR; have := h.lm; omega) _, other_of h.ox h.nP _, set_of h.ax i x, h.ch.setCell (fun e => by have := h.lR; have e : R < W.heap.size := e; omega) _, h.lR, h.lP, h.lm, h.nP⟩
theorem QY.model {W : World} {m : Nat} {mr : Array Value} {P R : Nat} {row ar : Array Value} {wr : World} (h : QY (fun k => k = m) W m mr P R row ar wr) (i : Nat) (x : Value) : QY (fun k => k = m) W m (mr.setIfInBounds i x) P R row ar (wr.setCell ⟨m, i, none⟩ x) :=
 ⟨set_of h.md i x, other_of h.ox (by have := h.lP; have := h.lm; omega) _, other_of h.ax (by have := h.lR; have := h.lm; omega) _, h.ch.setCell (fun _ => rfl) _, h.lR, h.lP, h.lm, h.nP⟩
theorem QY.aside {F : Nat → Prop} {W : World} {m : Nat} {mr : Array Value} {P R : Nat} {row ar : Array Value} {wr : World} (h : QY F W m mr P R row ar wr) {A : Nat} (lA : W.heap.size ≤ A) (nAR : A ≠ R) (nAP : A ≠ P) (i : Nat) (x : Value) : QY F W m mr P R row ar (wr.setCell ⟨A, i, none⟩ x) :=
 ⟨other_of h.md (by have := h.lm; omega) _, other_of h.ox (Ne.symm nAP) _, other_of h.ax (Ne.symm nAR) _, h.ch.setCell (fun e => by have e : A < W.heap.size := e; omega) _, h.lR, h.lP, h.lm, h.nP⟩
theorem QY.seven {F : Nat → Prop} {W : World} {m : Nat} {mr : Array Value} {P R : Nat} {row : Array Value} {y0 y1 y2 y3 y4 y5 y6 : Value} {wr : World} (h : QY F W m mr P R row #[y0, y1, y2, y3, y4, y5, y6] wr) (x0 x1 x2 x3 x4 x5 x6 : Value) : QY F W m mr P R row #[x0, x1, x2, x3, x4, x5, x6] (wr.setCells R 0 [x0, x1, x2, x3, x4, x5, x6]) := by
 have h0 : QY F W m mr P R row #[x0, y1, y2, y3, y4, y5, y6] (wr.setCell ⟨R, 0, none⟩ x0) := h.set 0 x0
 have h1 : QY F W m mr P R row #[x0, x1, y2, y3, y4, y5, y6] ((wr.setCell ⟨R, 0, none⟩ x0).setCell ⟨R, 1, none⟩ x1) := h0.set 1 x1
 have h2 : QY F W m mr P R row #[x0, x1, x2, y3, y4, y5, y6] (((wr.setCell ⟨R, 0, none⟩ x0).setCell ⟨R, 1, none⟩ x1).setCell ⟨R, 2, none⟩ x2) := h1.set 2 x2
 have h3 : QY F W m mr P R row #[x0, x1, x2, x3, y4, y5, y6] ((((wr.setCell ⟨R, 0, none⟩ x0).setCell ⟨R, 1, none⟩ x1).setCell ⟨R, 2, none⟩ x2).setCell ⟨R, 3, none⟩ x3) := h2.set 3 x3
 have h4 : QY F W m mr P R row #[x0, x1, x2, x3, x4, y5, y6] (((((wr.setCell ⟨R, 0, none⟩ x0).setCell ⟨R, 1, none⟩ x1).setCell ⟨R, 2, none⟩ x2).setCell ⟨R, 3, none⟩ x3).setCell ⟨R, 4, none⟩ x4) := h3.set 4 x4
 have h5 : QY F W m mr P R row #[x0, x1, x2, x3, x4, x5, y6] ((((((wr.setCell ⟨R, 0, none⟩ x0).setCell ⟨R, 1, none⟩ x1).setCell ⟨R, 2, none⟩ x2).setCell ⟨R, 3, none⟩ x3).setCell ⟨R, 4, none⟩ x4).setCell ⟨R, 5, none⟩ x5) := h4.set 5 x5
 have h6 : QY F W m mr P R row #[x0, x1, x2, x3, x4, x5, x6] (((((((wr.setCell ⟨R, 0, none⟩ x0).setCell ⟨R, 1, none⟩ x1).setCell ⟨R, 2, none⟩ x2).setCell ⟨R, 3, none⟩ x3).setCell ⟨R, 4, none⟩ x4).setCell ⟨R, 5, none⟩ x5).setCell ⟨R, 6, none⟩ x6) := h5.set 6 x6
 exact h6
theorem QY.there {F : Nat → Prop} {W : World} {m : Nat} {mr : Array Value} {P R : Nat} {row : Array Value} {y0 y1 y2 y3 y4 y5 y6 : Value} {wr : World} (h : QY F W m mr P R row #[y0, y1, y2, y3, y4, y5, y6] wr) : wr.there R 0 7 := fun j hj => ⟨by rw [cell_of h.ax]; match j, hj with | 0, _ => rfl | 1, _ => rfl | 2, _ => rfl | 3, _ => rfl | 4, _ => rfl | 5, _ => rfl | 6, _ => rfl, free_of h.ax _⟩
theorem chg_seven {w : World} {R : Nat} (xs : List Value) : ∀ o, Chg (fun k => k = R) w (w.setCells R o xs) := by
 induction xs generalizing w with
 | nil => intro o; exact Chg.refl _ _
 | cons x xs ih => intro o; exact ((Chg.refl (fun k => k = R) w).setCell (p := ⟨R, o, none⟩) (fun _ => rfl) x).trans (ih (o + 1)) (fun _ _ x => x) (fun _ _ x => x)
def Wrote (W : World) (m : Nat) (mu : Int) (hv : Value) (hs : List (Nat × Value)) (ans : Array Value) (f : Nat → Option Nat) (l : List (Nat × Nat)) (e : Ending) (W' : World) : Prop :=
 e = .returned (.agg ans) ∧ (∃ v, RMod W' m mu v hv hs ∧ RL W' v f l ∧ ∀ b, v.ownBlock = some b → W.heap.size ≤ b) ∧ Chg (fun k => k = m) W W'
set_option maxRecDepth 100000 in
theorem d_put {W : World} {m : Nat} {mu : Int} {mv hv : Value} {hs : List (Nat × Value)} (H : RMod W m mu mv hv hs) {g : Nat → Option Nat} {l : List (Nat × Nat)} (hg : RL W mv g l) (hgl : l.length ≤ 4398046510000) {k : Nat} (hk : k < 18446744073709551616) {x : Nat} (hx : x < 18446744073709551616) {v od hk9 r6 r7 lo hi hd : Int} {r5 : Bool} {kp : Option Addr} {kn kc : Nat} :
    Calls Tryz.prog 15 #[.pointer (some ⟨m, 0, none⟩), .agg #[.int .u8 2, .int .u64 k, .int .u64 x, .int .u64 od, .int .u64 hk9, .bool r5, .int .i64 r6, .int .i64 r7, .slice kp kn kc, .int .u64 lo, .int .u64 hi], .int .u64 hd] W (Wrote W m mu hv hs #[.int .i64 0, .bool (g k).isSome, .int .u64 (((g k).getD 0 : Nat) : Int), .bool false, .int .u64 0, .slice none 0 0, .int .u64 0] (updO g k (some x)) (withL l k x)) := by
 unfold Wrote
 have HWI := keepH (fun w (hc : Chg (fun _ => False) W w) => r_with (hg.quiet hc) hgl hk hx)
 have hlm := lt_of H.at_
 have HFD := keepH (fun w (hc : Chg (fun _ => False) W w) => r_findL (hg.quiet hc) hgl hk)
 obtain ⟨fv, hfv⟩ : ∃ fv, fv = (g k).getD 0 := ⟨_, rfl⟩
 obtain ⟨fb, hfb⟩ : ∃ fb, fb = (g k).isSome := ⟨_, rfl⟩
 rw [← hfv, ← hfb] at HFD ⊢
 have HFV := keepH hfv
 have HFB := keepH hfb
 have hQ1 : QX W m #[.int .i64 mu, mv, hv] W.heap.size (W.heap.size + 1) #[.int .u8 2, .int .u64 k, .int .u64 x, .int .u64 od, .int .u64 hk9, .bool r5, .int .i64 r6, .int .i64 r7, .slice kp kn kc, .int .u64 lo, .int .u64 hi] #[.int .i64 0, .bool false, .int .u64 0, .bool false, .int .u64 0, .slice none 0 0, .int .u64 0] ((W.alloc (.cells #[.int .u8 2, .int .u64 k, .int .u64 x, .int .u64 od, .int .u64 hk9, .bool r5, .int .i64 r6, .int .i64 r7, .slice kp kn kc, .int .u64 lo, .int .u64 hi] 35)).alloc (.cells #[.int .i64 0, .bool false, .int .u64 0, .bool false, .int .u64 0, .slice none 0 0, .int .u64 0] 39)) := QX.two W H.at_ _ _
 obtain ⟨w1, hw1⟩ : ∃ w1, w1 = (W.alloc (.cells #[.int .u8 2, .int .u64 k, .int .u64 x, .int .u64 od, .int .u64 hk9, .bool r5, .int .i64 r6, .int .i64 r7, .slice kp kn kc, .int .u64 lo, .int .u64 hi] 35)).alloc (.cells #[.int .i64 0, .bool false, .int .u64 0, .bool false, .int .u64 0, .slice none 0 0, .int .u64 0] 39) := ⟨_, rfl⟩
 obtain ⟨P, hP⟩ : ∃ P, P = W.heap.size := ⟨_, rfl⟩
 obtain ⟨R, hR⟩ : ∃ R, R = W.heap.size + 1 := ⟨_, rfl⟩
 rw [← hw1, ← hR, ← hP] at hQ1
 have HQ1 := keepH hQ1
 have HW1 := keepH hw1
 have HP := keepH hP
 have HR := keepH hR
 have HH := keepH H
 have HG := keepH hg
 have HGL := keepH hgl
 have HK := keepH hk
 have hlP : W.heap.size ≤ P := by omega
 have hAPR : ∀ y, R < y → y ≠ P := fun y hy => by omega
 clear H hg hgl hk hfv hfb hQ1 hw1 hP hR
 go_enter Tryz.func15, Tryz.ntmps15
 go_upto_region 1 with fail
 rw [show (W.alloc (.cells #[.int .u8 2, .int .u64 k, .int .u64 x, .int .u64 od, .int .u64 hk9, .bool r5, .int .i64 r6, .int .i64 r7, .slice kp kn kc, .int .u64 lo, .int .u64 hi] 35)).alloc (.cells #[.int .i64 0, .bool false, .int .u64 0, .bool false, .int .u64 0, .slice none 0 0, .int .u64 0] 39) = w1 from HW1.out.symm, ← HR.out, ← HP.out]
 clear HW1 HP HR
 go_upto_region 3 with fail
 have HS2 : Hid ((fun w => w.heap[m]? = some (.cells #[.int .i64 mu, mv, hv] 105 (0, 0)) ∧ w.heap[P]? = some (.cells #[.int .u8 2, .int .u64 k, .int .u64 x, .int .u64 od, .int .u64 hk9, .bool r5, .int .i64 r6, .int .i64 r7, .slice kp kn kc, .int .u64 lo, .int .u64 hi] 35 (0, 0))) w1.drew) := keepH ⟨HQ1.out.md, HQ1.out.ox⟩
 refine wp_region_held_drew (S := fun w => w.heap[m]? = some (.cells #[.int .i64 mu, mv, hv] 105 (0, 0)) ∧ w.heap[P]? = some (.cells #[.int .u8 2, .int .u64 k, .int .u64 x, .int .u64 od, .int .u64 hk9, .bool r5, .int .i64 r6, .int .i64 r7, .slice kp kn kc, .int .u64 lo, .int .u64 hi] 35 (0, 0))) (by kernel_rfl) (HS2.out) ?_
 intro hHeld
 refine wT (v := ?_) 0 rfl (by rfl) ?_ hHeld ?_
 rotate_left
 ·intro w hSw
  try dsimp only at hSw
  go_simp
  try with_reducible rfl
 try simp only [Act.put, lj]
 refine wT (v := ?_) 1 rfl (by rfl) ?_ hHeld ?_
 rotate_left
 ·intro w hSw
  try dsimp only at hSw
  go_simp
  try with_reducible rfl
 try simp only [Act.put, lj]
 refine wT (v := ?_) 2 rfl (by rfl) ?_ hHeld ?_
 rotate_left
 ·intro w hSw
  try dsimp only at hSw
  go_simp
  try with_reducible rfl
 try simp only [Act.put, lj]
 refine wT (v := ?_) 3 rfl (by rfl) ?_ hHeld ?_
 rotate_left
 ·intro w hSw
  try dsimp only at hSw
  have y1 := cell_of hSw.1 1
  go_simp
  try with_reducible rfl
 try simp only [Act.put, lj]
 refine wT (v := ?_) 4 rfl (by rfl) ?_ hHeld ?_
 rotate_left
 ·intro w hSw
  try dsimp only at hSw
  go_simp
  try with_reducible rfl
 try simp only [Act.put, lj]
 refine wT (v := ?_) 5 rfl (by rfl) ?_ hHeld ?_
 rotate_left
 ·intro w hSw
  try dsimp only at hSw
  have z1 := cell_of hSw.2 1
  go_simp
  try with_reducible rfl
 try simp only [Act.put, lj]
 refine wR 6 rfl (fun KK hKK => ?_)
 go_simp
 refine (HFD.out _ (chgF HQ1.out.ch (chg_dn (Chg.refl _ _) 1))).mono ?_
 rintro e w3 ⟨rfl, hw3⟩
 have HQ3 : Hid (QX W m #[.int .i64 mu, mv, hv] P R #[.int .u8 2, .int .u64 k, .int .u64 x, .int .u64 od, .int .u64 hk9, .bool r5, .int .i64 r6, .int .i64 r7, .slice kp kn kc, .int .u64 lo, .int .u64 hi] #[.int .i64 0, .bool false, .int .u64 0, .bool false, .int .u64 0, .slice none 0 0, .int .u64 0] w3) := keepH (by rw [hw3]; exact HQ1.out.on (chg_dn (Chg.refl _ _) 1))
 clear hw3
 have hcc := And.intro HQ3.out.md HQ3.out.ox
 refine hKK.out _ _ ?_ (fun hHeld => ?_)
 ·exact hcc
 clear hKK KK
 try simp only [Act.put, lj]
 refine wT (v := ?_) 7 rfl (by rfl) ?_ hHeld ?_
 rotate_left
 ·intro w hSw
  try dsimp only at hSw
  go_simp
  try with_reducible rfl
 try simp only [Act.put, lj]
 refine wT (v := ?_) 8 rfl (by rfl) ?_ hHeld ?_
 rotate_left
 ·intro w hSw
  try dsimp only at hSw
  go_simp
  try with_reducible rfl
 try simp only [Act.put, lj]
 refine wT (v := ?_) 9 rfl (by rfl) ?_ hHeld ?_
 rotate_left
 ·intro w hSw
  try dsimp only at hSw
  go_simp
  try with_reducible rfl
 try simp only [Act.put, lj]
 refine wT (v := ?_) 10 rfl (by rfl) ?_ hHeld ?_
 rotate_left
 ·intro w hSw
  try dsimp only at hSw
  go_simp
  try with_reducible rfl
 try simp only [Act.put, lj]
 refine wT (v := ?_) 11 rfl (by rfl) ?_ hHeld ?_
 rotate_left
 ·intro w hSw
  try dsimp only at hSw
  go_simp
  try with_reducible rfl
 try simp only [Act.put, lj]
 refine wpAnyH_done (by kernel_rfl) ?_ _
 go_simp
 clear hHeld HFD HQ1 HS2
 go_upto_region 5 with fail
 obtain ⟨w4, hw4⟩ : ∃ w4, w4 = w3.alloc (.cells #[.int .i64 0, .bool fb, .int .u64 fv, .bool false, .int .u64 0, .slice none 0 0, .int .u64 0] 39) := ⟨_, rfl⟩
 obtain ⟨A, hA⟩ : ∃ A, A = w3.heap.size := ⟨_, rfl⟩
 have HQ4 : Hid (QX W m #[.int .i64 mu, mv, hv] P R #[.int .u8 2, .int .u64 k, .int .u64 x, .int .u64 od, .int .u64 hk9, .bool r5, .int .i64 r6, .int .i64 r7, .slice kp kn kc, .int .u64 lo, .int .u64 hi] #[.int .i64 0, .bool false, .int .u64 0, .bool false, .int .u64 0, .slice none 0 0, .int .u64 0] w4) := keepH (by rw [hw4]; exact HQ3.out.on ((Chg.refl _ _).alloc _))
 have HA : Hid (w4.heap[A]? = some (.cells #[.int .i64 0, .bool fb, .int .u64 fv, .bool false, .int .u64 0, .slice none 0 0, .int .u64 0] 39 (0, 0))) := keepH (by rw [hw4, hA]; exact heap_alloc_new _ _)
 have hAP : A ≠ P := by have := lt_of HQ3.out.ox; omega
 have hAR : A ≠ R := by have := lt_of HQ3.out.ax; omega
 have hAl : W.heap.size ≤ A := by have := HQ3.out.ch.size; omega
 rw [← hw4, ← hA]
 clear hcc HQ3 hw4 hA
 have p0 : w4.cell? ⟨P, 0, none⟩ = _ := cell_of HQ4.out.ox 0
 have HL4 := keepH (lt_of HA.out)
 go_upto_region 9 with fail
 have HS4 : Hid ((fun w => w.heap[P]? = some (.cells #[.int .u8 2, .int .u64 k, .int .u64 x, .int .u64 od, .int .u64 hk9, .bool r5, .int .i64 r6, .int .i64 r7, .slice kp kn kc, .int .u64 lo, .int .u64 hi] 35 (0, 0))) w4.drew) := keepH HQ4.out.ox
 refine wp_region_held_drew (S := fun w => w.heap[P]? = some (.cells #[.int .u8 2, .int .u64 k, .int .u64 x, .int .u64 od, .int .u64 hk9, .bool r5, .int .i64 r6, .int .i64 r7, .slice kp kn kc, .int .u64 lo, .int .u64 hi] 35 (0, 0))) (by kernel_rfl) (HS4.out) ?_
 intro hHeld
 refine wT (v := ?_) 0 rfl (by rfl) ?_ hHeld ?_
 rotate_left
 ·intro w hSw
  try dsimp only at hSw
  go_simp
  try with_reducible rfl
 try simp only [Act.put, lj]
 refine wT (v := ?_) 1 rfl (by rfl) ?_ hHeld ?_
 rotate_left
 ·intro w hSw
  try dsimp only at hSw
  go_simp
  try with_reducible rfl
 try simp only [Act.put, lj]
 refine wT (v := ?_) 2 rfl (by rfl) ?_ hHeld ?_
 rotate_left
 ·intro w hSw
  try dsimp only at hSw
  go_simp
  try with_reducible rfl
 try simp only [Act.put, lj]
 refine wT (v := ?_) 3 rfl (by rfl) ?_ hHeld ?_
 rotate_left
 ·intro w hSw
  try dsimp only at hSw
  go_simp
  try with_reducible rfl
 try simp only [Act.put, lj]
 refine wT (v := ?_) 5 rfl (by rfl) ?_ hHeld ?_
 rotate_left
 ·intro w hSw
  try dsimp only at hSw
  go_simp
  try with_reducible rfl
 try simp only [Act.put, lj]
 refine wT (v := ?_) 6 rfl (by rfl) ?_ hHeld ?_
 rotate_left
 ·intro w hSw
  try dsimp only at hSw
  have z1 := cell_of hSw 1
  go_simp
  try with_reducible rfl
 try simp only [Act.put, lj]
 refine wT (v := ?_) 7 rfl (by rfl) ?_ hHeld ?_
 rotate_left
 ·intro w hSw
  try dsimp only at hSw
  go_simp
  try with_reducible rfl
 try simp only [Act.put, lj]
 refine wT (v := ?_) 8 rfl (by rfl) ?_ hHeld ?_
 rotate_left
 ·intro w hSw
  try dsimp only at hSw
  have z2 := cell_of hSw 2
  go_simp
  try with_reducible rfl
 try simp only [Act.put, lj]
 refine wR 4 rfl (fun KK hKK => ?_)
 have y1 : w4.drew.cell? ⟨m, 1, none⟩ = some mv := cell_of HQ4.out.md 1
 go_simp
 refine hKK.out _ _ ?_ (fun hHeld => ?_)
 ·exact HS4.out
 clear hKK KK
 try simp only [Act.put, lj]
 refine wR 9 rfl (fun KK hKK => ?_)
 go_simp
 refine (HWI.out _ (chgF HQ4.out.ch (chg_dn (Chg.refl _ _) 1))).mono ?_
 rintro e w5 ⟨⟨v5, rfl, hr5, hn5⟩, hc5⟩
 obtain ⟨vp, vc, rfl, -, -⟩ := hr5.row.slice
 obtain ⟨vn, hvn⟩ : ∃ vn, vn = (withL l k x).length := ⟨_, rfl⟩
 rw [← hvn] at hr5 hn5 ⊢
 have HR5 := keepH hr5
 have HN5 := keepH hn5
 have HC5 : Hid (Chg (fun _ => False) w4 w5) := keepH (chgF (chg_dn (Chg.refl _ _) 1) hc5)
 have HQ5 : Hid (QY (fun k => k = m) W m #[.int .i64 mu, mv, hv] P R #[.int .u8 2, .int .u64 k, .int .u64 x, .int .u64 od, .int .u64 hk9, .bool r5, .int .i64 r6, .int .i64 r7, .slice kp kn kc, .int .u64 lo, .int .u64 hi] #[.int .i64 0, .bool false, .int .u64 0, .bool false, .int .u64 0, .slice none 0 0, .int .u64 0] w5) := keepH ((HQ4.out.on HC5.out).y hlP hlm)
 clear hr5 hn5 hc5 hvn
 refine hKK.out _ _ ?_ (fun hHeld => ?_)
 ·exact HQ5.out.ox
 clear hKK KK
 try simp only [Act.put, lj]
 refine wT (v := ?_) 10 rfl (by rfl) ?_ hHeld ?_
 rotate_left
 ·intro w hSw
  try dsimp only at hSw
  go_simp
  try with_reducible rfl
 try simp only [Act.put, lj]
 refine wT (v := ?_) 11 rfl (by rfl) ?_ hHeld ?_
 rotate_left
 ·intro w hSw
  try dsimp only at hSw
  go_simp
  try with_reducible rfl
 try simp only [Act.put, lj]
 refine wR 12 rfl (fun KK hKK => ?_)
 have x1 : w5.cell? ⟨m, 1, none⟩ = some mv := cell_of HQ5.out.md 1
 have z1 := free_of HQ5.out.md 1
 go_simp
 refine hKK.out _ _ ?_ (fun hHeld => ?_)
 ·exact (HQ5.out.model 1 (.slice vp vn vc)).ox
 clear hKK KK
 try simp only [Act.put, lj]
 refine wpAnyH_done (by kernel_rfl) ?_ _
 go_simp
 clear hHeld
 obtain ⟨w6, hw6⟩ : ∃ w6, w6 = w5.setCell ⟨m, 1, none⟩ (.slice vp vn vc) := ⟨_, rfl⟩
 have HQ6 : Hid (QY (fun k => k = m) W m #[.int .i64 mu, .slice vp vn vc, hv] P R #[.int .u8 2, .int .u64 k, .int .u64 x, .int .u64 od, .int .u64 hk9, .bool r5, .int .i64 r6, .int .i64 r7, .slice kp kn kc, .int .u64 lo, .int .u64 hi] #[.int .i64 0, .bool false, .int .u64 0, .bool false, .int .u64 0, .slice none 0 0, .int .u64 0] w6) := keepH (by rw [hw6]; exact HQ5.out.model 1 (.slice vp vn vc))
 have HC6 : Hid (Chg (fun k => k = m) w5 w6) := keepH (by rw [hw6]; exact (Chg.refl (fun k => k = m) w5).setCell (p := ⟨m, 1, none⟩) (fun _ => rfl) _)
 have HA6 : Hid (w6.heap[A]? = some (.cells #[.int .i64 0, .bool fb, .int .u64 fv, .bool false, .int .u64 0, .slice none 0 0, .int .u64 0] 39 (0, 0))) := keepH (by rw [hw6]; exact other_of ((HC5.out.block A HL4.out (fun x => x)).trans HA.out) (by omega) _)
 have HZ5 : Hid (R < w5.heap.size) := keepH (lt_of HQ5.out.ax)
 rw [← hw6]
 clear hw6
 have a0 : w6.cell? ⟨A, 0, none⟩ = _ := cell_of HA6.out 0
 have a1 : w6.cell? ⟨A, 1, none⟩ = _ := cell_of HA6.out 1
 have a2 : w6.cell? ⟨A, 2, none⟩ = _ := cell_of HA6.out 2
 have a3 : w6.cell? ⟨A, 3, none⟩ = _ := cell_of HA6.out 3
 have a4 : w6.cell? ⟨A, 4, none⟩ = _ := cell_of HA6.out 4
 have a5 : w6.cell? ⟨A, 5, none⟩ = _ := cell_of HA6.out 5
 have a6 : w6.cell? ⟨A, 6, none⟩ = _ := cell_of HA6.out 6
 go_wp2_with (refine wpList_store_mid rfl 39 (.tmp 6) (.tmp 46) rfl R 0 #[.int .i64 0, .bool fb, .int .u64 fv, .bool false, .int .u64 0, .slice none 0 0, .int .u64 0] rfl rfl HQ6.out.there (by kernel_rfl) (by simp [Value.oneCell']) ?_; have HQ7 := keepH (HQ6.out.seven (.int .i64 0) (.bool fb) (.int .u64 fv) (.bool false) (.int .u64 0) (.slice none 0 0) (.int .u64 0)))
 have e0 := cell_of HQ7.out.ax 0
 have e1 := cell_of HQ7.out.ax 1
 have e2 := cell_of HQ7.out.ax 2
 have e3 := cell_of HQ7.out.ax 3
 have e4 := cell_of HQ7.out.ax 4
 have e5 := cell_of HQ7.out.ax 5
 have e6 := cell_of HQ7.out.ax 6
 simp at e0 e1 e2 e3 e4 e5 e6
 go_wp2_with fail
 refine bodyPost_ret (v := .agg #[.int .i64 0, .bool fb, .int .u64 fv, .bool false, .int .u64 0, .slice none 0 0, .int .u64 0]) (by simp [results, Tryz.results15, go_sem, e0, e1, e2, e3, e4, e5, e6]) rfl ?_
 refine ⟨rfl, ⟨.slice vp vn vc, ⟨HQ7.out.md, HH.out.row.chg HQ7.out.ch (fun b hb => HH.out.ne b hb)⟩, ?_, fun b hb => ?_⟩, HQ7.out.ch⟩
 ·refine HR5.out.chg (F := fun k => k = m ∨ k = R) ((HC6.out.mono (fun _ _ x => Or.inl x)).trans (chg_seven _ 0) (fun _ _ x => x) (fun _ _ x => Or.inr x)) (fun b hb e => ?_)
  have h1 := HN5.out b hb
  have h2 : R < w4.heap.size := lt_of HQ4.out.ax
  have h3 : w4.heap.size ≤ b := h1
  have h4 := HQ4.out.ch.size
  rcases e with e | e <;> omega
 ·have h1 : w4.heap.size ≤ b := HN5.out b hb
  have h4 := HQ4.out.ch.size
  omega
set_option maxRecDepth 100000 in
theorem d_delete {W : World} {m : Nat} {mu : Int} {mv hv : Value} {hs : List (Nat × Value)} (H : RMod W m mu mv hv hs) {g : Nat → Option Nat} {l : List (Nat × Nat)} (hg : RL W mv g l) (hgl : l.length ≤ 4398046510000) {k : Nat} (hk : k < 18446744073709551616) {v od hk9 r6 r7 lo hi hd : Int} {r5 : Bool} {kp : Option Addr} {kn kc : Nat} :
    Calls Tryz.prog 15 #[.pointer (some ⟨m, 0, none⟩), .agg #[.int .u8 3, .int .u64 k, .int .u64 v, .int .u64 od, .int .u64 hk9, .bool r5, .int .i64 r6, .int .i64 r7, .slice kp kn kc, .int .u64 lo, .int .u64 hi], .int .u64 hd] W (Wrote W m mu hv hs #[.int .i64 0, .bool (g k).isSome, .int .u64 (((g k).getD 0 : Nat) : Int), .bool false, .int .u64 0, .slice none 0 0, .int .u64 0] (updO g k none) (l.filter (fun y => y.1 != k))) := by
 unfold Wrote
 have HWI := keepH (fun w (hc : Chg (fun _ => False) W w) => r_withoutL (hg.quiet hc) hgl k)
 have hlm := lt_of H.at_
 have HFD := keepH (fun w (hc : Chg (fun _ => False) W w) => r_findL (hg.quiet hc) hgl hk)
 obtain ⟨fv, hfv⟩ : ∃ fv, fv = (g k).getD 0 := ⟨_, rfl⟩
 obtain ⟨fb, hfb⟩ : ∃ fb, fb = (g k).isSome := ⟨_, rfl⟩
 rw [← hfv, ← hfb] at HFD ⊢
 have HFV := keepH hfv
 have HFB := keepH hfb
 have hQ1 : QX W m #[.int .i64 mu, mv, hv] W.heap.size (W.heap.size + 1) #[.int .u8 3, .int .u64 k, .int .u64 v, .int .u64 od, .int .u64 hk9, .bool r5, .int .i64 r6, .int .i64 r7, .slice kp kn kc, .int .u64 lo, .int .u64 hi] #[.int .i64 0, .bool false, .int .u64 0, .bool false, .int .u64 0, .slice none 0 0, .int .u64 0] ((W.alloc (.cells #[.int .u8 3, .int .u64 k, .int .u64 v, .int .u64 od, .int .u64 hk9, .bool r5, .int .i64 r6, .int .i64 r7, .slice kp kn kc, .int .u64 lo, .int .u64 hi] 35)).alloc (.cells #[.int .i64 0, .bool false, .int .u64 0, .bool false, .int .u64 0, .slice none 0 0, .int .u64 0] 39)) := QX.two W H.at_ _ _
 obtain ⟨w1, hw1⟩ : ∃ w1, w1 = (W.alloc (.cells #[.int .u8 3, .int .u64 k, .int .u64 v, .int .u64 od, .int .u64 hk9, .bool r5, .int .i64 r6, .int .i64 r7, .slice kp kn kc, .int .u64 lo, .int .u64 hi] 35)).alloc (.cells #[.int .i64 0, .bool false, .int .u64 0, .bool false, .int .u64 0, .slice none 0 0, .int .u64 0] 39) := ⟨_, rfl⟩
 obtain ⟨P, hP⟩ : ∃ P, P = W.heap.size := ⟨_, rfl⟩
 obtain ⟨R, hR⟩ : ∃ R, R = W.heap.size + 1 := ⟨_, rfl⟩
 rw [← hw1, ← hR, ← hP] at hQ1
 have HQ1 := keepH hQ1
 have HW1 := keepH hw1
 have HP := keepH hP
 have HR := keepH hR
 have HH := keepH H
 have HG := keepH hg
 have HGL := keepH hgl
 have HK := keepH hk
 have hlP : W.heap.size ≤ P := by omega
 have hAPR : ∀ y, R < y → y ≠ P := fun y hy => by omega
 clear H hg hgl hk hfv hfb hQ1 hw1 hP hR
 go_enter Tryz.func15, Tryz.ntmps15
 go_upto_region 1 with fail
 rw [show (W.alloc (.cells #[.int .u8 3, .int .u64 k, .int .u64 v, .int .u64 od, .int .u64 hk9, .bool r5, .int .i64 r6, .int .i64 r7, .slice kp kn kc, .int .u64 lo, .int .u64 hi] 35)).alloc (.cells #[.int .i64 0, .bool false, .int .u64 0, .bool false, .int .u64 0, .slice none 0 0, .int .u64 0] 39) = w1 from HW1.out.symm, ← HR.out, ← HP.out]
 clear HW1 HP HR
 go_upto_region 3 with fail
 have HS2 : Hid ((fun w => w.heap[m]? = some (.cells #[.int .i64 mu, mv, hv] 105 (0, 0)) ∧ w.heap[P]? = some (.cells #[.int .u8 3, .int .u64 k, .int .u64 v, .int .u64 od, .int .u64 hk9, .bool r5, .int .i64 r6, .int .i64 r7, .slice kp kn kc, .int .u64 lo, .int .u64 hi] 35 (0, 0))) w1.drew) := keepH ⟨HQ1.out.md, HQ1.out.ox⟩
 refine wp_region_held_drew (S := fun w => w.heap[m]? = some (.cells #[.int .i64 mu, mv, hv] 105 (0, 0)) ∧ w.heap[P]? = some (.cells #[.int .u8 3, .int .u64 k, .int .u64 v, .int .u64 od, .int .u64 hk9, .bool r5, .int .i64 r6, .int .i64 r7, .slice kp kn kc, .int .u64 lo, .int .u64 hi] 35 (0, 0))) (by kernel_rfl) (HS2.out) ?_
 intro hHeld
 refine wT (v := ?_) 0 rfl (by rfl) ?_ hHeld ?_
 rotate_left
 ·intro w hSw
  try dsimp only at hSw
  go_simp
  try with_reducible rfl
 try simp only [Act.put, lj]
 refine wT (v := ?_) 1 rfl (by rfl) ?_ hHeld ?_
 rotate_left
 ·intro w hSw
  try dsimp only at hSw
  go_simp
  try with_reducible rfl
 try simp only [Act.put, lj]
 refine wT (v := ?_) 2 rfl (by rfl) ?_ hHeld ?_
 rotate_left
 ·intro w hSw
  try dsimp only at hSw
  go_simp
  try with_reducible rfl
 try simp only [Act.put, lj]
 refine wT (v := ?_) 3 rfl (by rfl) ?_ hHeld ?_
 rotate_left
 ·intro w hSw
  try dsimp only at hSw
  have y1 := cell_of hSw.1 1
  go_simp
  try with_reducible rfl
 try simp only [Act.put, lj]
 refine wT (v := ?_) 4 rfl (by rfl) ?_ hHeld ?_
 rotate_left
 ·intro w hSw
  try dsimp only at hSw
  go_simp
  try with_reducible rfl
 try simp only [Act.put, lj]
 refine wT (v := ?_) 5 rfl (by rfl) ?_ hHeld ?_
 rotate_left
 ·intro w hSw
  try dsimp only at hSw
  have z1 := cell_of hSw.2 1
  go_simp
  try with_reducible rfl
 try simp only [Act.put, lj]
 refine wR 6 rfl (fun KK hKK => ?_)
 go_simp
 refine (HFD.out _ (chgF HQ1.out.ch (chg_dn (Chg.refl _ _) 1))).mono ?_
 rintro e w3 ⟨rfl, hw3⟩
 have HQ3 : Hid (QX W m #[.int .i64 mu, mv, hv] P R #[.int .u8 3, .int .u64 k, .int .u64 v, .int .u64 od, .int .u64 hk9, .bool r5, .int .i64 r6, .int .i64 r7, .slice kp kn kc, .int .u64 lo, .int .u64 hi] #[.int .i64 0, .bool false, .int .u64 0, .bool false, .int .u64 0, .slice none 0 0, .int .u64 0] w3) := keepH (by rw [hw3]; exact HQ1.out.on (chg_dn (Chg.refl _ _) 1))
 clear hw3
 have hcc := And.intro HQ3.out.md HQ3.out.ox
 refine hKK.out _ _ ?_ (fun hHeld => ?_)
 ·exact hcc
 clear hKK KK
 try simp only [Act.put, lj]
 refine wT (v := ?_) 7 rfl (by rfl) ?_ hHeld ?_
 rotate_left
 ·intro w hSw
  try dsimp only at hSw
  go_simp
  try with_reducible rfl
 try simp only [Act.put, lj]
 refine wT (v := ?_) 8 rfl (by rfl) ?_ hHeld ?_
 rotate_left
 ·intro w hSw
  try dsimp only at hSw
  go_simp
  try with_reducible rfl
 try simp only [Act.put, lj]
 refine wT (v := ?_) 9 rfl (by rfl) ?_ hHeld ?_
 rotate_left
 ·intro w hSw
  try dsimp only at hSw
  go_simp
  try with_reducible rfl
 try simp only [Act.put, lj]
 refine wT (v := ?_) 10 rfl (by rfl) ?_ hHeld ?_
 rotate_left
 ·intro w hSw
  try dsimp only at hSw
  go_simp
  try with_reducible rfl
 try simp only [Act.put, lj]
 refine wT (v := ?_) 11 rfl (by rfl) ?_ hHeld ?_
 rotate_left
 ·intro w hSw
  try dsimp only at hSw
  go_simp
  try with_reducible rfl
 try simp only [Act.put, lj]
 refine wpAnyH_done (by kernel_rfl) ?_ _
 go_simp
 clear hHeld HFD HQ1 HS2
 go_upto_region 5 with fail
 obtain ⟨w4, hw4⟩ : ∃ w4, w4 = w3.alloc (.cells #[.int .i64 0, .bool fb, .int .u64 fv, .bool false, .int .u64 0, .slice none 0 0, .int .u64 0] 39) := ⟨_, rfl⟩
 obtain ⟨A, hA⟩ : ∃ A, A = w3.heap.size := ⟨_, rfl⟩
 have HQ4 : Hid (QX W m #[.int .i64 mu, mv, hv] P R #[.int .u8 3, .int .u64 k, .int .u64 v, .int .u64 od, .int .u64 hk9, .bool r5, .int .i64 r6, .int .i64 r7, .slice kp kn kc, .int .u64 lo, .int .u64 hi] #[.int .i64 0, .bool false, .int .u64 0, .bool false, .int .u64 0, .slice none 0 0, .int .u64 0] w4) := keepH (by rw [hw4]; exact HQ3.out.on ((Chg.refl _ _).alloc _))
 have HA : Hid (w4.heap[A]? = some (.cells #[.int .i64 0, .bool fb, .int .u64 fv, .bool false, .int .u64 0, .slice none 0 0, .int .u64 0] 39 (0, 0))) := keepH (by rw [hw4, hA]; exact heap_alloc_new _ _)
 have hAP : A ≠ P := by have := lt_of HQ3.out.ox; omega
 have hAR : A ≠ R := by have := lt_of HQ3.out.ax; omega
 have hAl : W.heap.size ≤ A := by have := HQ3.out.ch.size; omega
 rw [← hw4, ← hA]
 clear hcc HQ3 hw4 hA
 have p0 : w4.cell? ⟨P, 0, none⟩ = _ := cell_of HQ4.out.ox 0
 have HL4 := keepH (lt_of HA.out)
 go_upto_region 12 with fail
 have HS4 : Hid ((fun w => w.heap[P]? = some (.cells #[.int .u8 3, .int .u64 k, .int .u64 v, .int .u64 od, .int .u64 hk9, .bool r5, .int .i64 r6, .int .i64 r7, .slice kp kn kc, .int .u64 lo, .int .u64 hi] 35 (0, 0))) w4.drew) := keepH HQ4.out.ox
 refine wp_region_held_drew (S := fun w => w.heap[P]? = some (.cells #[.int .u8 3, .int .u64 k, .int .u64 v, .int .u64 od, .int .u64 hk9, .bool r5, .int .i64 r6, .int .i64 r7, .slice kp kn kc, .int .u64 lo, .int .u64 hi] 35 (0, 0))) (by kernel_rfl) (HS4.out) ?_
 intro hHeld
 refine wT (v := ?_) 0 rfl (by rfl) ?_ hHeld ?_
 rotate_left
 ·intro w hSw
  try dsimp only at hSw
  go_simp
  try with_reducible rfl
 try simp only [Act.put, lj]
 refine wT (v := ?_) 1 rfl (by rfl) ?_ hHeld ?_
 rotate_left
 ·intro w hSw
  try dsimp only at hSw
  go_simp
  try with_reducible rfl
 try simp only [Act.put, lj]
 refine wT (v := ?_) 2 rfl (by rfl) ?_ hHeld ?_
 rotate_left
 ·intro w hSw
  try dsimp only at hSw
  go_simp
  try with_reducible rfl
 try simp only [Act.put, lj]
 refine wT (v := ?_) 3 rfl (by rfl) ?_ hHeld ?_
 rotate_left
 ·intro w hSw
  try dsimp only at hSw
  go_simp
  try with_reducible rfl
 try simp only [Act.put, lj]
 refine wT (v := ?_) 5 rfl (by rfl) ?_ hHeld ?_
 rotate_left
 ·intro w hSw
  try dsimp only at hSw
  go_simp
  try with_reducible rfl
 try simp only [Act.put, lj]
 refine wT (v := ?_) 6 rfl (by rfl) ?_ hHeld ?_
 rotate_left
 ·intro w hSw
  try dsimp only at hSw
  have z1 := cell_of hSw 1
  go_simp
  try with_reducible rfl
 try simp only [Act.put, lj]
 refine wR 4 rfl (fun KK hKK => ?_)
 have y1 : w4.drew.cell? ⟨m, 1, none⟩ = some mv := cell_of HQ4.out.md 1
 go_simp
 refine hKK.out _ _ ?_ (fun hHeld => ?_)
 ·exact HS4.out
 clear hKK KK
 try simp only [Act.put, lj]
 refine wR 7 rfl (fun KK hKK => ?_)
 go_simp
 refine (HWI.out _ (chgF HQ4.out.ch (chg_dn (Chg.refl _ _) 1))).mono ?_
 rintro e w5 ⟨⟨v5, rfl, hr5, hn5⟩, hc5⟩
 obtain ⟨vp, vc, rfl, -, -⟩ := hr5.row.slice
 obtain ⟨vn, hvn⟩ : ∃ vn, vn = (l.filter (fun y => y.1 != k)).length := ⟨_, rfl⟩
 rw [← hvn] at hr5 hn5 ⊢
 have HR5 := keepH hr5
 have HN5 := keepH hn5
 have HC5 : Hid (Chg (fun _ => False) w4 w5) := keepH (chgF (chg_dn (Chg.refl _ _) 1) hc5)
 have HQ5 : Hid (QY (fun k => k = m) W m #[.int .i64 mu, mv, hv] P R #[.int .u8 3, .int .u64 k, .int .u64 v, .int .u64 od, .int .u64 hk9, .bool r5, .int .i64 r6, .int .i64 r7, .slice kp kn kc, .int .u64 lo, .int .u64 hi] #[.int .i64 0, .bool false, .int .u64 0, .bool false, .int .u64 0, .slice none 0 0, .int .u64 0] w5) := keepH ((HQ4.out.on HC5.out).y hlP hlm)
 clear hr5 hn5 hc5 hvn
 refine hKK.out _ _ ?_ (fun hHeld => ?_)
 ·exact HQ5.out.ox
 clear hKK KK
 try simp only [Act.put, lj]
 refine wT (v := ?_) 8 rfl (by rfl) ?_ hHeld ?_
 rotate_left
 ·intro w hSw
  try dsimp only at hSw
  go_simp
  try with_reducible rfl
 try simp only [Act.put, lj]
 refine wT (v := ?_) 9 rfl (by rfl) ?_ hHeld ?_
 rotate_left
 ·intro w hSw
  try dsimp only at hSw
  go_simp
  try with_reducible rfl
 try simp only [Act.put, lj]
 refine wR 10 rfl (fun KK hKK => ?_)
 have x1 : w5.cell? ⟨m, 1, none⟩ = some mv := cell_of HQ5.out.md 1
 have z1 := free_of HQ5.out.md 1
 go_simp
 refine hKK.out _ _ ?_ (fun hHeld => ?_)
 ·exact (HQ5.out.model 1 (.slice vp vn vc)).ox
 clear hKK KK
 try simp only [Act.put, lj]
 refine wpAnyH_done (by kernel_rfl) ?_ _
 go_simp
 clear hHeld
 obtain ⟨w6, hw6⟩ : ∃ w6, w6 = w5.setCell ⟨m, 1, none⟩ (.slice vp vn vc) := ⟨_, rfl⟩
 have HQ6 : Hid (QY (fun k => k = m) W m #[.int .i64 mu, .slice vp vn vc, hv] P R #[.int .u8 3, .int .u64 k, .int .u64 v, .int .u64 od, .int .u64 hk9, .bool r5, .int .i64 r6, .int .i64 r7, .slice kp kn kc, .int .u64 lo, .int .u64 hi] #[.int .i64 0, .bool false, .int .u64 0, .bool false, .int .u64 0, .slice none 0 0, .int .u64 0] w6) := keepH (by rw [hw6]; exact HQ5.out.model 1 (.slice vp vn vc))
 have HC6 : Hid (Chg (fun k => k = m) w5 w6) := keepH (by rw [hw6]; exact (Chg.refl (fun k => k = m) w5).setCell (p := ⟨m, 1, none⟩) (fun _ => rfl) _)
 have HA6 : Hid (w6.heap[A]? = some (.cells #[.int .i64 0, .bool fb, .int .u64 fv, .bool false, .int .u64 0, .slice none 0 0, .int .u64 0] 39 (0, 0))) := keepH (by rw [hw6]; exact other_of ((HC5.out.block A HL4.out (fun x => x)).trans HA.out) (by omega) _)
 have HZ5 : Hid (R < w5.heap.size) := keepH (lt_of HQ5.out.ax)
 rw [← hw6]
 clear hw6
 have a0 : w6.cell? ⟨A, 0, none⟩ = _ := cell_of HA6.out 0
 have a1 : w6.cell? ⟨A, 1, none⟩ = _ := cell_of HA6.out 1
 have a2 : w6.cell? ⟨A, 2, none⟩ = _ := cell_of HA6.out 2
 have a3 : w6.cell? ⟨A, 3, none⟩ = _ := cell_of HA6.out 3
 have a4 : w6.cell? ⟨A, 4, none⟩ = _ := cell_of HA6.out 4
 have a5 : w6.cell? ⟨A, 5, none⟩ = _ := cell_of HA6.out 5
 have a6 : w6.cell? ⟨A, 6, none⟩ = _ := cell_of HA6.out 6
 go_wp2_with (refine wpList_store_mid rfl 39 (.tmp 6) (.tmp 59) rfl R 0 #[.int .i64 0, .bool fb, .int .u64 fv, .bool false, .int .u64 0, .slice none 0 0, .int .u64 0] rfl rfl HQ6.out.there (by kernel_rfl) (by simp [Value.oneCell']) ?_; have HQ7 := keepH (HQ6.out.seven (.int .i64 0) (.bool fb) (.int .u64 fv) (.bool false) (.int .u64 0) (.slice none 0 0) (.int .u64 0)))
 have e0 := cell_of HQ7.out.ax 0
 have e1 := cell_of HQ7.out.ax 1
 have e2 := cell_of HQ7.out.ax 2
 have e3 := cell_of HQ7.out.ax 3
 have e4 := cell_of HQ7.out.ax 4
 have e5 := cell_of HQ7.out.ax 5
 have e6 := cell_of HQ7.out.ax 6
 simp at e0 e1 e2 e3 e4 e5 e6
 go_wp2_with fail
 refine bodyPost_ret (v := .agg #[.int .i64 0, .bool fb, .int .u64 fv, .bool false, .int .u64 0, .slice none 0 0, .int .u64 0]) (by simp [results, Tryz.results15, go_sem, e0, e1, e2, e3, e4, e5, e6]) rfl ?_
 refine ⟨rfl, ⟨.slice vp vn vc, ⟨HQ7.out.md, HH.out.row.chg HQ7.out.ch (fun b hb => HH.out.ne b hb)⟩, ?_, fun b hb => ?_⟩, HQ7.out.ch⟩
 ·refine HR5.out.chg (F := fun k => k = m ∨ k = R) ((HC6.out.mono (fun _ _ x => Or.inl x)).trans (chg_seven _ 0) (fun _ _ x => x) (fun _ _ x => Or.inr x)) (fun b hb e => ?_)
  have h1 := HN5.out b hb
  have h2 : R < w4.heap.size := lt_of HQ4.out.ax
  have h3 : w4.heap.size ≤ b := h1
  have h4 := HQ4.out.ch.size
  rcases e with e | e <;> omega
 ·have h1 : w4.heap.size ≤ b := HN5.out b hb
  have h4 := HQ4.out.ch.size
  omega
end Go.Proofs.YtahgaghokpicgaaGreat
