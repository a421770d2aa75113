/- A query of a handle that is held, by the document's model: what it tells. (mkD6m.py) -/
import Derived.Test.YtahgaghokpicgaaGreatW7D6l
import Derived.Deep.RegionHeld
import Derived.Deep.MidRow
namespace Go.Proofs.YtahgaghokpicgaaGreat
open Go.RowKit Go.Maps
set_option linter.unusedVariables false
set_option maxHeartbeats 16000000
set_option linter.unusedSimpArgs false
theorem step_store_row6 {P : Program} {ops : Array Oper} {o : Oper} {a : Act} {w : World} {K : Act → World → Prop} {Q : Exit → Act → World → Prop} {E : Prop} (hgd : o.guard = none) (ty : TypeId) (x y : Operand) (ho : o.op = .store ty x y)
    (b off : Nat) (cells : Array Value) (hx : a.eval x = .pointer (some ⟨b, off, none⟩)) (hy : a.eval y = .agg cells)
    (ht : w.there b off cells.size) (hi : (P.info? ty).map (·.size) = some cells.size) (h1 : cells.all (·.oneCell') = true)
    (h : K (a.put o.dst undef) (w.setCells b off cells.toList)) : if Region.wanted o (yielded ops a.tmps) = true then Oper.wp P o a w K Q else E := by
 have hw : Region.wanted o (yielded ops a.tmps) = true := by simp [Region.wanted, hgd]
 rw [if_pos hw]
 exact wp_store_mid ty x y ho b off cells hx hy ht hi h1 h
structure QX (W : World) (m : Nat) (mr : Array Value) (P R : Nat) (row ar : Array Value) (wr : World) : Prop where
 md : wr.heap[m]? = some (.cells mr 105 (0, 0))
 ox : wr.heap[P]? = some (.cells row 35 (0, 0))
 ax : wr.heap[R]? = some (.cells ar 39 (0, 0))
 ch : Chg (fun _ => False) W wr
 lR : W.heap.size ≤ R
 nm : m ≠ R
 nP : P ≠ R
theorem chgF {a b c : World} (h : Chg (fun _ => False) a b) (k : Chg (fun _ => False) b c) : Chg (fun _ => False) a c := h.trans k (fun _ _ x => x) (fun _ _ x => x)
theorem QX.on {W : World} {m : Nat} {mr : Array Value} {P R : Nat} {row ar : Array Value} {wr X : World} (h : QX W m mr P R row ar wr) (c : Chg (fun _ => False) wr X) : QX W m mr P R row ar X :=
 ⟨(c.block m (lt_of h.md) (fun x => x)).trans h.md, (c.block P (lt_of h.ox) (fun x => x)).trans h.ox, (c.block R (lt_of h.ax) (fun x => x)).trans h.ax, chgF h.ch c, h.lR, h.nm, h.nP⟩
theorem QX.set {W : World} {m : Nat} {mr : Array Value} {P R : Nat} {row ar : Array Value} {wr : World} (h : QX W m mr P R row ar wr) (i : Nat) (x : Value) : QX W m mr P R row (ar.setIfInBounds i x) (wr.setCell ⟨R, i, none⟩ x) :=
 ⟨other_of h.md h.nm _, other_of h.ox h.nP _, set_of h.ax i x, h.ch.setCell (fun e => by have := h.lR; have e : R < W.heap.size := e; omega) _, h.lR, h.nm, h.nP⟩
theorem QX.seven {W : World} {m : Nat} {mr : Array Value} {P R : Nat} {row : Array Value} {y0 y1 y2 y3 y4 y5 y6 : Value} {wr : World} (h : QX W m mr P R row #[y0, y1, y2, y3, y4, y5, y6] wr) (x0 x1 x2 x3 x4 x5 x6 : Value) : QX W m mr P R row #[x0, x1, x2, x3, x4, x5, x6] (wr.setCells R 0 [x0, x1, x2, x3, x4, x5, x6]) := by
 have h0 : QX W m mr P R row #[x0, y1, y2, y3, y4, y5, y6] (wr.setCell ⟨R, 0, none⟩ x0) := h.set 0 x0
 have h1 : QX W m mr P R row #[x0, x1, y2, y3, y4, y5, y6] ((wr.setCell ⟨R, 0, none⟩ x0).setCell ⟨R, 1, none⟩ x1) := h0.set 1 x1
 have h2 : QX W m mr P R row #[x0, x1, x2, y3, y4, y5, y6] (((wr.setCell ⟨R, 0, none⟩ x0).setCell ⟨R, 1, none⟩ x1).setCell ⟨R, 2, none⟩ x2) := h1.set 2 x2
 have h3 : QX W m mr P R row #[x0, x1, x2, x3, y4, y5, y6] ((((wr.setCell ⟨R, 0, none⟩ x0).setCell ⟨R, 1, none⟩ x1).setCell ⟨R, 2, none⟩ x2).setCell ⟨R, 3, none⟩ x3) := h2.set 3 x3
 have h4 : QX W m mr P R row #[x0, x1, x2, x3, x4, y5, y6] (((((wr.setCell ⟨R, 0, none⟩ x0).setCell ⟨R, 1, none⟩ x1).setCell ⟨R, 2, none⟩ x2).setCell ⟨R, 3, none⟩ x3).setCell ⟨R, 4, none⟩ x4) := h3.set 4 x4
 have h5 : QX W m mr P R row #[x0, x1, x2, x3, x4, x5, y6] ((((((wr.setCell ⟨R, 0, none⟩ x0).setCell ⟨R, 1, none⟩ x1).setCell ⟨R, 2, none⟩ x2).setCell ⟨R, 3, none⟩ x3).setCell ⟨R, 4, none⟩ x4).setCell ⟨R, 5, none⟩ x5) := h4.set 5 x5
 have h6 : QX W m mr P R row #[x0, x1, x2, x3, x4, x5, x6] (((((((wr.setCell ⟨R, 0, none⟩ x0).setCell ⟨R, 1, none⟩ x1).setCell ⟨R, 2, none⟩ x2).setCell ⟨R, 3, none⟩ x3).setCell ⟨R, 4, none⟩ x4).setCell ⟨R, 5, none⟩ x5).setCell ⟨R, 6, none⟩ x6) := h5.set 6 x6
 exact h6
theorem QX.there {W : World} {m : Nat} {mr : Array Value} {P R : Nat} {row : Array Value} {y0 y1 y2 y3 y4 y5 y6 : Value} {wr : World} (h : QX W m mr P R row #[y0, y1, y2, y3, y4, y5, y6] wr) : wr.there R 0 7 := fun j hj => ⟨by rw [cell_of h.ax]; match j, hj with | 0, _ => rfl | 1, _ => rfl | 2, _ => rfl | 3, _ => rfl | 4, _ => rfl | 5, _ => rfl | 6, _ => rfl, free_of h.ax _⟩
theorem QX.two (W : World) {m : Nat} {mr : Array Value} (hm : W.heap[m]? = some (.cells mr 105 (0, 0))) (row ar : Array Value) : QX W m mr W.heap.size (W.heap.size + 1) row ar ((W.alloc (.cells row 35)).alloc (.cells ar 39)) := by
 have hl := lt_of hm
 refine ⟨alloc_of (alloc_of hm _) _, alloc_of (heap_alloc_new _ _) _, ?_, ((Chg.refl _ _).alloc _).alloc _, by omega, by omega, by omega⟩
 have e := heap_alloc_new (W.alloc (.cells row 35)) (.cells ar 39)
 rw [World.size_alloc] at e
 exact e
def QrQ (W : World) (E : Int) (l : List (Nat × Nat)) (n : Nat) (e : Ending) (W' : World) : Prop := ∃ v, e = .returned (.agg #[.int .i64 E, .bool false, .int .u64 0, .bool false, .int .u64 0, v, .int .u64 n]) ∧ PRow W' W.heap.size v l ∧ Chg (fun _ => False) W W'
theorem prow_set {W w3 : World} {m : Nat} {mr : Array Value} {P R B : Nat} {row : Array Value} {y0 y1 y2 y3 y4 y5 y6 : Value} {rp : Option Addr} {rn rc : Nat} {l : List (Nat × Nat)} (h : PRow w3 B (.slice rp l.length rc) l) (hq : QX W m mr P R row #[y0, y1, y2, y3, y4, y5, y6] w3) (hB : W.heap.size ≤ B) (hn : rn = l.length) (xs : List Value) : PRow (w3.setCells R 0 xs) W.heap.size (.slice rp rn rc) l := by
 subst hn
 have key : ∀ (xs : List Value) (o : Nat) (w : World) (b : Nat), b ≠ R → (w.setCells R o xs).heap[b]? = w.heap[b]? := by
  intro xs
  induction xs with
  | nil => intro o w b hb; rfl
  | cons x xs ih => intro o w b hb; rw [World.setCells, ih _ _ _ hb]; exact Below.heap_setCell _ _ _ _ hb
 refine ⟨⟨h.1.1, ?_⟩, h.2⟩
 rcases h.1.2 with e | ⟨g, cap, cur, e, hb, hg, r⟩
 ·exact .inl e
 ·refine .inr ⟨g, cap, cur, e, by omega, ?_, r⟩
  rw [key xs 0 w3 g (fun e2 => by
   rw [e2, hq.ax] at hg
   injection hg with hg
   injection hg with _ hg
   exact absurd hg (by decide))]
  exact hg
set_option maxRecDepth 100000 in
theorem q_held7 {W : World} {m : Nat} {mu : Int} {mv hv : Value} {hs : List (Nat × Value)} (H : RMod W m mu mv hv hs) (hl : hs.length ≤ 4000000) {hk i hh c : Nat} {p : Option Addr} {g : Nat → Option Nat} {lg : List (Nat × Nat)} {k v od r6 r7 : Int} {r5 : Bool} {kp : Option Addr} {kn kc lo hi : Nat} {ks : List Nat} (hks : KeysAt W kp ks) (hkl : ks.length ≤ 4398046510000) (hkn : kn = ks.length) (hlen : ¬ mu < (kn : Int)) (hpl : placeI hs hk = (i : Int)) (hx : hs[i]? = some (hh, .slice p lg.length c)) (hg : RL W (.slice p lg.length c) g lg) (hgl : lg.length ≤ 4398046510000) :
    Calls Tryz.prog 46 #[.pointer (some ⟨m, 0, none⟩), .agg #[.int .u8 7, .int .u64 k, .int .u64 v, .int .u64 od, .int .u64 hk, .bool r5, .int .i64 r6, .int .i64 r7, .slice kp kn kc, .int .u64 lo, .int .u64 hi]] W (QrQ W 0 (pairsOf g ks) (0)) := by
 obtain ⟨hp, hcap, rfl, hAt, -, -, -⟩ := H.row.slice
 have hi2 := (List.getElem?_eq_some_iff.1 hx).1
 obtain ⟨bk, off, rfl, hbk, hcell⟩ : ∃ bk off, hp = some ⟨bk, off, none⟩ ∧ bk < W.heap.size ∧ W.cell? ⟨bk, off + i * 2 + 1, none⟩ = some (.slice p lg.length c) := by
  rcases hAt with e | ⟨bk, off, e1, e2, e3⟩
  ·rw [e] at hx; simp at hx
  ·exact ⟨bk, off, e1, e2, (e3 i hh _ hx).2.2⟩
 obtain ⟨n, hn⟩ : ∃ n, n = hs.length := ⟨_, rfl⟩
 have HPL : Hid (∀ w, Chg (fun _ => False) W w → Calls Tryz.prog 45 #[.pointer (some ⟨m, 0, none⟩), .int .u64 hk] w fun e W' => e = .returned (.int .i64 i) ∧ W' = w) := fun w hc => by
  have := r_placeM (H.quiet hc) hl hk
  rw [hpl] at this
  exact this
 obtain ⟨q, hq⟩ : ∃ q, q = lg.length := ⟨_, rfl⟩
 have HCL := keepH (fun w (hc : Chg (fun _ => False) W w) => r_of (hg.quiet hc) hgl (hks.chg hc (fun _ _ _ x => x)) hkl kc)
 rw [← hq, ← hkn] at HCL
 rw [← hq] at hcell
 have hQ1 : QX W m #[.int .i64 mu, mv, .slice (some ⟨bk, off, none⟩) n hcap] W.heap.size (W.heap.size + 1) #[.int .u8 7, .int .u64 k, .int .u64 v, .int .u64 od, .int .u64 hk, .bool r5, .int .i64 r6, .int .i64 r7, .slice kp kn kc, .int .u64 lo, .int .u64 hi] #[.int .i64 0, .bool false, .int .u64 0, .bool false, .int .u64 0, .slice none 0 0, .int .u64 0] ((W.alloc (.cells #[.int .u8 7, .int .u64 k, .int .u64 v, .int .u64 od, .int .u64 hk, .bool r5, .int .i64 r6, .int .i64 r7, .slice kp kn kc, .int .u64 lo, .int .u64 hi] 35)).alloc (.cells #[.int .i64 0, .bool false, .int .u64 0, .bool false, .int .u64 0, .slice none 0 0, .int .u64 0] 39)) := QX.two W (by rw [hn]; exact H.at_) _ _
 obtain ⟨w1, hw1⟩ : ∃ w1, w1 = (W.alloc (.cells #[.int .u8 7, .int .u64 k, .int .u64 v, .int .u64 od, .int .u64 hk, .bool r5, .int .i64 r6, .int .i64 r7, .slice kp kn kc, .int .u64 lo, .int .u64 hi] 35)).alloc (.cells #[.int .i64 0, .bool false, .int .u64 0, .bool false, .int .u64 0, .slice none 0 0, .int .u64 0] 39) := ⟨_, rfl⟩
 obtain ⟨P, hP⟩ : ∃ P, P = W.heap.size := ⟨_, rfl⟩
 obtain ⟨R, hR⟩ : ∃ R, R = W.heap.size + 1 := ⟨_, rfl⟩
 rw [← hw1, ← hR, ← hP] at hQ1
 have HQ1 := keepH hQ1
 have HCE : Hid (∀ w, Chg (fun _ => False) W w → w.cell? ⟨bk, off + i * 2 + 1, none⟩ = some (.slice p q c)) := keepH (fun w hc => cell_chg hc hcell (fun x => x))
 have b1 : (i : Int) < (n : Int) := by omega
 have b2 : i < n := by omega
 have b0 : (0 : Int) ≤ (i : Int) := by omega
 have b3 : ¬ (i : Int) < 0 := by omega
 have q1 : decide (mu < (kn : Int)) = false := by simp; omega
 have HW1 := keepH hw1
 have HP := keepH hP
 have HR := keepH hR
 have p0 : w1.cell? ⟨P, 0, none⟩ = _ := cell_of HQ1.out.ox 0
 have p8 : w1.cell? ⟨P, 8, none⟩ = _ := cell_of HQ1.out.ox 8
 have m0 : w1.cell? ⟨m, 0, none⟩ = _ := cell_of HQ1.out.md 0
 have HQQ := keepH hq
 have HGL := keepH hgl
 clear H hpl hx hg hgl hAt hi2 hbk hcell hn hq hQ1 hw1 hP hR hks hkl hkn hlen
 go_enter Tryz.func46, Tryz.ntmps46
 go_upto_region 1 with fail
 rw [show (W.alloc (.cells #[.int .u8 7, .int .u64 k, .int .u64 v, .int .u64 od, .int .u64 hk, .bool r5, .int .i64 r6, .int .i64 r7, .slice kp kn kc, .int .u64 lo, .int .u64 hi] 35)).alloc (.cells #[.int .i64 0, .bool false, .int .u64 0, .bool false, .int .u64 0, .slice none 0 0, .int .u64 0] 39) = w1 from HW1.out.symm, ← HR.out, ← HP.out]
 clear HW1 HP HR
 go_quiet (fail)
 have HGX : Hid (∀ q9, QX W m #[.int .i64 mu, mv, .slice (some ⟨bk, off, none⟩) n hcap] P R #[.int .u8 7, .int .u64 k, .int .u64 v, .int .u64 od, .int .u64 hk, .bool r5, .int .i64 r6, .int .i64 r7, .slice kp kn kc, .int .u64 lo, .int .u64 hi] #[.int .i64 0, .bool false, .int .u64 0, .bool false, .int .u64 0, .slice none 0 0, .int .u64 0] (w1.drewN q9)) := keepH (fun q9 => HQ1.out.on (chg_dn (Chg.refl _ _) q9))
 have p4 : ∀ q9, (w1.drewN q9).cell? ⟨P, 4, none⟩ = some (.int .u64 hk) := fun q9 => cell_of (HGX.out q9).ox 4
 go_wp2_with fail
 refine (HPL.out _ (HGX.out _).ch).mono ?_
 rintro e w2 ⟨rfl, hw2⟩
 have HQ2 : Hid (QX W m #[.int .i64 mu, mv, .slice (some ⟨bk, off, none⟩) n hcap] P R #[.int .u8 7, .int .u64 k, .int .u64 v, .int .u64 od, .int .u64 hk, .bool r5, .int .i64 r6, .int .i64 r7, .slice kp kn kc, .int .u64 lo, .int .u64 hi] #[.int .i64 0, .bool false, .int .u64 0, .bool false, .int .u64 0, .slice none 0 0, .int .u64 0] w2) := keepH (by rw [hw2]; exact HGX.out _)
 clear hw2 p0 p8 m0 p4 HGX HQ1 HPL
 have p0 : w2.cell? ⟨P, 0, none⟩ = _ := cell_of HQ2.out.ox 0
 go_upto_region 8 with fail
 have HS2 : Hid ((fun w => w.heap[m]? = some (.cells #[.int .i64 mu, mv, .slice (some ⟨bk, off, none⟩) n hcap] 105 (0, 0)) ∧ w.heap[P]? = some (.cells #[.int .u8 7, .int .u64 k, .int .u64 v, .int .u64 od, .int .u64 hk, .bool r5, .int .i64 r6, .int .i64 r7, .slice kp kn kc, .int .u64 lo, .int .u64 hi] 35 (0, 0)) ∧ w.cell? ⟨bk, off + i * 2 + 1, none⟩ = some (.slice p q c)) w2.drew) := keepH ⟨HQ2.out.md, HQ2.out.ox, HCE.out _ (chgF HQ2.out.ch (chg_dn (Chg.refl _ _) 1))⟩
 refine wp_region_held_drew (S := fun w => w.heap[m]? = some (.cells #[.int .i64 mu, mv, .slice (some ⟨bk, off, none⟩) n hcap] 105 (0, 0)) ∧ w.heap[P]? = some (.cells #[.int .u8 7, .int .u64 k, .int .u64 v, .int .u64 od, .int .u64 hk, .bool r5, .int .i64 r6, .int .i64 r7, .slice kp kn kc, .int .u64 lo, .int .u64 hi] 35 (0, 0)) ∧ w.cell? ⟨bk, off + i * 2 + 1, none⟩ = some (.slice p q c)) (by kernel_rfl) (HS2.out) ?_
 intro hHeld
 refine wT (v := ?_) 0 rfl (by rfl) ?_ hHeld ?_
 rotate_left
 ·intro w hSw
  try dsimp only at hSw
  go_simp
  try with_reducible rfl
 try simp only [Act.put, lj]
 refine wT (v := ?_) 1 rfl (by rfl) ?_ hHeld ?_
 rotate_left
 ·intro w hSw
  try dsimp only at hSw
  go_simp
  try with_reducible rfl
 try simp only [Act.put, lj]
 refine wT (v := ?_) 2 rfl (by rfl) ?_ hHeld ?_
 rotate_left
 ·intro w hSw
  try dsimp only at hSw
  go_simp
  try with_reducible rfl
 try simp only [Act.put, lj]
 refine wT (v := ?_) 3 rfl (by rfl) ?_ hHeld ?_
 rotate_left
 ·intro w hSw
  try dsimp only at hSw
  have y2 := cell_of hSw.1 2
  go_simp
  try with_reducible rfl
 try simp only [Act.put, lj]
 refine wT (v := ?_) 4 rfl (by rfl) ?_ hHeld ?_
 rotate_left
 ·intro w hSw
  try dsimp only at hSw
  go_simp
  try with_reducible rfl
 try simp only [Act.put, lj]
 refine wT (v := ?_) 5 rfl (by rfl) ?_ hHeld ?_
 rotate_left
 ·intro w hSw
  try dsimp only at hSw
  go_simp
  try with_reducible rfl
 try simp only [Act.put, lj]
 refine wT (v := ?_) 6 rfl (by rfl) ?_ hHeld ?_
 rotate_left
 ·intro w hSw
  try dsimp only at hSw
  go_simp
  try with_reducible rfl
 try simp only [Act.put, lj]
 refine wT (v := ?_) 7 rfl (by rfl) ?_ hHeld ?_
 rotate_left
 ·intro w hSw
  try dsimp only at hSw
  have y9 := hSw.2.2
  go_simp
  try with_reducible rfl
 try simp only [Act.put, lj]
 refine wT (v := ?_) 8 rfl (by rfl) ?_ hHeld ?_
 rotate_left
 ·intro w hSw
  try dsimp only at hSw
  go_simp
  try with_reducible rfl
 try simp only [Act.put, lj]
 refine wT (v := ?_) 9 rfl (by rfl) ?_ hHeld ?_
 rotate_left
 ·intro w hSw
  try dsimp only at hSw
  have z7 := cell_of hSw.2.1 7
  have z8 := cell_of hSw.2.1 8
  have z9 := cell_of hSw.2.1 9
  have z10 := cell_of hSw.2.1 10
  go_simp
  try with_reducible rfl
 try simp only [Act.put, lj]
 refine wR 10 rfl (fun KK hKK => ?_)
 go_simp
 refine (HCL.out _ (chgF HQ2.out.ch (chg_dn (Chg.refl _ _) 1))).mono ?_
 rintro e w3 ⟨⟨rv, rfl, hrow⟩, hc3⟩
 obtain ⟨rp, rc, rfl, -, -⟩ := hrow.slice
 have HROW := keepH hrow
 have HQ3 := keepH (HQ2.out.on (chgF (chg_dn (Chg.refl _ _) 1) hc3))
 have hcc := And.intro HQ3.out.md (And.intro HQ3.out.ox (HCE.out _ HQ3.out.ch))
 clear hrow hc3
 obtain ⟨rn, hrn⟩ : ∃ rn, rn = (pairsOf g ks).length := ⟨_, rfl⟩
 rw [← hrn]
 have HRN := keepH hrn
 clear hrn
 refine hKK.out _ _ ?_ (fun hHeld => ?_)
 ·exact hcc
 clear hKK KK
 try simp only [Act.put, lj]
 refine wT (v := ?_) 11 rfl (by rfl) ?_ hHeld ?_
 rotate_left
 ·intro w hSw
  try dsimp only at hSw
  go_simp
  try with_reducible rfl
 try simp only [Act.put, lj]
 refine wR 12 rfl (fun KK hKK => ?_)
 refine step_store_row6 rfl 39 (.tmp 4) (.tmp 42) rfl R 0 #[.int .i64 0, .bool false, .int .u64 0, .bool false, .int .u64 0, .slice rp rn rc, .int .u64 0] rfl rfl HQ3.out.there (by kernel_rfl) (by simp [Value.oneCell']) ?_
 have HQ4 := keepH (HQ3.out.seven (.int .i64 0) (.bool false) (.int .u64 0) (.bool false) (.int .u64 0) (.slice rp rn rc) (.int .u64 0))
 have hcc := And.intro HQ4.out.md (And.intro HQ4.out.ox (HCE.out _ HQ4.out.ch))
 refine hKK.out _ _ ?_ (fun hHeld => ?_)
 ·exact hcc
 clear hKK KK
 try simp only [Act.put, lj]
 refine wpAnyH_done (by kernel_rfl) ?_ _
 go_simp
 clear hHeld
 have e0 := cell_of HQ4.out.ax 0
 have e1 := cell_of HQ4.out.ax 1
 have e2 := cell_of HQ4.out.ax 2
 have e3 := cell_of HQ4.out.ax 3
 have e4 := cell_of HQ4.out.ax 4
 have e5 := cell_of HQ4.out.ax 5
 have e6 := cell_of HQ4.out.ax 6
 simp at e0 e1 e2 e3 e4 e5 e6
 go_wp2_with fail
 refine bodyPost_ret (v := .agg #[.int .i64 0, .bool false, .int .u64 0, .bool false, .int .u64 0, .slice rp rn rc, .int .u64 0]) (by simp [results, Tryz.results46, go_sem, e0, e1, e2, e3, e4, e5, e6]) rfl ?_
 have HR4 : Hid (PRow (w3.setCells R 0 [.int .i64 0, .bool false, .int .u64 0, .bool false, .int .u64 0, .slice rp rn rc, .int .u64 0]) W.heap.size (.slice rp rn rc) (pairsOf g ks)) := keepH (prow_set HROW.out HQ3.out (by have := HQ2.out.ch.size; simpa using this) HRN.out _)
 exact ⟨_, rfl, HR4.out, HQ4.out.ch⟩
set_option maxRecDepth 100000 in
theorem q_held8 {W : World} {m : Nat} {mu : Int} {mv hv : Value} {hs : List (Nat × Value)} (H : RMod W m mu mv hv hs) (hl : hs.length ≤ 4000000) {hk i hh c : Nat} {p : Option Addr} {g : Nat → Option Nat} {lg : List (Nat × Nat)} {k v od r6 r7 : Int} {r5 : Bool} {kp : Option Addr} {kn kc lo hi : Nat} (hpl : placeI hs hk = (i : Int)) (hx : hs[i]? = some (hh, .slice p lg.length c)) (hg : RL W (.slice p lg.length c) g lg) (hgl : lg.length ≤ 4398046510000) :
    Calls Tryz.prog 46 #[.pointer (some ⟨m, 0, none⟩), .agg #[.int .u8 8, .int .u64 k, .int .u64 v, .int .u64 od, .int .u64 hk, .bool r5, .int .i64 r6, .int .i64 r7, .slice kp kn kc, .int .u64 lo, .int .u64 hi]] W (QrQ W 0 (lg.filter (fun x => decide (lo ≤ x.1) && decide (x.1 ≤ hi))) (0)) := by
 obtain ⟨hp, hcap, rfl, hAt, -, -, -⟩ := H.row.slice
 have hi2 := (List.getElem?_eq_some_iff.1 hx).1
 obtain ⟨bk, off, rfl, hbk, hcell⟩ : ∃ bk off, hp = some ⟨bk, off, none⟩ ∧ bk < W.heap.size ∧ W.cell? ⟨bk, off + i * 2 + 1, none⟩ = some (.slice p lg.length c) := by
  rcases hAt with e | ⟨bk, off, e1, e2, e3⟩
  ·rw [e] at hx; simp at hx
  ·exact ⟨bk, off, e1, e2, (e3 i hh _ hx).2.2⟩
 obtain ⟨n, hn⟩ : ∃ n, n = hs.length := ⟨_, rfl⟩
 have HPL : Hid (∀ w, Chg (fun _ => False) W w → Calls Tryz.prog 45 #[.pointer (some ⟨m, 0, none⟩), .int .u64 hk] w fun e W' => e = .returned (.int .i64 i) ∧ W' = w) := fun w hc => by
  have := r_placeM (H.quiet hc) hl hk
  rw [hpl] at this
  exact this
 obtain ⟨q, hq⟩ : ∃ q, q = lg.length := ⟨_, rfl⟩
 have hgl2 : lg.length ≤ 8796093022000 := by omega
 have hpa : PairsAt W p lg := by
  obtain ⟨p9, c9, e9, h9, _⟩ := hg.row.slice
  injection e9 with e9
  rw [e9]; exact h9
 have HCL := keepH (fun w (hc : Chg (fun _ => False) W w) => r_within (hpa.chg hc) hgl2 c lo hi)
 rw [← hq] at HCL
 rw [← hq] at hcell
 have hQ1 : QX W m #[.int .i64 mu, mv, .slice (some ⟨bk, off, none⟩) n hcap] W.heap.size (W.heap.size + 1) #[.int .u8 8, .int .u64 k, .int .u64 v, .int .u64 od, .int .u64 hk, .bool r5, .int .i64 r6, .int .i64 r7, .slice kp kn kc, .int .u64 lo, .int .u64 hi] #[.int .i64 0, .bool false, .int .u64 0, .bool false, .int .u64 0, .slice none 0 0, .int .u64 0] ((W.alloc (.cells #[.int .u8 8, .int .u64 k, .int .u64 v, .int .u64 od, .int .u64 hk, .bool r5, .int .i64 r6, .int .i64 r7, .slice kp kn kc, .int .u64 lo, .int .u64 hi] 35)).alloc (.cells #[.int .i64 0, .bool false, .int .u64 0, .bool false, .int .u64 0, .slice none 0 0, .int .u64 0] 39)) := QX.two W (by rw [hn]; exact H.at_) _ _
 obtain ⟨w1, hw1⟩ : ∃ w1, w1 = (W.alloc (.cells #[.int .u8 8, .int .u64 k, .int .u64 v, .int .u64 od, .int .u64 hk, .bool r5, .int .i64 r6, .int .i64 r7, .slice kp kn kc, .int .u64 lo, .int .u64 hi] 35)).alloc (.cells #[.int .i64 0, .bool false, .int .u64 0, .bool false, .int .u64 0, .slice none 0 0, .int .u64 0] 39) := ⟨_, rfl⟩
 obtain ⟨P, hP⟩ : ∃ P, P = W.heap.size := ⟨_, rfl⟩
 obtain ⟨R, hR⟩ : ∃ R, R = W.heap.size + 1 := ⟨_, rfl⟩
 rw [← hw1, ← hR, ← hP] at hQ1
 have HQ1 := keepH hQ1
 have HCE : Hid (∀ w, Chg (fun _ => False) W w → w.cell? ⟨bk, off + i * 2 + 1, none⟩ = some (.slice p q c)) := keepH (fun w hc => cell_chg hc hcell (fun x => x))
 have b1 : (i : Int) < (n : Int) := by omega
 have b2 : i < n := by omega
 have b0 : (0 : Int) ≤ (i : Int) := by omega
 have b3 : ¬ (i : Int) < 0 := by omega
 have HW1 := keepH hw1
 have HP := keepH hP
 have HR := keepH hR
 have p0 : w1.cell? ⟨P, 0, none⟩ = _ := cell_of HQ1.out.ox 0
 have p8 : w1.cell? ⟨P, 8, none⟩ = _ := cell_of HQ1.out.ox 8
 have m0 : w1.cell? ⟨m, 0, none⟩ = _ := cell_of HQ1.out.md 0
 have HQQ := keepH hq
 have HGL := keepH hgl
 clear H hpl hx hg hgl hAt hi2 hbk hcell hn hq hQ1 hw1 hP hR hpa hgl2
 go_enter Tryz.func46, Tryz.ntmps46
 go_upto_region 1 with fail
 rw [show (W.alloc (.cells #[.int .u8 8, .int .u64 k, .int .u64 v, .int .u64 od, .int .u64 hk, .bool r5, .int .i64 r6, .int .i64 r7, .slice kp kn kc, .int .u64 lo, .int .u64 hi] 35)).alloc (.cells #[.int .i64 0, .bool false, .int .u64 0, .bool false, .int .u64 0, .slice none 0 0, .int .u64 0] 39) = w1 from HW1.out.symm, ← HR.out, ← HP.out]
 clear HW1 HP HR
 go_quiet (fail)
 have HGX : Hid (∀ q9, QX W m #[.int .i64 mu, mv, .slice (some ⟨bk, off, none⟩) n hcap] P R #[.int .u8 8, .int .u64 k, .int .u64 v, .int .u64 od, .int .u64 hk, .bool r5, .int .i64 r6, .int .i64 r7, .slice kp kn kc, .int .u64 lo, .int .u64 hi] #[.int .i64 0, .bool false, .int .u64 0, .bool false, .int .u64 0, .slice none 0 0, .int .u64 0] (w1.drewN q9)) := keepH (fun q9 => HQ1.out.on (chg_dn (Chg.refl _ _) q9))
 have p4 : ∀ q9, (w1.drewN q9).cell? ⟨P, 4, none⟩ = some (.int .u64 hk) := fun q9 => cell_of (HGX.out q9).ox 4
 go_wp2_with fail
 refine (HPL.out _ (HGX.out _).ch).mono ?_
 rintro e w2 ⟨rfl, hw2⟩
 have HQ2 : Hid (QX W m #[.int .i64 mu, mv, .slice (some ⟨bk, off, none⟩) n hcap] P R #[.int .u8 8, .int .u64 k, .int .u64 v, .int .u64 od, .int .u64 hk, .bool r5, .int .i64 r6, .int .i64 r7, .slice kp kn kc, .int .u64 lo, .int .u64 hi] #[.int .i64 0, .bool false, .int .u64 0, .bool false, .int .u64 0, .slice none 0 0, .int .u64 0] w2) := keepH (by rw [hw2]; exact HGX.out _)
 clear hw2 p0 p8 m0 p4 HGX HQ1 HPL
 have p0 : w2.cell? ⟨P, 0, none⟩ = _ := cell_of HQ2.out.ox 0
 go_upto_region 10 with fail
 have HS2 : Hid ((fun w => w.heap[m]? = some (.cells #[.int .i64 mu, mv, .slice (some ⟨bk, off, none⟩) n hcap] 105 (0, 0)) ∧ w.heap[P]? = some (.cells #[.int .u8 8, .int .u64 k, .int .u64 v, .int .u64 od, .int .u64 hk, .bool r5, .int .i64 r6, .int .i64 r7, .slice kp kn kc, .int .u64 lo, .int .u64 hi] 35 (0, 0)) ∧ w.cell? ⟨bk, off + i * 2 + 1, none⟩ = some (.slice p q c)) w2.drew) := keepH ⟨HQ2.out.md, HQ2.out.ox, HCE.out _ (chgF HQ2.out.ch (chg_dn (Chg.refl _ _) 1))⟩
 refine wp_region_held_drew (S := fun w => w.heap[m]? = some (.cells #[.int .i64 mu, mv, .slice (some ⟨bk, off, none⟩) n hcap] 105 (0, 0)) ∧ w.heap[P]? = some (.cells #[.int .u8 8, .int .u64 k, .int .u64 v, .int .u64 od, .int .u64 hk, .bool r5, .int .i64 r6, .int .i64 r7, .slice kp kn kc, .int .u64 lo, .int .u64 hi] 35 (0, 0)) ∧ w.cell? ⟨bk, off + i * 2 + 1, none⟩ = some (.slice p q c)) (by kernel_rfl) (HS2.out) ?_
 intro hHeld
 refine wT (v := ?_) 0 rfl (by rfl) ?_ hHeld ?_
 rotate_left
 ·intro w hSw
  try dsimp only at hSw
  go_simp
  try with_reducible rfl
 try simp only [Act.put, lj]
 refine wT (v := ?_) 1 rfl (by rfl) ?_ hHeld ?_
 rotate_left
 ·intro w hSw
  try dsimp only at hSw
  go_simp
  try with_reducible rfl
 try simp only [Act.put, lj]
 refine wT (v := ?_) 2 rfl (by rfl) ?_ hHeld ?_
 rotate_left
 ·intro w hSw
  try dsimp only at hSw
  go_simp
  try with_reducible rfl
 try simp only [Act.put, lj]
 refine wT (v := ?_) 3 rfl (by rfl) ?_ hHeld ?_
 rotate_left
 ·intro w hSw
  try dsimp only at hSw
  have y2 := cell_of hSw.1 2
  go_simp
  try with_reducible rfl
 try simp only [Act.put, lj]
 refine wT (v := ?_) 4 rfl (by rfl) ?_ hHeld ?_
 rotate_left
 ·intro w hSw
  try dsimp only at hSw
  go_simp
  try with_reducible rfl
 try simp only [Act.put, lj]
 refine wT (v := ?_) 5 rfl (by rfl) ?_ hHeld ?_
 rotate_left
 ·intro w hSw
  try dsimp only at hSw
  go_simp
  try with_reducible rfl
 try simp only [Act.put, lj]
 refine wT (v := ?_) 6 rfl (by rfl) ?_ hHeld ?_
 rotate_left
 ·intro w hSw
  try dsimp only at hSw
  go_simp
  try with_reducible rfl
 try simp only [Act.put, lj]
 refine wT (v := ?_) 7 rfl (by rfl) ?_ hHeld ?_
 rotate_left
 ·intro w hSw
  try dsimp only at hSw
  have y9 := hSw.2.2
  go_simp
  try with_reducible rfl
 try simp only [Act.put, lj]
 refine wT (v := ?_) 8 rfl (by rfl) ?_ hHeld ?_
 rotate_left
 ·intro w hSw
  try dsimp only at hSw
  go_simp
  try with_reducible rfl
 try simp only [Act.put, lj]
 refine wT (v := ?_) 9 rfl (by rfl) ?_ hHeld ?_
 rotate_left
 ·intro w hSw
  try dsimp only at hSw
  have z7 := cell_of hSw.2.1 7
  have z8 := cell_of hSw.2.1 8
  have z9 := cell_of hSw.2.1 9
  have z10 := cell_of hSw.2.1 10
  go_simp
  try with_reducible rfl
 try simp only [Act.put, lj]
 refine wT (v := ?_) 10 rfl (by rfl) ?_ hHeld ?_
 rotate_left
 ·intro w hSw
  try dsimp only at hSw
  go_simp
  try with_reducible rfl
 try simp only [Act.put, lj]
 refine wT (v := ?_) 11 rfl (by rfl) ?_ hHeld ?_
 rotate_left
 ·intro w hSw
  try dsimp only at hSw
  have z7 := cell_of hSw.2.1 7
  have z8 := cell_of hSw.2.1 8
  have z9 := cell_of hSw.2.1 9
  have z10 := cell_of hSw.2.1 10
  go_simp
  try with_reducible rfl
 try simp only [Act.put, lj]
 refine wR 12 rfl (fun KK hKK => ?_)
 go_simp
 refine (HCL.out _ (chgF HQ2.out.ch (chg_dn (Chg.refl _ _) 1))).mono ?_
 rintro e w3 ⟨⟨rv, rfl, hrow⟩, hc3⟩
 obtain ⟨rp, rc, rfl, -, -⟩ := hrow.slice
 have HROW := keepH hrow
 have HQ3 := keepH (HQ2.out.on (chgF (chg_dn (Chg.refl _ _) 1) hc3))
 have hcc := And.intro HQ3.out.md (And.intro HQ3.out.ox (HCE.out _ HQ3.out.ch))
 clear hrow hc3
 obtain ⟨rn, hrn⟩ : ∃ rn, rn = (lg.filter (fun x => decide (lo ≤ x.1) && decide (x.1 ≤ hi))).length := ⟨_, rfl⟩
 rw [← hrn]
 have HRN := keepH hrn
 clear hrn
 refine hKK.out _ _ ?_ (fun hHeld => ?_)
 ·exact hcc
 clear hKK KK
 try simp only [Act.put, lj]
 refine wT (v := ?_) 13 rfl (by rfl) ?_ hHeld ?_
 rotate_left
 ·intro w hSw
  try dsimp only at hSw
  go_simp
  try with_reducible rfl
 try simp only [Act.put, lj]
 refine wR 14 rfl (fun KK hKK => ?_)
 refine step_store_row6 rfl 39 (.tmp 4) (.tmp 58) rfl R 0 #[.int .i64 0, .bool false, .int .u64 0, .bool false, .int .u64 0, .slice rp rn rc, .int .u64 0] rfl rfl HQ3.out.there (by kernel_rfl) (by simp [Value.oneCell']) ?_
 have HQ4 := keepH (HQ3.out.seven (.int .i64 0) (.bool false) (.int .u64 0) (.bool false) (.int .u64 0) (.slice rp rn rc) (.int .u64 0))
 have hcc := And.intro HQ4.out.md (And.intro HQ4.out.ox (HCE.out _ HQ4.out.ch))
 refine hKK.out _ _ ?_ (fun hHeld => ?_)
 ·exact hcc
 clear hKK KK
 try simp only [Act.put, lj]
 refine wpAnyH_done (by kernel_rfl) ?_ _
 go_simp
 clear hHeld
 have e0 := cell_of HQ4.out.ax 0
 have e1 := cell_of HQ4.out.ax 1
 have e2 := cell_of HQ4.out.ax 2
 have e3 := cell_of HQ4.out.ax 3
 have e4 := cell_of HQ4.out.ax 4
 have e5 := cell_of HQ4.out.ax 5
 have e6 := cell_of HQ4.out.ax 6
 simp at e0 e1 e2 e3 e4 e5 e6
 go_wp2_with fail
 refine bodyPost_ret (v := .agg #[.int .i64 0, .bool false, .int .u64 0, .bool false, .int .u64 0, .slice rp rn rc, .int .u64 0]) (by simp [results, Tryz.results46, go_sem, e0, e1, e2, e3, e4, e5, e6]) rfl ?_
 have HR4 : Hid (PRow (w3.setCells R 0 [.int .i64 0, .bool false, .int .u64 0, .bool false, .int .u64 0, .slice rp rn rc, .int .u64 0]) W.heap.size (.slice rp rn rc) (lg.filter (fun x => decide (lo ≤ x.1) && decide (x.1 ≤ hi)))) := keepH (prow_set HROW.out HQ3.out (by have := HQ2.out.ch.size; simpa using this) HRN.out _)
 exact ⟨_, rfl, HR4.out, HQ4.out.ch⟩
set_option maxRecDepth 100000 in
theorem q_held9 {W : World} {m : Nat} {mu : Int} {mv hv : Value} {hs : List (Nat × Value)} (H : RMod W m mu mv hv hs) (hl : hs.length ≤ 4000000) {hk i hh c : Nat} {p : Option Addr} {g : Nat → Option Nat} {lg : List (Nat × Nat)} {k v od r6 r7 : Int} {r5 : Bool} {kp : Option Addr} {kn kc lo hi : Nat} (hpl : placeI hs hk = (i : Int)) (hx : hs[i]? = some (hh, .slice p lg.length c)) (hg : RL W (.slice p lg.length c) g lg) (hgl : lg.length ≤ 4398046510000) :
    Calls Tryz.prog 46 #[.pointer (some ⟨m, 0, none⟩), .agg #[.int .u8 9, .int .u64 k, .int .u64 v, .int .u64 od, .int .u64 hk, .bool r5, .int .i64 r6, .int .i64 r7, .slice kp kn kc, .int .u64 lo, .int .u64 hi]] W (QrQ W 0 ([]) ((lg.filter (fun x => decide (lo ≤ x.1) && decide (x.1 ≤ hi))).length)) := by
 obtain ⟨hp, hcap, rfl, hAt, -, -, -⟩ := H.row.slice
 have hi2 := (List.getElem?_eq_some_iff.1 hx).1
 obtain ⟨bk, off, rfl, hbk, hcell⟩ : ∃ bk off, hp = some ⟨bk, off, none⟩ ∧ bk < W.heap.size ∧ W.cell? ⟨bk, off + i * 2 + 1, none⟩ = some (.slice p lg.length c) := by
  rcases hAt with e | ⟨bk, off, e1, e2, e3⟩
  ·rw [e] at hx; simp at hx
  ·exact ⟨bk, off, e1, e2, (e3 i hh _ hx).2.2⟩
 obtain ⟨n, hn⟩ : ∃ n, n = hs.length := ⟨_, rfl⟩
 have HPL : Hid (∀ w, Chg (fun _ => False) W w → Calls Tryz.prog 45 #[.pointer (some ⟨m, 0, none⟩), .int .u64 hk] w fun e W' => e = .returned (.int .i64 i) ∧ W' = w) := fun w hc => by
  have := r_placeM (H.quiet hc) hl hk
  rw [hpl] at this
  exact this
 obtain ⟨q, hq⟩ : ∃ q, q = lg.length := ⟨_, rfl⟩
 have hgl2 : lg.length ≤ 8796093022000 := by omega
 have hpa : PairsAt W p lg := by
  obtain ⟨p9, c9, e9, h9, _⟩ := hg.row.slice
  injection e9 with e9
  rw [e9]; exact h9
 have HCL := keepH (fun w (hc : Chg (fun _ => False) W w) => r_within (hpa.chg hc) hgl2 c lo hi)
 rw [← hq] at HCL
 rw [← hq] at hcell
 have hQ1 : QX W m #[.int .i64 mu, mv, .slice (some ⟨bk, off, none⟩) n hcap] W.heap.size (W.heap.size + 1) #[.int .u8 9, .int .u64 k, .int .u64 v, .int .u64 od, .int .u64 hk, .bool r5, .int .i64 r6, .int .i64 r7, .slice kp kn kc, .int .u64 lo, .int .u64 hi] #[.int .i64 0, .bool false, .int .u64 0, .bool false, .int .u64 0, .slice none 0 0, .int .u64 0] ((W.alloc (.cells #[.int .u8 9, .int .u64 k, .int .u64 v, .int .u64 od, .int .u64 hk, .bool r5, .int .i64 r6, .int .i64 r7, .slice kp kn kc, .int .u64 lo, .int .u64 hi] 35)).alloc (.cells #[.int .i64 0, .bool false, .int .u64 0, .bool false, .int .u64 0, .slice none 0 0, .int .u64 0] 39)) := QX.two W (by rw [hn]; exact H.at_) _ _
 obtain ⟨w1, hw1⟩ : ∃ w1, w1 = (W.alloc (.cells #[.int .u8 9, .int .u64 k, .int .u64 v, .int .u64 od, .int .u64 hk, .bool r5, .int .i64 r6, .int .i64 r7, .slice kp kn kc, .int .u64 lo, .int .u64 hi] 35)).alloc (.cells #[.int .i64 0, .bool false, .int .u64 0, .bool false, .int .u64 0, .slice none 0 0, .int .u64 0] 39) := ⟨_, rfl⟩
 obtain ⟨P, hP⟩ : ∃ P, P = W.heap.size := ⟨_, rfl⟩
 obtain ⟨R, hR⟩ : ∃ R, R = W.heap.size + 1 := ⟨_, rfl⟩
 rw [← hw1, ← hR, ← hP] at hQ1
 have HQ1 := keepH hQ1
 have HCE : Hid (∀ w, Chg (fun _ => False) W w → w.cell? ⟨bk, off + i * 2 + 1, none⟩ = some (.slice p q c)) := keepH (fun w hc => cell_chg hc hcell (fun x => x))
 have b1 : (i : Int) < (n : Int) := by omega
 have b2 : i < n := by omega
 have b0 : (0 : Int) ≤ (i : Int) := by omega
 have b3 : ¬ (i : Int) < 0 := by omega
 have HW1 := keepH hw1
 have HP := keepH hP
 have HR := keepH hR
 have p0 : w1.cell? ⟨P, 0, none⟩ = _ := cell_of HQ1.out.ox 0
 have p8 : w1.cell? ⟨P, 8, none⟩ = _ := cell_of HQ1.out.ox 8
 have m0 : w1.cell? ⟨m, 0, none⟩ = _ := cell_of HQ1.out.md 0
 have HQQ := keepH hq
 have HGL := keepH hgl
 clear H hpl hx hg hgl hAt hi2 hbk hcell hn hq hQ1 hw1 hP hR hpa hgl2
 go_enter Tryz.func46, Tryz.ntmps46
 go_upto_region 1 with fail
 rw [show (W.alloc (.cells #[.int .u8 9, .int .u64 k, .int .u64 v, .int .u64 od, .int .u64 hk, .bool r5, .int .i64 r6, .int .i64 r7, .slice kp kn kc, .int .u64 lo, .int .u64 hi] 35)).alloc (.cells #[.int .i64 0, .bool false, .int .u64 0, .bool false, .int .u64 0, .slice none 0 0, .int .u64 0] 39) = w1 from HW1.out.symm, ← HR.out, ← HP.out]
 clear HW1 HP HR
 go_quiet (fail)
 have HGX : Hid (∀ q9, QX W m #[.int .i64 mu, mv, .slice (some ⟨bk, off, none⟩) n hcap] P R #[.int .u8 9, .int .u64 k, .int .u64 v, .int .u64 od, .int .u64 hk, .bool r5, .int .i64 r6, .int .i64 r7, .slice kp kn kc, .int .u64 lo, .int .u64 hi] #[.int .i64 0, .bool false, .int .u64 0, .bool false, .int .u64 0, .slice none 0 0, .int .u64 0] (w1.drewN q9)) := keepH (fun q9 => HQ1.out.on (chg_dn (Chg.refl _ _) q9))
 have p4 : ∀ q9, (w1.drewN q9).cell? ⟨P, 4, none⟩ = some (.int .u64 hk) := fun q9 => cell_of (HGX.out q9).ox 4
 go_wp2_with fail
 refine (HPL.out _ (HGX.out _).ch).mono ?_
 rintro e w2 ⟨rfl, hw2⟩
 have HQ2 : Hid (QX W m #[.int .i64 mu, mv, .slice (some ⟨bk, off, none⟩) n hcap] P R #[.int .u8 9, .int .u64 k, .int .u64 v, .int .u64 od, .int .u64 hk, .bool r5, .int .i64 r6, .int .i64 r7, .slice kp kn kc, .int .u64 lo, .int .u64 hi] #[.int .i64 0, .bool false, .int .u64 0, .bool false, .int .u64 0, .slice none 0 0, .int .u64 0] w2) := keepH (by rw [hw2]; exact HGX.out _)
 clear hw2 p0 p8 m0 p4 HGX HQ1 HPL
 have p0 : w2.cell? ⟨P, 0, none⟩ = _ := cell_of HQ2.out.ox 0
 go_upto_region 11 with fail
 have HS2 : Hid ((fun w => w.heap[m]? = some (.cells #[.int .i64 mu, mv, .slice (some ⟨bk, off, none⟩) n hcap] 105 (0, 0)) ∧ w.heap[P]? = some (.cells #[.int .u8 9, .int .u64 k, .int .u64 v, .int .u64 od, .int .u64 hk, .bool r5, .int .i64 r6, .int .i64 r7, .slice kp kn kc, .int .u64 lo, .int .u64 hi] 35 (0, 0)) ∧ w.cell? ⟨bk, off + i * 2 + 1, none⟩ = some (.slice p q c)) w2.drew) := keepH ⟨HQ2.out.md, HQ2.out.ox, HCE.out _ (chgF HQ2.out.ch (chg_dn (Chg.refl _ _) 1))⟩
 refine wp_region_held_drew (S := fun w => w.heap[m]? = some (.cells #[.int .i64 mu, mv, .slice (some ⟨bk, off, none⟩) n hcap] 105 (0, 0)) ∧ w.heap[P]? = some (.cells #[.int .u8 9, .int .u64 k, .int .u64 v, .int .u64 od, .int .u64 hk, .bool r5, .int .i64 r6, .int .i64 r7, .slice kp kn kc, .int .u64 lo, .int .u64 hi] 35 (0, 0)) ∧ w.cell? ⟨bk, off + i * 2 + 1, none⟩ = some (.slice p q c)) (by kernel_rfl) (HS2.out) ?_
 intro hHeld
 refine wT (v := ?_) 0 rfl (by rfl) ?_ hHeld ?_
 rotate_left
 ·intro w hSw
  try dsimp only at hSw
  go_simp
  try with_reducible rfl
 try simp only [Act.put, lj]
 refine wT (v := ?_) 1 rfl (by rfl) ?_ hHeld ?_
 rotate_left
 ·intro w hSw
  try dsimp only at hSw
  go_simp
  try with_reducible rfl
 try simp only [Act.put, lj]
 refine wT (v := ?_) 2 rfl (by rfl) ?_ hHeld ?_
 rotate_left
 ·intro w hSw
  try dsimp only at hSw
  go_simp
  try with_reducible rfl
 try simp only [Act.put, lj]
 refine wT (v := ?_) 3 rfl (by rfl) ?_ hHeld ?_
 rotate_left
 ·intro w hSw
  try dsimp only at hSw
  have y2 := cell_of hSw.1 2
  go_simp
  try with_reducible rfl
 try simp only [Act.put, lj]
 refine wT (v := ?_) 4 rfl (by rfl) ?_ hHeld ?_
 rotate_left
 ·intro w hSw
  try dsimp only at hSw
  go_simp
  try with_reducible rfl
 try simp only [Act.put, lj]
 refine wT (v := ?_) 5 rfl (by rfl) ?_ hHeld ?_
 rotate_left
 ·intro w hSw
  try dsimp only at hSw
  go_simp
  try with_reducible rfl
 try simp only [Act.put, lj]
 refine wT (v := ?_) 6 rfl (by rfl) ?_ hHeld ?_
 rotate_left
 ·intro w hSw
  try dsimp only at hSw
  go_simp
  try with_reducible rfl
 try simp only [Act.put, lj]
 refine wT (v := ?_) 7 rfl (by rfl) ?_ hHeld ?_
 rotate_left
 ·intro w hSw
  try dsimp only at hSw
  have y9 := hSw.2.2
  go_simp
  try with_reducible rfl
 try simp only [Act.put, lj]
 refine wT (v := ?_) 8 rfl (by rfl) ?_ hHeld ?_
 rotate_left
 ·intro w hSw
  try dsimp only at hSw
  go_simp
  try with_reducible rfl
 try simp only [Act.put, lj]
 refine wT (v := ?_) 9 rfl (by rfl) ?_ hHeld ?_
 rotate_left
 ·intro w hSw
  try dsimp only at hSw
  have z7 := cell_of hSw.2.1 7
  have z8 := cell_of hSw.2.1 8
  have z9 := cell_of hSw.2.1 9
  have z10 := cell_of hSw.2.1 10
  go_simp
  try with_reducible rfl
 try simp only [Act.put, lj]
 refine wT (v := ?_) 10 rfl (by rfl) ?_ hHeld ?_
 rotate_left
 ·intro w hSw
  try dsimp only at hSw
  go_simp
  try with_reducible rfl
 try simp only [Act.put, lj]
 refine wT (v := ?_) 11 rfl (by rfl) ?_ hHeld ?_
 rotate_left
 ·intro w hSw
  try dsimp only at hSw
  have z7 := cell_of hSw.2.1 7
  have z8 := cell_of hSw.2.1 8
  have z9 := cell_of hSw.2.1 9
  have z10 := cell_of hSw.2.1 10
  go_simp
  try with_reducible rfl
 try simp only [Act.put, lj]
 refine wR 12 rfl (fun KK hKK => ?_)
 go_simp
 refine (HCL.out _ (chgF HQ2.out.ch (chg_dn (Chg.refl _ _) 1))).mono ?_
 rintro e w3 ⟨⟨rv, rfl, hrow⟩, hc3⟩
 obtain ⟨rp, rc, rfl, -, -⟩ := hrow.slice
 have HROW := keepH hrow
 have HQ3 := keepH (HQ2.out.on (chgF (chg_dn (Chg.refl _ _) 1) hc3))
 have hcc := And.intro HQ3.out.md (And.intro HQ3.out.ox (HCE.out _ HQ3.out.ch))
 clear hrow hc3
 obtain ⟨rn, hrn⟩ : ∃ rn, rn = (lg.filter (fun x => decide (lo ≤ x.1) && decide (x.1 ≤ hi))).length := ⟨_, rfl⟩
 rw [← hrn]
 have HRN := keepH hrn
 have wrn : IntKind.u64.wrap (rn : Int) = (rn : Int) := by (have h9 := List.length_filter_le (fun x : Nat × Nat => decide (lo ≤ x.1) && decide (x.1 ≤ hi)) lg; have h8 := HQQ.out; have h7 := HGL.out; rw [IntKind.wrap_u64]; omega)
 clear hrn
 refine hKK.out _ _ ?_ (fun hHeld => ?_)
 ·exact hcc
 clear hKK KK
 try simp only [Act.put, lj]
 refine wT (v := ?_) 13 rfl (by rfl) ?_ hHeld ?_
 rotate_left
 ·intro w hSw
  try dsimp only at hSw
  go_simp
  try with_reducible rfl
 try simp only [Act.put, lj]
 refine wT (v := ?_) 14 rfl (by rfl) ?_ hHeld ?_
 rotate_left
 ·intro w hSw
  try dsimp only at hSw
  go_simp
  try with_reducible rfl
 try simp only [Act.put, lj]
 refine wT (v := ?_) 15 rfl (by rfl) ?_ hHeld ?_
 rotate_left
 ·intro w hSw
  try dsimp only at hSw
  go_simp
  try with_reducible rfl
 try simp only [Act.put, lj]
 refine wR 16 rfl (fun KK hKK => ?_)
 refine step_store_row6 rfl 39 (.tmp 4) (.tmp 74) rfl R 0 #[.int .i64 0, .bool false, .int .u64 0, .bool false, .int .u64 0, .slice none 0 0, .int .u64 rn] rfl rfl HQ3.out.there (by kernel_rfl) (by simp [Value.oneCell']) ?_
 have HQ4 := keepH (HQ3.out.seven (.int .i64 0) (.bool false) (.int .u64 0) (.bool false) (.int .u64 0) (.slice none 0 0) (.int .u64 rn))
 have hcc := And.intro HQ4.out.md (And.intro HQ4.out.ox (HCE.out _ HQ4.out.ch))
 refine hKK.out _ _ ?_ (fun hHeld => ?_)
 ·exact hcc
 clear hKK KK
 try simp only [Act.put, lj]
 refine wpAnyH_done (by kernel_rfl) ?_ _
 go_simp
 clear hHeld
 have e0 := cell_of HQ4.out.ax 0
 have e1 := cell_of HQ4.out.ax 1
 have e2 := cell_of HQ4.out.ax 2
 have e3 := cell_of HQ4.out.ax 3
 have e4 := cell_of HQ4.out.ax 4
 have e5 := cell_of HQ4.out.ax 5
 have e6 := cell_of HQ4.out.ax 6
 simp at e0 e1 e2 e3 e4 e5 e6
 go_wp2_with fail
 refine bodyPost_ret (v := .agg #[.int .i64 0, .bool false, .int .u64 0, .bool false, .int .u64 0, .slice none 0 0, .int .u64 rn]) (by simp [results, Tryz.results46, go_sem, e0, e1, e2, e3, e4, e5, e6]) rfl ?_
 exact ⟨_, by rw [HRN.out], PRow.nil _ _, HQ4.out.ch⟩
end Go.Proofs.YtahgaghokpicgaaGreat
