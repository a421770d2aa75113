/- A call of both models: Do. -/
import Derived.Test.YtahgaghokpicgaaGreatF31D8h
namespace Go.Proofs.YtahgaghokpicgaaGreat
open Go.RowKit Go.Maps
set_option linter.unusedVariables false
set_option maxHeartbeats 16000000
set_option linter.unusedSimpArgs false
structure Over (X : World) (bk N : Nat) (wr : World) : Prop where
 row : ∃ cs : List Value, wr.heap[bk]? = some (.cells cs.toArray 86 (0, 0)) ∧ N * 2 ≤ cs.length
 chg : Chg (fun i => i = bk) X wr
theorem Over.put {X : World} {bk N : Nat} {wr : World} (h : Over X bk N wr) (i j : Nat) (u v : Value) : Over X bk N ((wr.setCell ⟨bk, i, none⟩ u).setCell ⟨bk, j, none⟩ v) := by
 obtain ⟨⟨cs, h1, h2⟩, hc⟩ := h
 refine ⟨⟨(cs.set i u).set j v, ?_, by simpa using h2⟩, (hc.setCell (p := ⟨bk, i, none⟩) (fun _ => rfl) u).setCell (p := ⟨bk, j, none⟩) (fun _ => rfl) v⟩
 rw [set_of (set_of h1 i u) j v]
 simp
theorem Over.cells {X : World} {bk N : Nat} {wr : World} (h : Over X bk N wr) {i : Nat} (hi : i < N) : ∃ u v, wr.cell? ⟨bk, i * 2, none⟩ = some u ∧ wr.cell? ⟨bk, i * 2 + 1, none⟩ = some v ∧ wr.frozen? ⟨bk, i * 2, none⟩ = false ∧ wr.frozen? ⟨bk, i * 2 + 1, none⟩ = false := by
 obtain ⟨⟨cs, h1, h2⟩, hc⟩ := h
 refine ⟨cs[i * 2]'(by omega), cs[i * 2 + 1]'(by omega), ?_, ?_, free_of h1 _, free_of h1 _⟩
 ·rw [cell_of h1]
  simp
 ·rw [cell_of h1]
  simp
theorem over_of {W : World} {p : Option Addr} {c : Nat} {l : List (Nat × Nat)} (h : OPairs W p c l) : l = [] ∨ ∃ bk, p = some ⟨bk, 0, none⟩ ∧ bk < W.heap.size ∧ Over W bk l.length W := by
 rcases h.1.2 with ⟨e, h0⟩ | ⟨g, cap, cur, e, _, hg, hc, _, _, ht⟩
 ·exact .inl (List.length_eq_zero_iff.1 h0)
 ·injection e with e1 e2 e3
  subst e1
  refine .inr ⟨g, rfl, lt_of hg, ⟨⟨cur.toList, by rw [Array.toArray_toList]; exact hg, ?_⟩, Chg.refl _ _⟩⟩
  have h1 := h.1.1
  have h2 := congrArg List.length ht
  rw [List.length_take] at h2
  omega
set_option maxRecDepth 100000 in
theorem call_do {F : Nat → Prop} {kd r6 r7 er : Int} {k v od hk lo hi va ah co hn : Nat} {r5 fo dn : Bool} {ks : List Nat} {l : List (Nat × Nat)} {kp lp : Option Addr} {kc lc : Nat} (w6 : (Lit.int .i64 r6).wf = true) (w7 : (Lit.int .i64 r7).wf = true) {W : World} (hK : KeysAt W kp ks) (hn1 : ks.length ≤ 17592186043904) (hL : PairsAt W lp l) (hn2 : l.length ≤ 8796093021952) {b m r : Nat} (hb : BothAt W b m r)
    (hF : ∀ i, F i → i < W.heap.size) (hbF : ¬ F b) (hkF : ks = [] ∨ ∀ bk off, kp = some ⟨bk, off, none⟩ → ¬ F bk) (hlF : l = [] ∨ ∀ bk off, lp = some ⟨bk, off, none⟩ → ¬ F bk)
    {T : Ans} {P : World → World → Prop} {Q : (Nat → Prop) → World → Prop}
    (hT : ∀ w gk, Chg (fun _ => False) W w → KeysAt w (some ⟨gk, 0, none⟩) ks → Calls Tryz.prog 17 #[.pointer (some ⟨m, 0, none⟩), .agg #[.int .u8 kd, .int .u64 k, .int .u64 v, .int .u64 od, .int .u64 hk, .bool r5, .int .i64 r6, .int .i64 r7, .slice (some ⟨gk, 0, none⟩) ks.length (ks.length + 9), .int .u64 lo, .int .u64 hi], .int .u64 hn] w fun e w' => Told w w' T e ∧ P w w' ∧ Chg F w w')
    (hPq : ∀ w w' y, P w w' → Chg (fun _ => False) w' y → P w y)
    (hPs : ∀ w w' y (gT : Nat), P w w' → w'.heap[gT]? = some (.cells #[.int .i64 0, .bool false, .int .u64 0, .bool false, .int .u64 0, .slice none 0 0, .int .u64 0] 39 (0, 0)) → Chg (fun i => i = gT) w' y → P w y)
    (hD : ∀ w w' (B : Nat → Prop), Chg (fun _ => False) W w → P w w' → KeysAt w' kp ks → (∀ i, B i → w.heap.size ≤ i ∧ i < w'.heap.size) → Calls Tryz.prog 15 #[.pointer (some ⟨r, 0, none⟩), .agg #[.int .u8 kd, .int .u64 k, .int .u64 v, .int .u64 od, .int .u64 hk, .bool r5, .int .i64 r6, .int .i64 r7, .slice kp ks.length kc, .int .u64 lo, .int .u64 hi], .int .u64 hn] w' fun e w'' => DTold w'' T e ∧ Q B w'' ∧ Chg F w' w'') :
    Calls Tryz.prog 7 #[.pointer (some ⟨b, 0, none⟩), .agg #[.bool false, .int .u8 kd, .int .u64 k, .int .u64 v, .int .u64 od, .int .u64 hk, .bool r5, .int .i64 r6, .int .i64 r7, .slice kp ks.length kc, .int .u64 lo, .int .u64 hi, .int .i64 er, .bool fo, .int .u64 va, .bool dn, .int .u64 ah, .slice lp l.length lc, .int .u64 co, .int .u64 hn]] W fun e W' => e = .returned (.bool true) ∧ (∃ B w2, Q B w2 ∧ Chg B w2 W' ∧ ∀ i, B i → W.heap.size ≤ i ∧ ∃ cs, w2.heap[i]? = some (.cells cs 86 (0, 0))) ∧ Chg F W W' := by
 obtain ⟨w0, hw0⟩ : ∃ w0, w0 = W.alloc (.cells #[.bool false, .int .u8 kd, .int .u64 k, .int .u64 v, .int .u64 od, .int .u64 hk, .bool r5, .int .i64 r6, .int .i64 r7, .slice kp ks.length kc, .int .u64 lo, .int .u64 hi, .int .i64 er, .bool fo, .int .u64 va, .bool dn, .int .u64 ah, .slice lp l.length lc, .int .u64 co, .int .u64 hn] 41) := ⟨_, rfl⟩
 have C0 : Chg (fun _ => False) W w0 := by rw [hw0]; exact (Chg.refl _ _).alloc _
 have S0 : w0.heap.size = W.heap.size + 1 := by rw [hw0]; simp
 have hbox : w0.heap[W.heap.size]? = some (.cells #[.bool false, .int .u8 kd, .int .u64 k, .int .u64 v, .int .u64 od, .int .u64 hk, .bool r5, .int .i64 r6, .int .i64 r7, .slice kp ks.length kc, .int .u64 lo, .int .u64 hi, .int .i64 er, .bool fo, .int .u64 va, .bool dn, .int .u64 ah, .slice lp l.length lc, .int .u64 co, .int .u64 hn] 41 (0, 0)) := by rw [hw0]; exact heap_alloc_new _ _
 obtain ⟨Bx, hBx⟩ : ∃ x, x = W.heap.size := ⟨_, rfl⟩
 rw [← hBx] at hbox
 obtain ⟨wI, hwI⟩ : ∃ wI, wI = w0.alloc (.cells #[.int .u8 kd, .int .u64 k, .int .u64 v, .int .u64 od, .int .u64 hk, .bool r5, .int .i64 r6, .int .i64 r7, .slice kp ks.length kc, .int .u64 lo, .int .u64 hi] 35) := ⟨_, rfl⟩
 have CI : Chg (fun _ => False) w0 wI := by rw [hwI]; exact (Chg.refl _ _).alloc _
 have hin : wI.heap[w0.heap.size]? = some (.cells #[.int .u8 kd, .int .u64 k, .int .u64 v, .int .u64 od, .int .u64 hk, .bool r5, .int .i64 r6, .int .i64 r7, .slice kp ks.length kc, .int .u64 lo, .int .u64 hi] 35 (0, 0)) := by rw [hwI]; exact heap_alloc_new _ _
 have HCI : Hid (Chg (fun _ => False) W wI) := chgF C0 CI
 have HO := keepH (hand_op hin (hK.chg HCI.out (fun _ _ _ x => x)) hn1)
 have HBOX := keepH ((CI.block _ (lt_of hbox) (fun x => x)).trans hbox)
 have HWI := keepH hwI
 have HIN0 : Hid (KeysAt W kp ks ∧ PairsAt W lp l ∧ BothAt W b m r) := ⟨hK, hL, hb⟩
 have HFF : Hid ((∀ i, F i → i < W.heap.size) ∧ ¬ F b ∧ (ks = [] ∨ ∀ bk off, kp = some ⟨bk, off, none⟩ → ¬ F bk) ∧ (l = [] ∨ ∀ bk off, lp = some ⟨bk, off, none⟩ → ¬ F bk) ∧ ¬ F Bx) := ⟨hF, hbF, hkF, hlF, fun x => by have := hF _ x; omega⟩
 have HBN : Hid (ks.length ≤ 17592186043904 ∧ l.length ≤ 8796093021952) := ⟨hn1, hn2⟩
 have HWF : Hid ((Lit.int .i64 r6).wf = true ∧ (Lit.int .i64 r7).wf = true) := ⟨w6, w7⟩
 have HT := keepH hT
 have HD := keepH hD
 have HPQ := keepH hPq
 have HPS := keepH hPs
 clear hT hD hPq hPs
 have p0 : w0.cell? ⟨Bx, 0, none⟩ = some (.bool false) := cell_of hbox 0
 have p1 : w0.cell? ⟨Bx, 1, none⟩ = some (.int .u8 kd) := cell_of hbox 1
 have p2 : w0.cell? ⟨Bx, 2, none⟩ = some (.int .u64 k) := cell_of hbox 2
 have p3 : w0.cell? ⟨Bx, 3, none⟩ = some (.int .u64 v) := cell_of hbox 3
 have p4 : w0.cell? ⟨Bx, 4, none⟩ = some (.int .u64 od) := cell_of hbox 4
 have p5 : w0.cell? ⟨Bx, 5, none⟩ = some (.int .u64 hk) := cell_of hbox 5
 have p6 : w0.cell? ⟨Bx, 6, none⟩ = some (.bool r5) := cell_of hbox 6
 have p7 : w0.cell? ⟨Bx, 7, none⟩ = some (.int .i64 r6) := cell_of hbox 7
 have p8 : w0.cell? ⟨Bx, 8, none⟩ = some (.int .i64 r7) := cell_of hbox 8
 have p9 : w0.cell? ⟨Bx, 9, none⟩ = some (.slice kp ks.length kc) := cell_of hbox 9
 have p10 : w0.cell? ⟨Bx, 10, none⟩ = some (.int .u64 lo) := cell_of hbox 10
 have p11 : w0.cell? ⟨Bx, 11, none⟩ = some (.int .u64 hi) := cell_of hbox 11
 have p12 : w0.cell? ⟨Bx, 12, none⟩ = some (.int .i64 er) := cell_of hbox 12
 have p13 : w0.cell? ⟨Bx, 13, none⟩ = some (.bool fo) := cell_of hbox 13
 have p14 : w0.cell? ⟨Bx, 14, none⟩ = some (.int .u64 va) := cell_of hbox 14
 have p15 : w0.cell? ⟨Bx, 15, none⟩ = some (.bool dn) := cell_of hbox 15
 have p16 : w0.cell? ⟨Bx, 16, none⟩ = some (.int .u64 ah) := cell_of hbox 16
 have p17 : w0.cell? ⟨Bx, 17, none⟩ = some (.slice lp l.length lc) := cell_of hbox 17
 have p18 : w0.cell? ⟨Bx, 18, none⟩ = some (.int .u64 co) := cell_of hbox 18
 have p19 : w0.cell? ⟨Bx, 19, none⟩ = some (.int .u64 hn) := cell_of hbox 19
 have HBX := keepH hBx
 have HS0 := keepH S0
 clear C0 CI hbox hin hwI hK hL hb w6 w7 hF hbF hkF hlF hn1 hn2 S0
 go_enter Tryz.func7, Tryz.ntmps7
 go_upto_region 1 with fail
 rw [← hw0]
 rw [← hBx]
 clear hw0 hBx
 go_wp2_with fail
 rw [← HWI.out]
 refine HO.out.mono ?_
 rintro e w2 ⟨rfl, gk, xs, hH⟩
 obtain ⟨g, hg⟩ : ∃ g, g = wI.heap.size := ⟨_, rfl⟩
 rw [← hg] at hH ⊢
 have HH := keepH hH
 have HC2 : Hid (Chg (fun _ => False) W w2) := chgF HCI.out hH.chg
 have HBOX2 := keepH ((hH.chg.block _ (lt_of HBOX.out) (fun x => x)).trans HBOX.out)
 have HGC : Hid (∀ (j : Nat) (u : Value), ([.int .u8 kd, .int .u64 k, .int .u64 v, .int .u64 od, .int .u64 hk, .bool r5, .int .i64 r6, .int .i64 r7, .slice (some ⟨gk, 0, none⟩) ks.length (ks.length + 9), .int .u64 lo, .int .u64 hi] : List Value)[j]? = some u → w2.cell? ⟨g, j, none⟩ = some u) := fun j u hj => by
  have hl := (List.getElem?_eq_some_iff.1 hj).1
  rw [hH.row.cell j (by simp at hl; omega)]
  exact hH.cs j u hj
 have HGM : Hid (∀ j, j < 9 → w2.cell? ⟨g, (1 + j) * 11 + 1, none⟩ = some (.int .u64 (2305843009213693952 + (j : Int)))) := fun j hj => by
  rw [hH.row.cell _ (by omega)]
  exact hH.mks j hj
 have HGK : Hid (Handed w2 gk ks.length (fun j => ks.getD j 0) ∧ gk < w2.heap.size) := ⟨hH.hd, hH.ge.2.2⟩
 have HGL : Hid (g < w2.heap.size) := hH.row.lt.2
 have HGF : Hid (¬ F g ∧ ¬ F gk) := ⟨fun x => by have := HFF.out.1 _ x; have := HCI.out.size; omega, fun x => by have := HFF.out.1 _ x; have := HCI.out.size; have := hH.ge; omega⟩
 clear hH hg HH HWI HO p0 p1 p2 p3 p4 p5 p6 p7 p8 p9 p10 p11 p12 p13 p14 p15 p16 p17 p18 p19
 have p0 : w2.cell? ⟨Bx, 0, none⟩ = some (.bool false) := cell_of HBOX2.out 0
 have hS : ∀ w', Chg F w2 w' → Hid (w'.cell? ⟨b, 0, none⟩ = some (.pointer (some ⟨m, 0, none⟩)) ∧ w'.cell? ⟨g, 0, none⟩ = some (.int .u8 kd) ∧ w'.cell? ⟨g, 1, none⟩ = some (.int .u64 k) ∧ w'.cell? ⟨g, 2, none⟩ = some (.int .u64 v) ∧ w'.cell? ⟨g, 3, none⟩ = some (.int .u64 od) ∧ w'.cell? ⟨g, 4, none⟩ = some (.int .u64 hk) ∧ w'.cell? ⟨g, 5, none⟩ = some (.bool r5) ∧ w'.cell? ⟨g, 6, none⟩ = some (.int .i64 r6) ∧ w'.cell? ⟨g, 7, none⟩ = some (.int .i64 r7) ∧ w'.cell? ⟨g, 8, none⟩ = some (.slice (some ⟨gk, 0, none⟩) ks.length (ks.length + 9)) ∧ w'.cell? ⟨g, 9, none⟩ = some (.int .u64 lo) ∧ w'.cell? ⟨g, 10, none⟩ = some (.int .u64 hi) ∧ w'.cell? ⟨Bx, 19, none⟩ = some (.int .u64 hn)) := fun w' cw => by
  have c02 : Chg F W w' := (HC2.out.mono (fun _ _ x => x.elim)).trans cw (fun _ _ x => x) (fun _ _ x => x)
  exact ⟨cell_of ((c02.block _ (lt_of HIN0.out.2.2) HFF.out.2.1).trans HIN0.out.2.2) 0, cell_chg cw (HGC.out 0 _ rfl) HGF.out.1, cell_chg cw (HGC.out 1 _ rfl) HGF.out.1, cell_chg cw (HGC.out 2 _ rfl) HGF.out.1, cell_chg cw (HGC.out 3 _ rfl) HGF.out.1, cell_chg cw (HGC.out 4 _ rfl) HGF.out.1, cell_chg cw (HGC.out 5 _ rfl) HGF.out.1, cell_chg cw (HGC.out 6 _ rfl) HGF.out.1, cell_chg cw (HGC.out 7 _ rfl) HGF.out.1, cell_chg cw (HGC.out 8 _ rfl) HGF.out.1, cell_chg cw (HGC.out 9 _ rfl) HGF.out.1, cell_chg cw (HGC.out 10 _ rfl) HGF.out.1, cell_of ((cw.block _ (lt_of HBOX2.out) HFF.out.2.2.2.2).trans HBOX2.out) 19⟩
 have C2 : Chg (fun _ => False) w2 w2 := Chg.refl _ _
 have C2d : Chg F w2 w2.drew := C2.drew.mono (fun _ _ x => x.elim)
 have H1 : Hid (∀ w, Chg (fun _ => False) w2 w → Calls Tryz.prog 17 #[.pointer (some ⟨m, 0, none⟩), .agg #[.int .u8 kd, .int .u64 k, .int .u64 v, .int .u64 od, .int .u64 hk, .bool r5, .int .i64 r6, .int .i64 r7, .slice (some ⟨gk, 0, none⟩) ks.length (ks.length + 9), .int .u64 lo, .int .u64 hi], .int .u64 hn] w fun e w' => Told w w' T e ∧ P w w' ∧ Chg F w w') := fun w cw =>
  HT.out w gk (chgF HC2.out cw) ((HGK.out.1.chg cw (fun x => x)).keys (Nat.lt_of_lt_of_le HGK.out.2 cw.size) HIN0.out.1.small)
 have C2e : Chg (fun _ => False) w2 w2.drew := C2.drew
 clear HT
 go_upto_region 6 with fail
 go_cut [8] from 8 to 58 (fun s8 wz => ∃ gT p c, s8 = .pointer (some ⟨gT, 0, none⟩) ∧ Hid (wz.heap[gT]? = some (.cells #[.int .i64 T.e, .bool T.f, .int .u64 T.x, .bool T.d, .int .u64 T.h, .slice p T.l.length c, .int .u64 T.n] 39 (0, 0)) ∧ OPairs wz p c T.l ∧ (∃ w, Chg (fun _ => False) W w ∧ P w wz ∧ ∀ bk off, p = some ⟨bk, off, none⟩ → w.heap.size ≤ bk) ∧ (∀ bk off, p = some ⟨bk, off, none⟩ → w2.heap.size ≤ bk ∧ bk ≠ gT) ∧ Chg F w2 wz ∧ w2.heap.size ≤ gT ∧ T.l.length ≤ 8796093022000))
 case first =>
  refine wp_region_held_drew (S := fun w' => w'.cell? ⟨b, 0, none⟩ = some (.pointer (some ⟨m, 0, none⟩)) ∧ w'.cell? ⟨g, 0, none⟩ = some (.int .u8 kd) ∧ w'.cell? ⟨g, 1, none⟩ = some (.int .u64 k) ∧ w'.cell? ⟨g, 2, none⟩ = some (.int .u64 v) ∧ w'.cell? ⟨g, 3, none⟩ = some (.int .u64 od) ∧ w'.cell? ⟨g, 4, none⟩ = some (.int .u64 hk) ∧ w'.cell? ⟨g, 5, none⟩ = some (.bool r5) ∧ w'.cell? ⟨g, 6, none⟩ = some (.int .i64 r6) ∧ w'.cell? ⟨g, 7, none⟩ = some (.int .i64 r7) ∧ w'.cell? ⟨g, 8, none⟩ = some (.slice (some ⟨gk, 0, none⟩) ks.length (ks.length + 9)) ∧ w'.cell? ⟨g, 9, none⟩ = some (.int .u64 lo) ∧ w'.cell? ⟨g, 10, none⟩ = some (.int .u64 hi) ∧ w'.cell? ⟨Bx, 19, none⟩ = some (.int .u64 hn)) (by kernel_rfl) ((hS _ C2d).out) ?_
  intro hHeld
  refine wT (v := ?_) 0 rfl (by rfl) ?_ hHeld ?_
  rotate_left
  ·intro w hSw
   try dsimp only at hSw
   go_simp
   try with_reducible rfl
  try simp only [Act.put, lj]
  refine wT (v := ?_) 1 rfl (by rfl) ?_ hHeld ?_
  rotate_left
  ·intro w hSw
   try dsimp only at hSw
   go_simp
   try with_reducible rfl
  try simp only [Act.put, lj]
  refine wT (v := ?_) 2 rfl (by rfl) ?_ hHeld ?_
  rotate_left
  ·intro w hSw
   try dsimp only at hSw
   go_simp
   try with_reducible rfl
  try simp only [Act.put, lj]
  refine wT (v := ?_) 3 rfl (by rfl) ?_ hHeld ?_
  rotate_left
  ·intro w hSw
   try dsimp only at hSw
   obtain ⟨y0, y1, y2, y3, y4, y5, y6, y7, y8, y9, y10, y11, y12⟩ := hSw
   go_simp
   try with_reducible rfl
  try simp only [Act.put, lj]
  refine wT (v := ?_) 4 rfl (by rfl) ?_ hHeld ?_
  rotate_left
  ·intro w hSw
   try dsimp only at hSw
   go_simp
   try with_reducible rfl
  try simp only [Act.put, lj]
  refine wT (v := ?_) 5 rfl (by rfl) ?_ hHeld ?_
  rotate_left
  ·intro w hSw
   try dsimp only at hSw
   go_simp
   try with_reducible rfl
  try simp only [Act.put, lj]
  refine wT (v := ?_) 6 rfl (by rfl) ?_ hHeld ?_
  rotate_left
  ·intro w hSw
   try dsimp only at hSw
   obtain ⟨y0, y1, y2, y3, y4, y5, y6, y7, y8, y9, y10, y11, y12⟩ := hSw
   go_simp
   try with_reducible rfl
  try simp only [Act.put, lj]
  refine wT (v := ?_) 7 rfl (by rfl) ?_ hHeld ?_
  rotate_left
  ·intro w hSw
   try dsimp only at hSw
   go_simp
   try with_reducible rfl
  try simp only [Act.put, lj]
  refine wT (v := ?_) 8 rfl (by rfl) ?_ hHeld ?_
  rotate_left
  ·intro w hSw
   try dsimp only at hSw
   obtain ⟨y0, y1, y2, y3, y4, y5, y6, y7, y8, y9, y10, y11, y12⟩ := hSw
   go_simp
   try with_reducible rfl
  try simp only [Act.put, lj]
  refine wpAnyH_ready (rs := [9, 10]) (by kernel_rfl) (by simp) ?_
  refine AllReadyH.cons rfl (fun KK hKK => ?_) (AllReadyH.cons rfl (fun KK hKK => ?_) AllReadyH.nil)
  ·skip
   go_simp
   refine (H1.out _ (C2e)).mono ?_
   rintro e z1 ⟨⟨p, c, rfl, hp, hbk, hTl⟩, hP1, hz1⟩
   unfold ansC
   have HP1 := keepH hP1
   have HR1 : Hid (OPairs z1 p c T.l ∧ (∀ bk off, p = some ⟨bk, off, none⟩ → w2.heap.size ≤ bk) ∧ T.l.length ≤ 8796093022000) := ⟨hp, fun bk off e => by have := hbk bk off e; (try simp at this); omega, hTl⟩
   have HR1x := keepH hbk
   clear hP1 hp hbk hTl
   have hy1 : Chg F w2 z1 := (C2d).trans hz1 (fun _ _ x => x) (fun _ _ x => x)
   refine hKK.out _ _ ?_ (fun hHeld => ?_)
   ·exact (hS _ hy1).out
   clear hKK KK
   try simp only [Act.put, lj]
   refine wR 10 rfl (fun KK hKK => ?_)
   go_simp
   try go_wp2_with fail
   refine hKK.out _ _ ?_ (fun hHeld => ?_)
   ·exact (hS _ (hy1.alloc _)).out
   clear hKK KK
   try simp only [Act.put, lj]
   obtain ⟨gT, hgT⟩ : ∃ gT, gT = z1.heap.size := ⟨_, rfl⟩
   obtain ⟨y, hy⟩ : ∃ y, y = z1.alloc (.cells #[.int .i64 T.e, .bool T.f, .int .u64 T.x, .bool T.d, .int .u64 T.h, .slice p T.l.length c, .int .u64 T.n] 39) := ⟨_, rfl⟩
   have HFIN : Hid (y.heap[gT]? = some (.cells #[.int .i64 T.e, .bool T.f, .int .u64 T.x, .bool T.d, .int .u64 T.h, .slice p T.l.length c, .int .u64 T.n] 39 (0, 0)) ∧ OPairs y p c T.l ∧ (∃ w, Chg (fun _ => False) W w ∧ P w y ∧ ∀ bk off, p = some ⟨bk, off, none⟩ → w.heap.size ≤ bk) ∧ (∀ bk off, p = some ⟨bk, off, none⟩ → w2.heap.size ≤ bk ∧ bk ≠ gT) ∧ Chg F w2 y ∧ w2.heap.size ≤ gT ∧ T.l.length ≤ 8796093022000) := by
    have cA : Chg (fun _ => False) z1 y := by rw [hy]; exact (Chg.refl _ _).alloc _
    have hs1 := hy1.size
    have hlt : ∀ bk off, p = some ⟨bk, off, none⟩ → bk < z1.heap.size := fun bk off e => (HR1.out.1.lt bk (by rw [e]; rfl)).2
    exact ⟨by rw [hy, hgT]; exact heap_alloc_new _ _, HR1.out.1.chg cA, ⟨w2.drew, chgF HC2.out C2e, HPQ.out _ _ _ HP1.out cA, fun bk off e => HR1.out.2.1 bk off e⟩, fun bk off e => ⟨HR1.out.2.1 bk off e, fun x => by have := hlt bk off e; omega⟩, hy1.trans (cA.mono (fun _ _ x => x.elim)) (fun _ _ x => x) (fun _ _ x => x), by omega, HR1.out.2.2⟩
   have HYS : Hid (Chg F w2 y) := HFIN.out.2.2.2.2.1
   refine wR 11 rfl (fun KK hKK => ?_)
   go_simp
   try go_wp2_with fail
   rw [← hy, ← hgT]
   clear hy hgT
   refine hKK.out _ _ ?_ (fun hHeld => ?_)
   ·exact (hS _ HYS.out).out
   clear hKK KK
   try simp only [Act.put, lj]
   refine wpAnyH_done (by kernel_rfl) ?_ _
   go_simp
   try go_wp2_with fail
   go_meet
   exact ⟨gT, p, c, rfl, HFIN.out⟩
  ·skip
   go_simp
   try go_wp2_with fail
   refine hKK.out _ _ ?_ (fun hHeld => ?_)
   ·exact (hS _ (C2d.alloc _)).out
   clear hKK KK
   try simp only [Act.put, lj]
   obtain ⟨x0, hx0⟩ : ∃ x0, x0 = (w2.alloc (.cells #[.int .i64 0, .bool false, .int .u64 0, .bool false, .int .u64 0, .slice none 0 0, .int .u64 0] 39)).drew := ⟨_, rfl⟩
   have CX : Chg (fun _ => False) w2 x0 := by rw [hx0]; exact (C2.alloc _).drew
   have hX0 : x0.heap[w2.heap.size]? = some (.cells #[.int .i64 0, .bool false, .int .u64 0, .bool false, .int .u64 0, .slice none 0 0, .int .u64 0] 39 (0, 0)) := by rw [hx0]; exact heap_alloc_new w2 _
   have hsx : x0.heap.size = w2.heap.size + 1 := by rw [hx0]; show (w2.alloc _).heap.size = _; simp
   refine wR 9 rfl (fun KK hKK => ?_)
   go_simp
   rw [← hx0]
   refine (H1.out _ (CX)).mono ?_
   rintro e z1 ⟨⟨p, c, rfl, hp, hbk, hTl⟩, hP1, hz1⟩
   unfold ansC
   have HP1 := keepH hP1
   have HR1 : Hid (OPairs z1 p c T.l ∧ (∀ bk off, p = some ⟨bk, off, none⟩ → w2.heap.size ≤ bk) ∧ T.l.length ≤ 8796093022000) := ⟨hp, fun bk off e => by have := hbk bk off e; (try simp at this); omega, hTl⟩
   have HR1x := keepH hbk
   clear hP1 hp hbk hTl
   have hz2 : Chg F w2 z1 := (CX.mono (fun _ _ x => x.elim)).trans hz1 (fun _ _ x => x) (fun _ _ x => x)
   refine hKK.out _ _ ?_ (fun hHeld => ?_)
   ·exact (hS _ hz2).out
   clear hKK KK
   try simp only [Act.put, lj]
   have hT : z1.heap[w2.heap.size]? = some (.cells #[.int .i64 0, .bool false, .int .u64 0, .bool false, .int .u64 0, .slice none 0 0, .int .u64 0] 39 (0, 0)) := (hz1.block w2.heap.size (lt_of hX0) (fun x => by have := HFF.out.1 _ x; have := HC2.out.size; omega)).trans hX0
   have HSX : Hid (w2.heap.size = w2.heap.size ∧ x0.heap.size = w2.heap.size + 1 ∧ Chg (fun _ => False) w2 x0 ∧ Chg F x0 z1 ∧ Chg F w2 z1) := ⟨rfl, hsx, CX, hz1, hz2⟩
   clear hX0 hsx CX hz1 hz2 hx0
   have s0 : (z1).cell? ⟨w2.heap.size, 0, none⟩ = some (.int .i64 0) := cell_of hT 0
   have f0 := free_of hT 0
   have h0 := bset hT 0 (.int .i64 T.e)
   have s1 : (z1.setCell ⟨w2.heap.size, 0, none⟩ (.int .i64 T.e)).cell? ⟨w2.heap.size, 1, none⟩ = some (.bool false) := cell_of h0 1
   have f1 := free_of h0 1
   have h1 := bset h0 1 (.bool T.f)
   have s2 : ((z1.setCell ⟨w2.heap.size, 0, none⟩ (.int .i64 T.e)).setCell ⟨w2.heap.size, 1, none⟩ (.bool T.f)).cell? ⟨w2.heap.size, 2, none⟩ = some (.int .u64 0) := cell_of h1 2
   have f2 := free_of h1 2
   have h2 := bset h1 2 (.int .u64 T.x)
   have s3 : (((z1.setCell ⟨w2.heap.size, 0, none⟩ (.int .i64 T.e)).setCell ⟨w2.heap.size, 1, none⟩ (.bool T.f)).setCell ⟨w2.heap.size, 2, none⟩ (.int .u64 T.x)).cell? ⟨w2.heap.size, 3, none⟩ = some (.bool false) := cell_of h2 3
   have f3 := free_of h2 3
   have h3 := bset h2 3 (.bool T.d)
   have s4 : ((((z1.setCell ⟨w2.heap.size, 0, none⟩ (.int .i64 T.e)).setCell ⟨w2.heap.size, 1, none⟩ (.bool T.f)).setCell ⟨w2.heap.size, 2, none⟩ (.int .u64 T.x)).setCell ⟨w2.heap.size, 3, none⟩ (.bool T.d)).cell? ⟨w2.heap.size, 4, none⟩ = some (.int .u64 0) := cell_of h3 4
   have f4 := free_of h3 4
   have h4 := bset h3 4 (.int .u64 T.h)
   have s5 : (((((z1.setCell ⟨w2.heap.size, 0, none⟩ (.int .i64 T.e)).setCell ⟨w2.heap.size, 1, none⟩ (.bool T.f)).setCell ⟨w2.heap.size, 2, none⟩ (.int .u64 T.x)).setCell ⟨w2.heap.size, 3, none⟩ (.bool T.d)).setCell ⟨w2.heap.size, 4, none⟩ (.int .u64 T.h)).cell? ⟨w2.heap.size, 5, none⟩ = some (.slice none 0 0) := cell_of h4 5
   have f5 := free_of h4 5
   have h5 := bset h4 5 (.slice p T.l.length c)
   have s6 : ((((((z1.setCell ⟨w2.heap.size, 0, none⟩ (.int .i64 T.e)).setCell ⟨w2.heap.size, 1, none⟩ (.bool T.f)).setCell ⟨w2.heap.size, 2, none⟩ (.int .u64 T.x)).setCell ⟨w2.heap.size, 3, none⟩ (.bool T.d)).setCell ⟨w2.heap.size, 4, none⟩ (.int .u64 T.h)).setCell ⟨w2.heap.size, 5, none⟩ (.slice p T.l.length c)).cell? ⟨w2.heap.size, 6, none⟩ = some (.int .u64 0) := cell_of h5 6
   have f6 := free_of h5 6
   have h6 := bset h5 6 (.int .u64 T.n)
   obtain ⟨y, hy⟩ : ∃ y, y = ((((((z1.setCell ⟨w2.heap.size, 0, none⟩ (.int .i64 T.e)).setCell ⟨w2.heap.size, 1, none⟩ (.bool T.f)).setCell ⟨w2.heap.size, 2, none⟩ (.int .u64 T.x)).setCell ⟨w2.heap.size, 3, none⟩ (.bool T.d)).setCell ⟨w2.heap.size, 4, none⟩ (.int .u64 T.h)).setCell ⟨w2.heap.size, 5, none⟩ (.slice p T.l.length c)).setCell ⟨w2.heap.size, 6, none⟩ (.int .u64 T.n) := ⟨_, rfl⟩
   have HFIN : Hid (y.heap[w2.heap.size]? = some (.cells #[.int .i64 T.e, .bool T.f, .int .u64 T.x, .bool T.d, .int .u64 T.h, .slice p T.l.length c, .int .u64 T.n] 39 (0, 0)) ∧ OPairs y p c T.l ∧ (∃ w, Chg (fun _ => False) W w ∧ P w y ∧ ∀ bk off, p = some ⟨bk, off, none⟩ → w.heap.size ≤ bk) ∧ (∀ bk off, p = some ⟨bk, off, none⟩ → w2.heap.size ≤ bk ∧ bk ≠ w2.heap.size) ∧ Chg F w2 y ∧ w2.heap.size ≤ w2.heap.size ∧ T.l.length ≤ 8796093022000) := by
    have q : Chg (fun i => i = w2.heap.size) z1 y := by
     rw [hy]
     exact ((((((setP _).trans (setP _) (fun _ _ x => x) (fun _ _ x => x)).trans (setP _) (fun _ _ x => x) (fun _ _ x => x)).trans (setP _) (fun _ _ x => x) (fun _ _ x => x)).trans (setP _) (fun _ _ x => x) (fun _ _ x => x)).trans (setP _) (fun _ _ x => x) (fun _ _ x => x)).trans (setP _) (fun _ _ x => x) (fun _ _ x => x)
    have hs1 := HSX.out
    have hbk2 : ∀ bk off, p = some ⟨bk, off, none⟩ → x0.heap.size ≤ bk := fun bk off e => HR1x.out bk off e
    exact ⟨by rw [hy]; exact h6, HR1.out.1.chgF q (fun bk off e x => by have := hbk2 bk off e; omega), ⟨x0, chgF HC2.out hs1.2.2.1, HPS.out _ _ _ _ HP1.out hT q, fun bk off e => hbk2 bk off e⟩, fun bk off e => ⟨HR1.out.2.1 bk off e, fun x => by have := hbk2 bk off e; omega⟩, hs1.2.2.2.2.trans q (fun _ _ x => x) (fun i hi e => by omega), by omega, HR1.out.2.2⟩
   have HYS : Hid (Chg F w2 y) := HFIN.out.2.2.2.2.1
   refine wR 11 rfl (fun KK hKK => ?_)
   go_simp
   try go_wp2_with fail
   rw [← hy]
   clear hy hT s0 f0 h0 s1 f1 h1 s2 f2 h2 s3 f3 h3 s4 f4 h4 s5 f5 h5 s6 f6 h6
   refine hKK.out _ _ ?_ (fun hHeld => ?_)
   ·exact (hS _ HYS.out).out
   clear hKK KK
   try simp only [Act.put, lj]
   refine wpAnyH_done (by kernel_rfl) ?_ _
   go_simp
   try go_wp2_with fail
   go_meet
   exact ⟨w2.heap.size, p, c, rfl, HFIN.out⟩
 case rest =>
  obtain ⟨gT, p, c, rfl, HZ⟩ := hcut
  clear p0 hS C2 C2d H1 C2e
  have HGT : Hid (¬ F gT) := fun x => by have := HFF.out.1 _ x; have := HZ.out.2.2.2.2.2.1; have := HC2.out.size; omega
  have hS7 : ∀ w', Chg F wc w' → Hid (w'.cell? ⟨gT, 0, none⟩ = some (.int .i64 T.e) ∧ w'.cell? ⟨gT, 1, none⟩ = some (.bool T.f) ∧ w'.cell? ⟨gT, 2, none⟩ = some (.int .u64 T.x) ∧ w'.cell? ⟨gT, 3, none⟩ = some (.bool T.d) ∧ w'.cell? ⟨gT, 4, none⟩ = some (.int .u64 T.h) ∧ w'.cell? ⟨gT, 5, none⟩ = some (.slice p T.l.length c) ∧ w'.cell? ⟨gT, 6, none⟩ = some (.int .u64 T.n) ∧ w'.cell? ⟨b, 1, none⟩ = some (.pointer (some ⟨r, 0, none⟩)) ∧ w'.cell? ⟨Bx, 1, none⟩ = some (.int .u8 kd) ∧ w'.cell? ⟨Bx, 2, none⟩ = some (.int .u64 k) ∧ w'.cell? ⟨Bx, 3, none⟩ = some (.int .u64 v) ∧ w'.cell? ⟨Bx, 4, none⟩ = some (.int .u64 od) ∧ w'.cell? ⟨Bx, 5, none⟩ = some (.int .u64 hk) ∧ w'.cell? ⟨Bx, 6, none⟩ = some (.bool r5) ∧ w'.cell? ⟨Bx, 7, none⟩ = some (.int .i64 r6) ∧ w'.cell? ⟨Bx, 8, none⟩ = some (.int .i64 r7) ∧ w'.cell? ⟨Bx, 9, none⟩ = some (.slice kp ks.length kc) ∧ w'.cell? ⟨Bx, 10, none⟩ = some (.int .u64 lo) ∧ w'.cell? ⟨Bx, 11, none⟩ = some (.int .u64 hi) ∧ w'.cell? ⟨Bx, 19, none⟩ = some (.int .u64 hn)) := fun w' cw => by
   have c2 : Chg F w2 w' := HZ.out.2.2.2.2.1.trans cw (fun _ _ x => x) (fun _ _ x => x)
   have c02 : Chg F W w' := (HC2.out.mono (fun _ _ x => x.elim)).trans c2 (fun _ _ x => x) (fun _ _ x => x)
   exact ⟨cell_of ((cw.block _ (lt_of HZ.out.1) HGT.out).trans HZ.out.1) 0, cell_of ((cw.block _ (lt_of HZ.out.1) HGT.out).trans HZ.out.1) 1, cell_of ((cw.block _ (lt_of HZ.out.1) HGT.out).trans HZ.out.1) 2, cell_of ((cw.block _ (lt_of HZ.out.1) HGT.out).trans HZ.out.1) 3, cell_of ((cw.block _ (lt_of HZ.out.1) HGT.out).trans HZ.out.1) 4, cell_of ((cw.block _ (lt_of HZ.out.1) HGT.out).trans HZ.out.1) 5, cell_of ((cw.block _ (lt_of HZ.out.1) HGT.out).trans HZ.out.1) 6, cell_of ((c02.block _ (lt_of HIN0.out.2.2) HFF.out.2.1).trans HIN0.out.2.2) 1, cell_of ((c2.block _ (lt_of HBOX2.out) HFF.out.2.2.2.2).trans HBOX2.out) 1, cell_of ((c2.block _ (lt_of HBOX2.out) HFF.out.2.2.2.2).trans HBOX2.out) 2, cell_of ((c2.block _ (lt_of HBOX2.out) HFF.out.2.2.2.2).trans HBOX2.out) 3, cell_of ((c2.block _ (lt_of HBOX2.out) HFF.out.2.2.2.2).trans HBOX2.out) 4, cell_of ((c2.block _ (lt_of HBOX2.out) HFF.out.2.2.2.2).trans HBOX2.out) 5, cell_of ((c2.block _ (lt_of HBOX2.out) HFF.out.2.2.2.2).trans HBOX2.out) 6, cell_of ((c2.block _ (lt_of HBOX2.out) HFF.out.2.2.2.2).trans HBOX2.out) 7, cell_of ((c2.block _ (lt_of HBOX2.out) HFF.out.2.2.2.2).trans HBOX2.out) 8, cell_of ((c2.block _ (lt_of HBOX2.out) HFF.out.2.2.2.2).trans HBOX2.out) 9, cell_of ((c2.block _ (lt_of HBOX2.out) HFF.out.2.2.2.2).trans HBOX2.out) 10, cell_of ((c2.block _ (lt_of HBOX2.out) HFF.out.2.2.2.2).trans HBOX2.out) 11, cell_of ((c2.block _ (lt_of HBOX2.out) HFF.out.2.2.2.2).trans HBOX2.out) 19⟩
  have Cc : Chg (fun _ => False) wc wc.drew := (Chg.refl _ _).drew
  have Cd : Chg F wc wc.drew := Cc.mono (fun _ _ x => x.elim)
  have HBK : Hid (∀ i, p = some ⟨i, 0, none⟩ → W.heap.size ≤ i ∧ w2.heap.size ≤ i ∧ i ≠ gT ∧ i < wc.heap.size ∧ ¬ F i) := fun i e => by
   have h1 := HZ.out.2.2.2.1 i 0 e
   have h2 := (HZ.out.2.1.lt i (by rw [e]; rfl)).2
   have := HC2.out.size
   exact ⟨by omega, h1.1, h1.2, h2, fun x => by have := HFF.out.1 _ x; omega⟩
  have H7 : Hid (Calls Tryz.prog 15 #[.pointer (some ⟨r, 0, none⟩), .agg #[.int .u8 kd, .int .u64 k, .int .u64 v, .int .u64 od, .int .u64 hk, .bool r5, .int .i64 r6, .int .i64 r7, .slice kp ks.length kc, .int .u64 lo, .int .u64 hi], .int .u64 hn] wc.drew fun e w'' => DTold w'' T e ∧ Q (fun i => p = some ⟨i, 0, none⟩) w'' ∧ Chg F wc w'') := by
   obtain ⟨w, cw, hP, hb⟩ := HZ.out.2.2.1
   refine (HD.out w wc.drew (fun i => p = some ⟨i, 0, none⟩) cw (HPQ.out _ _ _ hP Cc) (HIN0.out.1.chgE ((HC2.out.mono (fun _ _ x => x.elim)).trans (HZ.out.2.2.2.2.1.trans Cd (fun _ _ x => x) (fun _ _ x => x)) (fun _ _ x => x) (fun _ _ x => x) : Chg F W wc.drew) HFF.out.2.2.1) (fun i e => ⟨hb i 0 e, (HBK.out i e).2.2.2.1⟩)).mono ?_
   rintro e w'' ⟨h1, h2, h3⟩
   exact ⟨h1, h2, Cd.trans h3 (fun _ _ x => x) (fun _ _ x => x)⟩
  have HOP : Hid (∀ w, Chg F wc w → OPairs w p c T.l) := fun w cw => HZ.out.2.1.chgF cw (fun bk off e x => by
   have h1 := HZ.out.2.2.2.1 bk off e
   have := HFF.out.1 _ x
   have := HC2.out.size
   omega)
  have H8 : Hid (∀ w, Chg F wc w → ∀ p2 c2, PairsAt w p2 T.l → Calls Tryz.prog 29 #[.agg #[.int .i64 T.e, .bool T.f, .int .u64 T.x, .bool T.d, .int .u64 T.h, .slice p T.l.length c, .int .u64 T.n], .agg #[.int .i64 T.e, .bool T.f, .int .u64 T.x, .bool T.d, .int .u64 T.h, .slice p2 T.l.length c2, .int .u64 T.n]] w fun e w' => e = .returned (.bool true) ∧ Chg (fun _ => False) w w') := fun w cw p2 c2 h2 => by
   have hl := HZ.out.2.2.2.2.2.2
   have q := s_same T.e T.e T.f T.f T.d T.d T.x T.x T.h T.h T.n T.n p p2 c c2 T.l T.l w (HOP.out w cw).at_ h2 (by omega) (by omega)
   rw [show decide ((⟨T.e, T.f, T.x, T.d, T.h, T.l, T.n⟩ : Ans) = ⟨T.e, T.f, T.x, T.d, T.h, T.l, T.n⟩) = true from by simp] at q
   exact q
  go_upto_region 7 with fail
  refine wp_region_held_drew (S := fun w' => w'.cell? ⟨gT, 0, none⟩ = some (.int .i64 T.e) ∧ w'.cell? ⟨gT, 1, none⟩ = some (.bool T.f) ∧ w'.cell? ⟨gT, 2, none⟩ = some (.int .u64 T.x) ∧ w'.cell? ⟨gT, 3, none⟩ = some (.bool T.d) ∧ w'.cell? ⟨gT, 4, none⟩ = some (.int .u64 T.h) ∧ w'.cell? ⟨gT, 5, none⟩ = some (.slice p T.l.length c) ∧ w'.cell? ⟨gT, 6, none⟩ = some (.int .u64 T.n) ∧ w'.cell? ⟨b, 1, none⟩ = some (.pointer (some ⟨r, 0, none⟩)) ∧ w'.cell? ⟨Bx, 1, none⟩ = some (.int .u8 kd) ∧ w'.cell? ⟨Bx, 2, none⟩ = some (.int .u64 k) ∧ w'.cell? ⟨Bx, 3, none⟩ = some (.int .u64 v) ∧ w'.cell? ⟨Bx, 4, none⟩ = some (.int .u64 od) ∧ w'.cell? ⟨Bx, 5, none⟩ = some (.int .u64 hk) ∧ w'.cell? ⟨Bx, 6, none⟩ = some (.bool r5) ∧ w'.cell? ⟨Bx, 7, none⟩ = some (.int .i64 r6) ∧ w'.cell? ⟨Bx, 8, none⟩ = some (.int .i64 r7) ∧ w'.cell? ⟨Bx, 9, none⟩ = some (.slice kp ks.length kc) ∧ w'.cell? ⟨Bx, 10, none⟩ = some (.int .u64 lo) ∧ w'.cell? ⟨Bx, 11, none⟩ = some (.int .u64 hi) ∧ w'.cell? ⟨Bx, 19, none⟩ = some (.int .u64 hn)) (by kernel_rfl) ((hS7 _ Cd).out) ?_
  intro hHeld
  refine wT (v := ?_) 0 rfl (by rfl) ?_ hHeld ?_
  rotate_left
  ·intro w hSw
   try dsimp only at hSw
   obtain ⟨y0, y1, y2, y3, y4, y5, y6, y7, y8, y9, y10, y11, y12, y13, y14, y15, y16, y17, y18, y19⟩ := hSw
   go_simp
   try with_reducible rfl
  try simp only [Act.put, lj]
  refine wT (v := ?_) 1 rfl (by rfl) ?_ hHeld ?_
  rotate_left
  ·intro w hSw
   try dsimp only at hSw
   go_simp
   try with_reducible rfl
  try simp only [Act.put, lj]
  refine wT (v := ?_) 2 rfl (by rfl) ?_ hHeld ?_
  rotate_left
  ·intro w hSw
   try dsimp only at hSw
   go_simp
   try with_reducible rfl
  try simp only [Act.put, lj]
  refine wT (v := ?_) 3 rfl (by rfl) ?_ hHeld ?_
  rotate_left
  ·intro w hSw
   try dsimp only at hSw
   go_simp
   try with_reducible rfl
  try simp only [Act.put, lj]
  refine wT (v := ?_) 4 rfl (by rfl) ?_ hHeld ?_
  rotate_left
  ·intro w hSw
   try dsimp only at hSw
   obtain ⟨y0, y1, y2, y3, y4, y5, y6, y7, y8, y9, y10, y11, y12, y13, y14, y15, y16, y17, y18, y19⟩ := hSw
   go_simp
   try with_reducible rfl
  try simp only [Act.put, lj]
  refine wT (v := ?_) 5 rfl (by rfl) ?_ hHeld ?_
  rotate_left
  ·intro w hSw
   try dsimp only at hSw
   go_simp
   try with_reducible rfl
  try simp only [Act.put, lj]
  refine wT (v := ?_) 6 rfl (by rfl) ?_ hHeld ?_
  rotate_left
  ·intro w hSw
   try dsimp only at hSw
   obtain ⟨y0, y1, y2, y3, y4, y5, y6, y7, y8, y9, y10, y11, y12, y13, y14, y15, y16, y17, y18, y19⟩ := hSw
   go_simp
   try with_reducible rfl
  try simp only [Act.put, lj]
  refine wT (v := ?_) 7 rfl (by rfl) ?_ hHeld ?_
  rotate_left
  ·intro w hSw
   try dsimp only at hSw
   go_simp
   try with_reducible rfl
  try simp only [Act.put, lj]
  refine wT (v := ?_) 8 rfl (by rfl) ?_ hHeld ?_
  rotate_left
  ·intro w hSw
   try dsimp only at hSw
   obtain ⟨y0, y1, y2, y3, y4, y5, y6, y7, y8, y9, y10, y11, y12, y13, y14, y15, y16, y17, y18, y19⟩ := hSw
   go_simp
   try with_reducible rfl
  try simp only [Act.put, lj]
  refine wR 9 rfl (fun KK hKK => ?_)
  go_simp
  refine (H7.out).mono ?_
  rintro e z2 ⟨⟨p2, c2, rfl, hp2⟩, hQ2, hz2⟩
  unfold ansC
  have HQ2 := keepH hQ2
  have HP2 := keepH hp2
  clear hQ2 hp2
  refine hKK.out _ _ ?_ (fun hHeld => ?_)
  ·exact (hS7 _ hz2).out
  clear hKK KK
  try simp only [Act.put, lj]
  refine wR 10 rfl (fun KK hKK => ?_)
  go_simp
  refine (H8.out z2 hz2 p2 c2 HP2.out).mono ?_
  rintro e z3 ⟨rfl, hz23⟩
  have hz3 : Chg F wc z3 := hz2.trans (hz23.mono (fun _ _ x => x.elim)) (fun _ _ x => x) (fun _ _ x => x)
  refine hKK.out _ _ ?_ (fun hHeld => ?_)
  ·exact (hS7 _ hz3).out
  clear hKK KK
  try simp only [Act.put, lj]
  refine wT (v := ?_) 11 rfl (by rfl) ?_ hHeld ?_
  rotate_left
  ·intro w hSw
   try dsimp only at hSw
   go_simp
   try with_reducible rfl
  try simp only [Act.put, lj]
  refine wpAnyH_done (by kernel_rfl) ?_ _
  go_simp
  clear hHeld
  have HX3 : Hid (Chg F wc z2 ∧ Chg (fun _ => False) z2 z3 ∧ Chg F wc z3) := ⟨hz2, hz23, hz3⟩
  clear hz2 hz23 hz3 H7 H8
  obtain ⟨N, hN⟩ : ∃ N, N = T.l.length := ⟨_, rfl⟩
  have HNN := keepH hN
  have hN2 : N ≤ 8796093022000 := by have := HZ.out.2.2.2.2.2.2; omega
  have HOV : Hid (N = 0 ∨ ∃ bk, p = some ⟨bk, 0, none⟩ ∧ Over z3 bk N z3) := by
   rcases over_of (HOP.out z3 HX3.out.2.2) with e | ⟨bk, e, _, ho⟩
   ·exact .inl (by rw [HNN.out, e]; rfl)
   ·exact .inr ⟨bk, e, by rw [HNN.out]; exact ho⟩
  have H5 : Hid (∀ w, Chg (fun i => p = some ⟨i, 0, none⟩) z3 w → w.cell? ⟨gT, 5, none⟩ = some (.slice p N c)) := fun w cw => by
   have h := (HX3.out.2.2.block gT (lt_of HZ.out.1) HGT.out).trans HZ.out.1
   rw [HNN.out]
   exact cell_of ((cw.block gT (lt_of h) (fun e => (HBK.out gT e).2.2.1 rfl)).trans h) 5
  have HOO : Hid (∀ w, Chg (fun i => p = some ⟨i, 0, none⟩) z3 w → w.cell? ⟨Bx, 1, none⟩ = some (.int .u8 kd) ∧ w.cell? ⟨Bx, 2, none⟩ = some (.int .u64 k) ∧ w.cell? ⟨Bx, 3, none⟩ = some (.int .u64 v) ∧ w.cell? ⟨Bx, 4, none⟩ = some (.int .u64 od) ∧ w.cell? ⟨Bx, 5, none⟩ = some (.int .u64 hk) ∧ w.cell? ⟨Bx, 6, none⟩ = some (.bool r5) ∧ w.cell? ⟨Bx, 7, none⟩ = some (.int .i64 r6) ∧ w.cell? ⟨Bx, 8, none⟩ = some (.int .i64 r7) ∧ w.cell? ⟨Bx, 9, none⟩ = some (.slice kp ks.length kc) ∧ w.cell? ⟨Bx, 10, none⟩ = some (.int .u64 lo) ∧ w.cell? ⟨Bx, 11, none⟩ = some (.int .u64 hi)) := fun w cw => by
   have h := ((HX3.out.2.2.block Bx (Nat.lt_of_lt_of_le (lt_of HBOX2.out) HZ.out.2.2.2.2.1.size) HFF.out.2.2.2.2).trans (HZ.out.2.2.2.2.1.block Bx (lt_of HBOX2.out) HFF.out.2.2.2.2)).trans HBOX2.out
   have h9 := (cw.block Bx (lt_of h) (fun e => by have := (HBK.out Bx e).2.1; have := lt_of HBOX2.out; omega)).trans h
   exact ⟨cell_of h9 1, cell_of h9 2, cell_of h9 3, cell_of h9 4, cell_of h9 5, cell_of h9 6, cell_of h9 7, cell_of h9 8, cell_of h9 9, cell_of h9 10, cell_of h9 11⟩
  clear hN hS7 Cc Cd
  go_wp2_with fail
  go_loopw [9] (fun s9 wr => ∃ i : Nat, i ≤ N ∧ s9 = .int .i64 i ∧ Hid (Chg (fun i => p = some ⟨i, 0, none⟩) z3 wr ∧ ∀ bk, p = some ⟨bk, 0, none⟩ → 0 < N → Over z3 bk N wr)) (fun s9 _ => N - (intOf s9).toNat)
  case atStart => exact ⟨0, by omega, rfl, keepH ⟨Chg.refl _ _, fun bk e h0 => by
   rcases HOV.out with e0 | ⟨bk', e', ho⟩
   ·omega
   ·rw [e] at e'
    injection e' with e'
    injection e' with e'
    rw [e']; exact ho⟩⟩
  case round =>
   obtain ⟨i, hile, rfl, HK⟩ := hrel
   have d5 := H5.out wr HK.out.1
   by_cases hlt : i < N
   ·have t1 : (i : Int) < (N : Int) := by omega
    have t0 : (0 : Int) ≤ (i : Int) := by omega
    obtain ⟨bk, rfl, -⟩ : ∃ bk, p = some ⟨bk, 0, none⟩ ∧ True := by
     rcases HOV.out with e0 | ⟨bk, e, _⟩
     ·omega
     ·exact ⟨bk, e, trivial⟩
    have hov := HK.out.2 bk rfl (by omega)
    obtain ⟨u0, v0, k0, k1, j0, j1⟩ := hov.cells hlt
    have HOVP := keepH hov
    clear hov
    go_wp2_with fail
    go_roundw
    case rel => exact ⟨i + 1, by omega, by first | rfl | go_num, keepH ⟨(HK.out.1.setCell (p := ⟨bk, i * 2, none⟩) (fun _ => rfl) _).setCell (p := ⟨bk, i * 2 + 1, none⟩) (fun _ => rfl) _, fun bk' e h0 => by
     injection e with e
     injection e with e
     rw [← e]
     exact HOVP.out.put _ _ _ _⟩⟩
    case measure => simp [intOf]; omega
   ·obtain rfl : i = N := by omega
    have t1 : ¬ (i : Int) < (i : Int) := by omega
    obtain ⟨o0, o1, o2, o3, o4, o5, o6, o7, o8, o9, o10⟩ := HOO.out wr HK.out.1
    have H4 : Hid (Calls Tryz.prog 30 #[.slice (some ⟨g, 0, none⟩) 1 10, .slice (some ⟨wr.heap.size, 0, none⟩) 1 1] (wr.alloc (.cells #[.int .u8 kd, .int .u64 k, .int .u64 v, .int .u64 od, .int .u64 hk, .bool r5, .int .i64 r6, .int .i64 r7, .slice kp ks.length kc, .int .u64 lo, .int .u64 hi] 35)) fun e w' => e = .returned (.bool true) ∧ Chg (fun _ => False) wr w') := by
     have cF : Chg (fun i => F i ∨ p = some ⟨i, 0, none⟩) w2 (wr.alloc (.cells #[.int .u8 kd, .int .u64 k, .int .u64 v, .int .u64 od, .int .u64 hk, .bool r5, .int .i64 r6, .int .i64 r7, .slice kp ks.length kc, .int .u64 lo, .int .u64 hi] 35)) := ((HZ.out.2.2.2.2.1.trans HX3.out.2.2 (fun _ _ x => x) (fun _ _ x => x)).mono (fun _ _ x => .inl x)).trans (HK.out.1.alloc _) (fun _ _ x => x) (fun _ _ x => .inr x)
     have c0F : Chg (fun i => F i ∨ p = some ⟨i, 0, none⟩) W (wr.alloc (.cells #[.int .u8 kd, .int .u64 k, .int .u64 v, .int .u64 od, .int .u64 hk, .bool r5, .int .i64 r6, .int .i64 r7, .slice kp ks.length kc, .int .u64 lo, .int .u64 hi] 35)) := (HC2.out.mono (fun _ _ x => x.elim)).trans cF (fun _ _ x => x) (fun _ _ x => x)
     have ng : ¬ (F g ∨ p = some ⟨g, 0, none⟩) := fun x => x.elim HGF.out.1 (fun e => by have := (HBK.out g e).2.1; have := HGL.out; omega)
     have ngk : ¬ (F gk ∨ p = some ⟨gk, 0, none⟩) := fun x => x.elim HGF.out.2 (fun e => by have := (HBK.out gk e).2.1; have := HGK.out.2; omega)
     have nk : KeysAt (wr.alloc (.cells #[.int .u8 kd, .int .u64 k, .int .u64 v, .int .u64 od, .int .u64 hk, .bool r5, .int .i64 r6, .int .i64 r7, .slice kp ks.length kc, .int .u64 lo, .int .u64 hi] 35)) kp ks := by
      rcases HFF.out.2.2.1 with z0 | hk0
      ·exact .inl z0
      rcases HIN0.out.1 with z | ⟨bk', off', z, z2, z3⟩
      ·exact .inl z
      ·refine KeysAt.chg HIN0.out.1 c0F (fun bk off e x => ?_)
       rw [e] at z
       injection z with z
       injection z with z
       rcases x with x | x
       ·exact hk0 bk off e x
       ·have h1 := (HBK.out bk x).1
        omega
     refine (kept_op (kp := kp) (kc := kc) HWF.out.1 HWF.out.2 (fun j u hj => cell_chg cF (HGC.out j u hj) ng) (fun j u hj => (cell_of (heap_alloc_new wr (.cells #[.int .u8 kd, .int .u64 k, .int .u64 v, .int .u64 od, .int .u64 hk, .bool r5, .int .i64 r6, .int .i64 r7, .slice kp ks.length kc, .int .u64 lo, .int .u64 hi] 35)) j).trans (by simpa using hj)) (fun j hj => cell_chg cF (HGM.out j hj) ng) (HGK.out.1.chg cF ngk) (Nat.lt_of_lt_of_le HGK.out.2 cF.size) nk HBN.out.1).mono ?_
     rintro e w' ⟨rfl, c⟩
     exact ⟨rfl, chgF ((Chg.refl _ wr).alloc _) c⟩
    clear HD HPQ HPS
    go_wp2_with fail
    refine H4.out.mono ?_
    rintro e z4 ⟨rfl, hz4⟩
    have HE : Hid (Chg (fun i => p = some ⟨i, 0, none⟩) z2 z4) := ((HX3.out.2.1.mono (fun _ _ x => x.elim)).trans HK.out.1 (fun _ _ x => x) (fun _ _ x => x)).trans (hz4.mono (fun _ _ x => x.elim)) (fun _ _ x => x) (fun _ _ x => x)
    clear hz4
    go_wp2_with fail
    go_ret
    have c02 : Chg F W z2 := (HC2.out.mono (fun _ _ x => x.elim)).trans (HZ.out.2.2.2.2.1.trans HX3.out.1 (fun _ _ x => x) (fun _ _ x => x)) (fun _ _ x => x) (fun _ _ x => x)
    refine ⟨by simp, ⟨fun i => p = some ⟨i, 0, none⟩, z2, HQ2.out, HE.out, fun i e => ⟨(HBK.out i e).1, ?_⟩⟩, c02.trans HE.out (fun _ _ x => x) (fun k hk e => by have := (HBK.out k e).1; omega)⟩
    have h1 := HOP.out z2 HX3.out.1
    rw [e] at h1
    rcases h1.1.2 with ⟨q, _⟩ | ⟨g9, cap, cur, q, _, hg, _⟩
    ·cases q
    ·injection q with q
     injection q with q
     injection q with q
     exact ⟨cur, by rw [q]; exact hg⟩
end Go.Proofs.YtahgaghokpicgaaGreat
