/- A call of both models: Take. -/
import Derived.Test.YtahgaghokpicgaaGreatF31D8h
namespace Go.Proofs.YtahgaghokpicgaaGreat
open Go.RowKit Go.Maps
set_option linter.unusedVariables false
set_option maxHeartbeats 16000000
set_option linter.unusedSimpArgs false
set_option maxRecDepth 100000 in
theorem call_take {F : Nat → Prop} {kd r6 r7 er : Int} {k v od hk lo hi va ah co hn : Nat} {r5 fo dn : Bool} {ks : List Nat} {l : List (Nat × Nat)} {kp lp : Option Addr} {kc lc : Nat} (w6 : (Lit.int .i64 r6).wf = true) (w7 : (Lit.int .i64 r7).wf = true) {W : World} (hK : KeysAt W kp ks) (hn1 : ks.length ≤ 17592186043904) (hL : PairsAt W lp l) (hn2 : l.length ≤ 8796093021952) {b m r : Nat} (hb : BothAt W b m r)
    (hF : ∀ i, F i → i < W.heap.size) (hbF : ¬ F b) (hkF : ks = [] ∨ ∀ bk off, kp = some ⟨bk, off, none⟩ → ¬ F bk) (hlF : l = [] ∨ ∀ bk off, lp = some ⟨bk, off, none⟩ → ¬ F bk)
    {R : Bool} {P : World → World → Prop} {Q : World → Prop}
    (hT : ∀ w gk gl, Chg (fun _ => False) W w → KeysAt w (some ⟨gk, 0, none⟩) ks → PairsAt w (some ⟨gl, 0, none⟩) l → Calls Tryz.prog 13 #[.pointer (some ⟨m, 0, none⟩), .agg #[.int .u8 kd, .int .u64 k, .int .u64 v, .int .u64 od, .int .u64 hk, .bool r5, .int .i64 r6, .int .i64 r7, .slice (some ⟨gk, 0, none⟩) ks.length (ks.length + 9), .int .u64 lo, .int .u64 hi], .agg #[.int .i64 er, .bool fo, .int .u64 va, .bool dn, .int .u64 ah, .slice (some ⟨gl, 0, none⟩) l.length (l.length + 9), .int .u64 co]] w fun e w' => e = .returned (.bool R) ∧ P w w' ∧ Chg F w w')
    (hD : ∀ w w', Chg (fun _ => False) W w → Chg F w w' → P w w' → Calls Tryz.prog 14 #[.pointer (some ⟨r, 0, none⟩), .agg #[.int .u8 kd, .int .u64 k, .int .u64 v, .int .u64 od, .int .u64 hk, .bool r5, .int .i64 r6, .int .i64 r7, .slice kp ks.length kc, .int .u64 lo, .int .u64 hi], .agg #[.int .i64 er, .bool fo, .int .u64 va, .bool dn, .int .u64 ah, .slice lp l.length lc, .int .u64 co]] w' fun e w'' => e = .returned (.bool R) ∧ Q w'' ∧ Chg F w' w'') :
    Calls Tryz.prog 7 #[.pointer (some ⟨b, 0, none⟩), .agg #[.bool true, .int .u8 kd, .int .u64 k, .int .u64 v, .int .u64 od, .int .u64 hk, .bool r5, .int .i64 r6, .int .i64 r7, .slice kp ks.length kc, .int .u64 lo, .int .u64 hi, .int .i64 er, .bool fo, .int .u64 va, .bool dn, .int .u64 ah, .slice lp l.length lc, .int .u64 co, .int .u64 hn]] W fun e W' => e = .returned (.bool true) ∧ (∃ w2, Q w2 ∧ Chg (fun _ => False) w2 W') ∧ Chg F W W' := by
 obtain ⟨w0, hw0⟩ : ∃ w0, w0 = W.alloc (.cells #[.bool true, .int .u8 kd, .int .u64 k, .int .u64 v, .int .u64 od, .int .u64 hk, .bool r5, .int .i64 r6, .int .i64 r7, .slice kp ks.length kc, .int .u64 lo, .int .u64 hi, .int .i64 er, .bool fo, .int .u64 va, .bool dn, .int .u64 ah, .slice lp l.length lc, .int .u64 co, .int .u64 hn] 41) := ⟨_, rfl⟩
 have C0 : Chg (fun _ => False) W w0 := by rw [hw0]; exact (Chg.refl _ _).alloc _
 have S0 : w0.heap.size = W.heap.size + 1 := by rw [hw0]; simp
 have hbox : w0.heap[W.heap.size]? = some (.cells #[.bool true, .int .u8 kd, .int .u64 k, .int .u64 v, .int .u64 od, .int .u64 hk, .bool r5, .int .i64 r6, .int .i64 r7, .slice kp ks.length kc, .int .u64 lo, .int .u64 hi, .int .i64 er, .bool fo, .int .u64 va, .bool dn, .int .u64 ah, .slice lp l.length lc, .int .u64 co, .int .u64 hn] 41 (0, 0)) := by rw [hw0]; exact heap_alloc_new _ _
 obtain ⟨Bx, hBx⟩ : ∃ x, x = W.heap.size := ⟨_, rfl⟩
 rw [← hBx] at hbox
 obtain ⟨wI, hwI⟩ : ∃ wI, wI = w0.alloc (.cells #[.int .u8 kd, .int .u64 k, .int .u64 v, .int .u64 od, .int .u64 hk, .bool r5, .int .i64 r6, .int .i64 r7, .slice kp ks.length kc, .int .u64 lo, .int .u64 hi] 35) := ⟨_, rfl⟩
 have CI : Chg (fun _ => False) w0 wI := by rw [hwI]; exact (Chg.refl _ _).alloc _
 have hin : wI.heap[w0.heap.size]? = some (.cells #[.int .u8 kd, .int .u64 k, .int .u64 v, .int .u64 od, .int .u64 hk, .bool r5, .int .i64 r6, .int .i64 r7, .slice kp ks.length kc, .int .u64 lo, .int .u64 hi] 35 (0, 0)) := by rw [hwI]; exact heap_alloc_new _ _
 have HCI : Hid (Chg (fun _ => False) W wI) := chgF C0 CI
 have HO := keepH (hand_op hin (hK.chg HCI.out (fun _ _ _ x => x)) hn1)
 have HBOX := keepH ((CI.block _ (lt_of hbox) (fun x => x)).trans hbox)
 have HWI := keepH hwI
 have HIN0 : Hid (KeysAt W kp ks ∧ PairsAt W lp l ∧ BothAt W b m r) := ⟨hK, hL, hb⟩
 have HFF : Hid ((∀ i, F i → i < W.heap.size) ∧ ¬ F b ∧ (ks = [] ∨ ∀ bk off, kp = some ⟨bk, off, none⟩ → ¬ F bk) ∧ (l = [] ∨ ∀ bk off, lp = some ⟨bk, off, none⟩ → ¬ F bk) ∧ ¬ F Bx) := ⟨hF, hbF, hkF, hlF, fun x => by have := hF _ x; omega⟩
 have HBN : Hid (ks.length ≤ 17592186043904 ∧ l.length ≤ 8796093021952) := ⟨hn1, hn2⟩
 have HWF : Hid ((Lit.int .i64 r6).wf = true ∧ (Lit.int .i64 r7).wf = true) := ⟨w6, w7⟩
 have HT := keepH hT
 have HD := keepH hD
 clear hT hD
 have p0 : w0.cell? ⟨Bx, 0, none⟩ = some (.bool true) := cell_of hbox 0
 have p1 : w0.cell? ⟨Bx, 1, none⟩ = some (.int .u8 kd) := cell_of hbox 1
 have p2 : w0.cell? ⟨Bx, 2, none⟩ = some (.int .u64 k) := cell_of hbox 2
 have p3 : w0.cell? ⟨Bx, 3, none⟩ = some (.int .u64 v) := cell_of hbox 3
 have p4 : w0.cell? ⟨Bx, 4, none⟩ = some (.int .u64 od) := cell_of hbox 4
 have p5 : w0.cell? ⟨Bx, 5, none⟩ = some (.int .u64 hk) := cell_of hbox 5
 have p6 : w0.cell? ⟨Bx, 6, none⟩ = some (.bool r5) := cell_of hbox 6
 have p7 : w0.cell? ⟨Bx, 7, none⟩ = some (.int .i64 r6) := cell_of hbox 7
 have p8 : w0.cell? ⟨Bx, 8, none⟩ = some (.int .i64 r7) := cell_of hbox 8
 have p9 : w0.cell? ⟨Bx, 9, none⟩ = some (.slice kp ks.length kc) := cell_of hbox 9
 have p10 : w0.cell? ⟨Bx, 10, none⟩ = some (.int .u64 lo) := cell_of hbox 10
 have p11 : w0.cell? ⟨Bx, 11, none⟩ = some (.int .u64 hi) := cell_of hbox 11
 have p12 : w0.cell? ⟨Bx, 12, none⟩ = some (.int .i64 er) := cell_of hbox 12
 have p13 : w0.cell? ⟨Bx, 13, none⟩ = some (.bool fo) := cell_of hbox 13
 have p14 : w0.cell? ⟨Bx, 14, none⟩ = some (.int .u64 va) := cell_of hbox 14
 have p15 : w0.cell? ⟨Bx, 15, none⟩ = some (.bool dn) := cell_of hbox 15
 have p16 : w0.cell? ⟨Bx, 16, none⟩ = some (.int .u64 ah) := cell_of hbox 16
 have p17 : w0.cell? ⟨Bx, 17, none⟩ = some (.slice lp l.length lc) := cell_of hbox 17
 have p18 : w0.cell? ⟨Bx, 18, none⟩ = some (.int .u64 co) := cell_of hbox 18
 have p19 : w0.cell? ⟨Bx, 19, none⟩ = some (.int .u64 hn) := cell_of hbox 19
 have HBX := keepH hBx
 have HS0 := keepH S0
 clear C0 CI hbox hin hwI hK hL hb w6 w7 hF hbF hkF hlF hn1 hn2 S0
 go_enter Tryz.func7, Tryz.ntmps7
 go_upto_region 1 with fail
 rw [← hw0]
 rw [← hBx]
 clear hw0 hBx
 go_wp2_with fail
 rw [← HWI.out]
 refine HO.out.mono ?_
 rintro e w2 ⟨rfl, gk, xs, hH⟩
 obtain ⟨g, hg⟩ : ∃ g, g = wI.heap.size := ⟨_, rfl⟩
 rw [← hg] at hH ⊢
 have HH := keepH hH
 have HC2 : Hid (Chg (fun _ => False) W w2) := chgF HCI.out hH.chg
 have HBOX2 := keepH ((hH.chg.block _ (lt_of HBOX.out) (fun x => x)).trans HBOX.out)
 have HGC : Hid (∀ (j : Nat) (u : Value), ([.int .u8 kd, .int .u64 k, .int .u64 v, .int .u64 od, .int .u64 hk, .bool r5, .int .i64 r6, .int .i64 r7, .slice (some ⟨gk, 0, none⟩) ks.length (ks.length + 9), .int .u64 lo, .int .u64 hi] : List Value)[j]? = some u → w2.cell? ⟨g, j, none⟩ = some u) := fun j u hj => by
  have hl := (List.getElem?_eq_some_iff.1 hj).1
  rw [hH.row.cell j (by simp at hl; omega)]
  exact hH.cs j u hj
 have HGM : Hid (∀ j, j < 9 → w2.cell? ⟨g, (1 + j) * 11 + 1, none⟩ = some (.int .u64 (2305843009213693952 + (j : Int)))) := fun j hj => by
  rw [hH.row.cell _ (by omega)]
  exact hH.mks j hj
 have HGK : Hid (Handed w2 gk ks.length (fun j => ks.getD j 0) ∧ gk < w2.heap.size) := ⟨hH.hd, hH.ge.2.2⟩
 have HGF : Hid (¬ F g ∧ ¬ F gk) := ⟨fun x => by have := HFF.out.1 _ x; have := HCI.out.size; omega, fun x => by have := HFF.out.1 _ x; have := HCI.out.size; have := hH.ge; omega⟩
 clear hH hg HH HWI HO p0 p1 p2 p3 p4 p5 p6 p7 p8 p9 p10 p11 p12 p13 p14 p15 p16 p17 p18 p19
 have p0 : w2.cell? ⟨Bx, 0, none⟩ = some (.bool true) := cell_of HBOX2.out 0
 have p1 : w2.cell? ⟨Bx, 1, none⟩ = some (.int .u8 kd) := cell_of HBOX2.out 1
 have p2 : w2.cell? ⟨Bx, 2, none⟩ = some (.int .u64 k) := cell_of HBOX2.out 2
 have p3 : w2.cell? ⟨Bx, 3, none⟩ = some (.int .u64 v) := cell_of HBOX2.out 3
 have p4 : w2.cell? ⟨Bx, 4, none⟩ = some (.int .u64 od) := cell_of HBOX2.out 4
 have p5 : w2.cell? ⟨Bx, 5, none⟩ = some (.int .u64 hk) := cell_of HBOX2.out 5
 have p6 : w2.cell? ⟨Bx, 6, none⟩ = some (.bool r5) := cell_of HBOX2.out 6
 have p7 : w2.cell? ⟨Bx, 7, none⟩ = some (.int .i64 r6) := cell_of HBOX2.out 7
 have p8 : w2.cell? ⟨Bx, 8, none⟩ = some (.int .i64 r7) := cell_of HBOX2.out 8
 have p9 : w2.cell? ⟨Bx, 9, none⟩ = some (.slice kp ks.length kc) := cell_of HBOX2.out 9
 have p10 : w2.cell? ⟨Bx, 10, none⟩ = some (.int .u64 lo) := cell_of HBOX2.out 10
 have p11 : w2.cell? ⟨Bx, 11, none⟩ = some (.int .u64 hi) := cell_of HBOX2.out 11
 have p12 : w2.cell? ⟨Bx, 12, none⟩ = some (.int .i64 er) := cell_of HBOX2.out 12
 have p13 : w2.cell? ⟨Bx, 13, none⟩ = some (.bool fo) := cell_of HBOX2.out 13
 have p14 : w2.cell? ⟨Bx, 14, none⟩ = some (.int .u64 va) := cell_of HBOX2.out 14
 have p15 : w2.cell? ⟨Bx, 15, none⟩ = some (.bool dn) := cell_of HBOX2.out 15
 have p16 : w2.cell? ⟨Bx, 16, none⟩ = some (.int .u64 ah) := cell_of HBOX2.out 16
 have p17 : w2.cell? ⟨Bx, 17, none⟩ = some (.slice lp l.length lc) := cell_of HBOX2.out 17
 have p18 : w2.cell? ⟨Bx, 18, none⟩ = some (.int .u64 co) := cell_of HBOX2.out 18
 have p19 : w2.cell? ⟨Bx, 19, none⟩ = some (.int .u64 hn) := cell_of HBOX2.out 19
 obtain ⟨wJ, hwJ⟩ : ∃ wJ, wJ = w2.alloc (.cells #[.int .i64 er, .bool fo, .int .u64 va, .bool dn, .int .u64 ah, .slice lp l.length lc, .int .u64 co] 39) := ⟨_, rfl⟩
 have CJ : Chg (fun _ => False) w2 wJ := by rw [hwJ]; exact (Chg.refl _ _).alloc _
 have hinJ : wJ.heap[w2.heap.size]? = some (.cells #[.int .i64 er, .bool fo, .int .u64 va, .bool dn, .int .u64 ah, .slice lp l.length lc, .int .u64 co] 39 (0, 0)) := by rw [hwJ]; exact heap_alloc_new _ _
 have HA := keepH (hand_ans hinJ (HIN0.out.2.1.chg (chgF HC2.out CJ)) HBN.out.2)
 have HCJ := keepH CJ
 have HWJ := keepH hwJ
 clear CJ hinJ hwJ
 go_wp2_with fail
 rw [← HWJ.out]
 refine HA.out.mono ?_
 rintro e w3 ⟨rfl, gl, ys, hA⟩
 obtain ⟨ga, hga⟩ : ∃ ga, ga = wJ.heap.size := ⟨_, rfl⟩
 rw [← hga] at hA ⊢
 have HC23 : Hid (Chg (fun _ => False) w2 w3) := chgF HCJ.out hA.chg
 have HAC : Hid (∀ (j : Nat) (u : Value), ([.int .i64 er, .bool fo, .int .u64 va, .bool dn, .int .u64 ah, .slice (some ⟨gl, 0, none⟩) l.length (l.length + 9), .int .u64 co] : List Value)[j]? = some u → w3.cell? ⟨ga, j, none⟩ = some u) := fun j u hj => by
  have hl := (List.getElem?_eq_some_iff.1 hj).1
  rw [hA.row.cell j (by simp at hl; omega)]
  exact hA.cs j u hj
 have HAM : Hid (∀ j, j < 9 → w3.cell? ⟨ga, (1 + j) * 7 + 2, none⟩ = some (.int .u64 (2305843009213693952 + (j : Int)))) := fun j hj => by
  rw [hA.row.cell _ (by omega)]
  exact hA.mks j hj
 have HAL : Hid (HandedP w3 gl l ∧ gl < w3.heap.size) := ⟨hA.hd, hA.ge.2.2⟩
 have HAF : Hid (¬ F ga ∧ ¬ F gl) := ⟨fun x => by have := HFF.out.1 _ x; have := HC2.out.size; have := HCJ.out.size; omega, fun x => by have := HFF.out.1 _ x; have := HC2.out.size; have := HCJ.out.size; have := hA.ge; omega⟩
 clear hA hga HA HWJ HCJ p0 p1 p2 p3 p4 p5 p6 p7 p8 p9 p10 p11 p12 p13 p14 p15 p16 p17 p18 p19
 have hS : ∀ w', Chg F w3 w' → Hid (w'.cell? ⟨b, 0, none⟩ = some (.pointer (some ⟨m, 0, none⟩)) ∧ w'.cell? ⟨b, 1, none⟩ = some (.pointer (some ⟨r, 0, none⟩)) ∧ w'.cell? ⟨g, 0, none⟩ = some (.int .u8 kd) ∧ w'.cell? ⟨g, 1, none⟩ = some (.int .u64 k) ∧ w'.cell? ⟨g, 2, none⟩ = some (.int .u64 v) ∧ w'.cell? ⟨g, 3, none⟩ = some (.int .u64 od) ∧ w'.cell? ⟨g, 4, none⟩ = some (.int .u64 hk) ∧ w'.cell? ⟨g, 5, none⟩ = some (.bool r5) ∧ w'.cell? ⟨g, 6, none⟩ = some (.int .i64 r6) ∧ w'.cell? ⟨g, 7, none⟩ = some (.int .i64 r7) ∧ w'.cell? ⟨g, 8, none⟩ = some (.slice (some ⟨gk, 0, none⟩) ks.length (ks.length + 9)) ∧ w'.cell? ⟨g, 9, none⟩ = some (.int .u64 lo) ∧ w'.cell? ⟨g, 10, none⟩ = some (.int .u64 hi) ∧ w'.cell? ⟨ga, 0, none⟩ = some (.int .i64 er) ∧ w'.cell? ⟨ga, 1, none⟩ = some (.bool fo) ∧ w'.cell? ⟨ga, 2, none⟩ = some (.int .u64 va) ∧ w'.cell? ⟨ga, 3, none⟩ = some (.bool dn) ∧ w'.cell? ⟨ga, 4, none⟩ = some (.int .u64 ah) ∧ w'.cell? ⟨ga, 5, none⟩ = some (.slice (some ⟨gl, 0, none⟩) l.length (l.length + 9)) ∧ w'.cell? ⟨ga, 6, none⟩ = some (.int .u64 co) ∧ w'.cell? ⟨Bx, 1, none⟩ = some (.int .u8 kd) ∧ w'.cell? ⟨Bx, 2, none⟩ = some (.int .u64 k) ∧ w'.cell? ⟨Bx, 3, none⟩ = some (.int .u64 v) ∧ w'.cell? ⟨Bx, 4, none⟩ = some (.int .u64 od) ∧ w'.cell? ⟨Bx, 5, none⟩ = some (.int .u64 hk) ∧ w'.cell? ⟨Bx, 6, none⟩ = some (.bool r5) ∧ w'.cell? ⟨Bx, 7, none⟩ = some (.int .i64 r6) ∧ w'.cell? ⟨Bx, 8, none⟩ = some (.int .i64 r7) ∧ w'.cell? ⟨Bx, 9, none⟩ = some (.slice kp ks.length kc) ∧ w'.cell? ⟨Bx, 10, none⟩ = some (.int .u64 lo) ∧ w'.cell? ⟨Bx, 11, none⟩ = some (.int .u64 hi) ∧ w'.cell? ⟨Bx, 12, none⟩ = some (.int .i64 er) ∧ w'.cell? ⟨Bx, 13, none⟩ = some (.bool fo) ∧ w'.cell? ⟨Bx, 14, none⟩ = some (.int .u64 va) ∧ w'.cell? ⟨Bx, 15, none⟩ = some (.bool dn) ∧ w'.cell? ⟨Bx, 16, none⟩ = some (.int .u64 ah) ∧ w'.cell? ⟨Bx, 17, none⟩ = some (.slice lp l.length lc) ∧ w'.cell? ⟨Bx, 18, none⟩ = some (.int .u64 co)) := fun w' cw => by
  have c23 : Chg F w2 w' := (HC23.out.mono (fun _ _ x => x.elim)).trans cw (fun _ _ x => x) (fun _ _ x => x)
  have c03 : Chg F W w' := (HC2.out.mono (fun _ _ x => x.elim)).trans c23 (fun _ _ x => x) (fun _ _ x => x)
  exact ⟨cell_of ((c03.block _ (lt_of HIN0.out.2.2) HFF.out.2.1).trans HIN0.out.2.2) 0, cell_of ((c03.block _ (lt_of HIN0.out.2.2) HFF.out.2.1).trans HIN0.out.2.2) 1, cell_chg c23 (HGC.out 0 _ rfl) HGF.out.1, cell_chg c23 (HGC.out 1 _ rfl) HGF.out.1, cell_chg c23 (HGC.out 2 _ rfl) HGF.out.1, cell_chg c23 (HGC.out 3 _ rfl) HGF.out.1, cell_chg c23 (HGC.out 4 _ rfl) HGF.out.1, cell_chg c23 (HGC.out 5 _ rfl) HGF.out.1, cell_chg c23 (HGC.out 6 _ rfl) HGF.out.1, cell_chg c23 (HGC.out 7 _ rfl) HGF.out.1, cell_chg c23 (HGC.out 8 _ rfl) HGF.out.1, cell_chg c23 (HGC.out 9 _ rfl) HGF.out.1, cell_chg c23 (HGC.out 10 _ rfl) HGF.out.1, cell_chg cw (HAC.out 0 _ rfl) HAF.out.1, cell_chg cw (HAC.out 1 _ rfl) HAF.out.1, cell_chg cw (HAC.out 2 _ rfl) HAF.out.1, cell_chg cw (HAC.out 3 _ rfl) HAF.out.1, cell_chg cw (HAC.out 4 _ rfl) HAF.out.1, cell_chg cw (HAC.out 5 _ rfl) HAF.out.1, cell_chg cw (HAC.out 6 _ rfl) HAF.out.1, cell_of ((c23.block _ (lt_of HBOX2.out) HFF.out.2.2.2.2).trans HBOX2.out) 1, cell_of ((c23.block _ (lt_of HBOX2.out) HFF.out.2.2.2.2).trans HBOX2.out) 2, cell_of ((c23.block _ (lt_of HBOX2.out) HFF.out.2.2.2.2).trans HBOX2.out) 3, cell_of ((c23.block _ (lt_of HBOX2.out) HFF.out.2.2.2.2).trans HBOX2.out) 4, cell_of ((c23.block _ (lt_of HBOX2.out) HFF.out.2.2.2.2).trans HBOX2.out) 5, cell_of ((c23.block _ (lt_of HBOX2.out) HFF.out.2.2.2.2).trans HBOX2.out) 6, cell_of ((c23.block _ (lt_of HBOX2.out) HFF.out.2.2.2.2).trans HBOX2.out) 7, cell_of ((c23.block _ (lt_of HBOX2.out) HFF.out.2.2.2.2).trans HBOX2.out) 8, cell_of ((c23.block _ (lt_of HBOX2.out) HFF.out.2.2.2.2).trans HBOX2.out) 9, cell_of ((c23.block _ (lt_of HBOX2.out) HFF.out.2.2.2.2).trans HBOX2.out) 10, cell_of ((c23.block _ (lt_of HBOX2.out) HFF.out.2.2.2.2).trans HBOX2.out) 11, cell_of ((c23.block _ (lt_of HBOX2.out) HFF.out.2.2.2.2).trans HBOX2.out) 12, cell_of ((c23.block _ (lt_of HBOX2.out) HFF.out.2.2.2.2).trans HBOX2.out) 13, cell_of ((c23.block _ (lt_of HBOX2.out) HFF.out.2.2.2.2).trans HBOX2.out) 14, cell_of ((c23.block _ (lt_of HBOX2.out) HFF.out.2.2.2.2).trans HBOX2.out) 15, cell_of ((c23.block _ (lt_of HBOX2.out) HFF.out.2.2.2.2).trans HBOX2.out) 16, cell_of ((c23.block _ (lt_of HBOX2.out) HFF.out.2.2.2.2).trans HBOX2.out) 17, cell_of ((c23.block _ (lt_of HBOX2.out) HFF.out.2.2.2.2).trans HBOX2.out) 18⟩
 have C3 : Chg (fun _ => False) w3 w3 := Chg.refl _ _
 have HC03 : Hid (Chg (fun _ => False) W w3) := chgF HC2.out HC23.out
 have H1 : Hid (Calls Tryz.prog 13 #[.pointer (some ⟨m, 0, none⟩), .agg #[.int .u8 kd, .int .u64 k, .int .u64 v, .int .u64 od, .int .u64 hk, .bool r5, .int .i64 r6, .int .i64 r7, .slice (some ⟨gk, 0, none⟩) ks.length (ks.length + 9), .int .u64 lo, .int .u64 hi], .agg #[.int .i64 er, .bool fo, .int .u64 va, .bool dn, .int .u64 ah, .slice (some ⟨gl, 0, none⟩) l.length (l.length + 9), .int .u64 co]] w3.drew fun e w' => e = .returned (.bool R) ∧ P w3.drew w' ∧ Chg F w3 w') :=
  (HT.out w3.drew gk gl (chgF HC03.out C3.drew) ((HGK.out.1.chg (chgF HC23.out C3.drew) (fun x => x)).keys (Nat.lt_of_lt_of_le HGK.out.2 (chgF HC23.out C3.drew).size) HIN0.out.1.small) ((HAL.out.1.chg C3.drew (fun x => x)).pairs (Nat.lt_of_lt_of_le HAL.out.2 C3.drew.size) HIN0.out.2.1.small)).mono (by rintro e w' ⟨rfl, p, c⟩; exact ⟨rfl, p, (C3.drew.mono (fun _ _ x => x.elim)).trans c (fun _ _ x => x) (fun _ _ x => x)⟩)
 have H2 : Hid (∀ w', P w3.drew w' → Chg F w3 w' → Calls Tryz.prog 14 #[.pointer (some ⟨r, 0, none⟩), .agg #[.int .u8 kd, .int .u64 k, .int .u64 v, .int .u64 od, .int .u64 hk, .bool r5, .int .i64 r6, .int .i64 r7, .slice kp ks.length kc, .int .u64 lo, .int .u64 hi], .agg #[.int .i64 er, .bool fo, .int .u64 va, .bool dn, .int .u64 ah, .slice lp l.length lc, .int .u64 co]] w' fun e w'' => e = .returned (.bool R) ∧ Q w'' ∧ Chg F w' w'') := fun w' p c => HD.out w3.drew w' (chgF HC03.out C3.drew) ⟨c.os, c.tape, c.output, c.size, c.block⟩ p
 have H3 : Hid (∀ w, Chg F w3 w → Calls Tryz.prog 28 #[.slice (some ⟨ga, 0, none⟩) 1 10, .slice (some ⟨w.heap.size, 0, none⟩) 1 1] (w.alloc (.cells #[.int .i64 er, .bool fo, .int .u64 va, .bool dn, .int .u64 ah, .slice lp l.length lc, .int .u64 co] 39)) fun e w' => e = .returned (.bool true) ∧ Chg (fun _ => False) w w') := fun w cw => by
  have cq := cw.alloc (.cells #[.int .i64 er, .bool fo, .int .u64 va, .bool dn, .int .u64 ah, .slice lp l.length lc, .int .u64 co] 39)
  have c0q : Chg F W (w.alloc (.cells #[.int .i64 er, .bool fo, .int .u64 va, .bool dn, .int .u64 ah, .slice lp l.length lc, .int .u64 co] 39)) := (HC03.out.mono (fun _ _ x => x.elim)).trans cq (fun _ _ x => x) (fun _ _ x => x)
  refine (kept_ans (kp := lp) (kc := lc) (fun j u hj => cell_chg cq (HAC.out j u hj) HAF.out.1) (fun j u hj => (cell_of (heap_alloc_new w (.cells #[.int .i64 er, .bool fo, .int .u64 va, .bool dn, .int .u64 ah, .slice lp l.length lc, .int .u64 co] 39)) j).trans (by simpa using hj)) (fun j hj => cell_chg cq (HAM.out j hj) HAF.out.1) (HAL.out.1.chg cq HAF.out.2) (Nat.lt_of_lt_of_le HAL.out.2 cq.size) (HIN0.out.2.1.chgE c0q HFF.out.2.2.2.1) HBN.out.2).mono ?_
  rintro e w' ⟨rfl, c⟩
  exact ⟨rfl, chgF ((Chg.refl _ w).alloc _) c⟩
 have H4 : Hid (∀ w, Chg F w3 w → Calls Tryz.prog 30 #[.slice (some ⟨g, 0, none⟩) 1 10, .slice (some ⟨w.heap.size, 0, none⟩) 1 1] (w.alloc (.cells #[.int .u8 kd, .int .u64 k, .int .u64 v, .int .u64 od, .int .u64 hk, .bool r5, .int .i64 r6, .int .i64 r7, .slice kp ks.length kc, .int .u64 lo, .int .u64 hi] 35)) fun e w' => e = .returned (.bool true) ∧ Chg (fun _ => False) w w') := fun w cw => by
  have cq := cw.alloc (.cells #[.int .u8 kd, .int .u64 k, .int .u64 v, .int .u64 od, .int .u64 hk, .bool r5, .int .i64 r6, .int .i64 r7, .slice kp ks.length kc, .int .u64 lo, .int .u64 hi] 35)
  have cr : Chg F w2 (w.alloc (.cells #[.int .u8 kd, .int .u64 k, .int .u64 v, .int .u64 od, .int .u64 hk, .bool r5, .int .i64 r6, .int .i64 r7, .slice kp ks.length kc, .int .u64 lo, .int .u64 hi] 35)) := (HC23.out.mono (fun _ _ x => x.elim)).trans cq (fun _ _ x => x) (fun _ _ x => x)
  have c0q : Chg F W (w.alloc (.cells #[.int .u8 kd, .int .u64 k, .int .u64 v, .int .u64 od, .int .u64 hk, .bool r5, .int .i64 r6, .int .i64 r7, .slice kp ks.length kc, .int .u64 lo, .int .u64 hi] 35)) := (HC2.out.mono (fun _ _ x => x.elim)).trans cr (fun _ _ x => x) (fun _ _ x => x)
  refine (kept_op (kp := kp) (kc := kc) HWF.out.1 HWF.out.2 (fun j u hj => cell_chg cr (HGC.out j u hj) HGF.out.1) (fun j u hj => (cell_of (heap_alloc_new w (.cells #[.int .u8 kd, .int .u64 k, .int .u64 v, .int .u64 od, .int .u64 hk, .bool r5, .int .i64 r6, .int .i64 r7, .slice kp ks.length kc, .int .u64 lo, .int .u64 hi] 35)) j).trans (by simpa using hj)) (fun j hj => cell_chg cr (HGM.out j hj) HGF.out.1) (HGK.out.1.chg cr HGF.out.2) (Nat.lt_of_lt_of_le HGK.out.2 cr.size) (HIN0.out.1.chgE c0q HFF.out.2.2.1) HBN.out.1).mono ?_
  rintro e w' ⟨rfl, c⟩
  exact ⟨rfl, chgF ((Chg.refl _ w).alloc _) c⟩
 clear HT HD
 have C3d : Chg F w3 w3.drew := C3.drew.mono (fun _ _ x => x.elim)
 go_upto_region 5 with fail
 refine wp_region_held_drew (S := fun w' => w'.cell? ⟨b, 0, none⟩ = some (.pointer (some ⟨m, 0, none⟩)) ∧ w'.cell? ⟨b, 1, none⟩ = some (.pointer (some ⟨r, 0, none⟩)) ∧ w'.cell? ⟨g, 0, none⟩ = some (.int .u8 kd) ∧ w'.cell? ⟨g, 1, none⟩ = some (.int .u64 k) ∧ w'.cell? ⟨g, 2, none⟩ = some (.int .u64 v) ∧ w'.cell? ⟨g, 3, none⟩ = some (.int .u64 od) ∧ w'.cell? ⟨g, 4, none⟩ = some (.int .u64 hk) ∧ w'.cell? ⟨g, 5, none⟩ = some (.bool r5) ∧ w'.cell? ⟨g, 6, none⟩ = some (.int .i64 r6) ∧ w'.cell? ⟨g, 7, none⟩ = some (.int .i64 r7) ∧ w'.cell? ⟨g, 8, none⟩ = some (.slice (some ⟨gk, 0, none⟩) ks.length (ks.length + 9)) ∧ w'.cell? ⟨g, 9, none⟩ = some (.int .u64 lo) ∧ w'.cell? ⟨g, 10, none⟩ = some (.int .u64 hi) ∧ w'.cell? ⟨ga, 0, none⟩ = some (.int .i64 er) ∧ w'.cell? ⟨ga, 1, none⟩ = some (.bool fo) ∧ w'.cell? ⟨ga, 2, none⟩ = some (.int .u64 va) ∧ w'.cell? ⟨ga, 3, none⟩ = some (.bool dn) ∧ w'.cell? ⟨ga, 4, none⟩ = some (.int .u64 ah) ∧ w'.cell? ⟨ga, 5, none⟩ = some (.slice (some ⟨gl, 0, none⟩) l.length (l.length + 9)) ∧ w'.cell? ⟨ga, 6, none⟩ = some (.int .u64 co) ∧ w'.cell? ⟨Bx, 1, none⟩ = some (.int .u8 kd) ∧ w'.cell? ⟨Bx, 2, none⟩ = some (.int .u64 k) ∧ w'.cell? ⟨Bx, 3, none⟩ = some (.int .u64 v) ∧ w'.cell? ⟨Bx, 4, none⟩ = some (.int .u64 od) ∧ w'.cell? ⟨Bx, 5, none⟩ = some (.int .u64 hk) ∧ w'.cell? ⟨Bx, 6, none⟩ = some (.bool r5) ∧ w'.cell? ⟨Bx, 7, none⟩ = some (.int .i64 r6) ∧ w'.cell? ⟨Bx, 8, none⟩ = some (.int .i64 r7) ∧ w'.cell? ⟨Bx, 9, none⟩ = some (.slice kp ks.length kc) ∧ w'.cell? ⟨Bx, 10, none⟩ = some (.int .u64 lo) ∧ w'.cell? ⟨Bx, 11, none⟩ = some (.int .u64 hi) ∧ w'.cell? ⟨Bx, 12, none⟩ = some (.int .i64 er) ∧ w'.cell? ⟨Bx, 13, none⟩ = some (.bool fo) ∧ w'.cell? ⟨Bx, 14, none⟩ = some (.int .u64 va) ∧ w'.cell? ⟨Bx, 15, none⟩ = some (.bool dn) ∧ w'.cell? ⟨Bx, 16, none⟩ = some (.int .u64 ah) ∧ w'.cell? ⟨Bx, 17, none⟩ = some (.slice lp l.length lc) ∧ w'.cell? ⟨Bx, 18, none⟩ = some (.int .u64 co)) (by kernel_rfl) ((hS _ C3d).out) ?_
 intro hHeld
 refine wT (v := ?_) 0 rfl (by rfl) ?_ hHeld ?_
 rotate_left
 ·intro w hSw
  try dsimp only at hSw
  go_simp
  try with_reducible rfl
 try simp only [Act.put, lj]
 refine wT (v := ?_) 1 rfl (by rfl) ?_ hHeld ?_
 rotate_left
 ·intro w hSw
  try dsimp only at hSw
  go_simp
  try with_reducible rfl
 try simp only [Act.put, lj]
 refine wT (v := ?_) 2 rfl (by rfl) ?_ hHeld ?_
 rotate_left
 ·intro w hSw
  try dsimp only at hSw
  go_simp
  try with_reducible rfl
 try simp only [Act.put, lj]
 refine wT (v := ?_) 3 rfl (by rfl) ?_ hHeld ?_
 rotate_left
 ·intro w hSw
  try dsimp only at hSw
  obtain ⟨y0, y1, y2, y3, y4, y5, y6, y7, y8, y9, y10, y11, y12, y13, y14, y15, y16, y17, y18, y19, y20, y21, y22, y23, y24, y25, y26, y27, y28, y29, y30, y31, y32, y33, y34, y35, y36, y37⟩ := hSw
  go_simp
  try with_reducible rfl
 try simp only [Act.put, lj]
 refine wT (v := ?_) 4 rfl (by rfl) ?_ hHeld ?_
 rotate_left
 ·intro w hSw
  try dsimp only at hSw
  go_simp
  try with_reducible rfl
 try simp only [Act.put, lj]
 refine wT (v := ?_) 5 rfl (by rfl) ?_ hHeld ?_
 rotate_left
 ·intro w hSw
  try dsimp only at hSw
  go_simp
  try with_reducible rfl
 try simp only [Act.put, lj]
 refine wT (v := ?_) 6 rfl (by rfl) ?_ hHeld ?_
 rotate_left
 ·intro w hSw
  try dsimp only at hSw
  obtain ⟨y0, y1, y2, y3, y4, y5, y6, y7, y8, y9, y10, y11, y12, y13, y14, y15, y16, y17, y18, y19, y20, y21, y22, y23, y24, y25, y26, y27, y28, y29, y30, y31, y32, y33, y34, y35, y36, y37⟩ := hSw
  go_simp
  try with_reducible rfl
 try simp only [Act.put, lj]
 refine wT (v := ?_) 7 rfl (by rfl) ?_ hHeld ?_
 rotate_left
 ·intro w hSw
  try dsimp only at hSw
  go_simp
  try with_reducible rfl
 try simp only [Act.put, lj]
 refine wT (v := ?_) 8 rfl (by rfl) ?_ hHeld ?_
 rotate_left
 ·intro w hSw
  try dsimp only at hSw
  go_simp
  try with_reducible rfl
 try simp only [Act.put, lj]
 refine wT (v := ?_) 9 rfl (by rfl) ?_ hHeld ?_
 rotate_left
 ·intro w hSw
  try dsimp only at hSw
  obtain ⟨y0, y1, y2, y3, y4, y5, y6, y7, y8, y9, y10, y11, y12, y13, y14, y15, y16, y17, y18, y19, y20, y21, y22, y23, y24, y25, y26, y27, y28, y29, y30, y31, y32, y33, y34, y35, y36, y37⟩ := hSw
  go_simp
  try with_reducible rfl
 try simp only [Act.put, lj]
 refine wT (v := ?_) 11 rfl (by rfl) ?_ hHeld ?_
 rotate_left
 ·intro w hSw
  try dsimp only at hSw
  go_simp
  try with_reducible rfl
 try simp only [Act.put, lj]
 refine wT (v := ?_) 12 rfl (by rfl) ?_ hHeld ?_
 rotate_left
 ·intro w hSw
  try dsimp only at hSw
  go_simp
  try with_reducible rfl
 try simp only [Act.put, lj]
 refine wT (v := ?_) 13 rfl (by rfl) ?_ hHeld ?_
 rotate_left
 ·intro w hSw
  try dsimp only at hSw
  go_simp
  try with_reducible rfl
 try simp only [Act.put, lj]
 refine wT (v := ?_) 14 rfl (by rfl) ?_ hHeld ?_
 rotate_left
 ·intro w hSw
  try dsimp only at hSw
  obtain ⟨y0, y1, y2, y3, y4, y5, y6, y7, y8, y9, y10, y11, y12, y13, y14, y15, y16, y17, y18, y19, y20, y21, y22, y23, y24, y25, y26, y27, y28, y29, y30, y31, y32, y33, y34, y35, y36, y37⟩ := hSw
  go_simp
  try with_reducible rfl
 try simp only [Act.put, lj]
 refine wT (v := ?_) 15 rfl (by rfl) ?_ hHeld ?_
 rotate_left
 ·intro w hSw
  try dsimp only at hSw
  go_simp
  try with_reducible rfl
 try simp only [Act.put, lj]
 refine wT (v := ?_) 16 rfl (by rfl) ?_ hHeld ?_
 rotate_left
 ·intro w hSw
  try dsimp only at hSw
  obtain ⟨y0, y1, y2, y3, y4, y5, y6, y7, y8, y9, y10, y11, y12, y13, y14, y15, y16, y17, y18, y19, y20, y21, y22, y23, y24, y25, y26, y27, y28, y29, y30, y31, y32, y33, y34, y35, y36, y37⟩ := hSw
  go_simp
  try with_reducible rfl
 try simp only [Act.put, lj]
 refine wT (v := ?_) 17 rfl (by rfl) ?_ hHeld ?_
 rotate_left
 ·intro w hSw
  try dsimp only at hSw
  go_simp
  try with_reducible rfl
 try simp only [Act.put, lj]
 refine wT (v := ?_) 18 rfl (by rfl) ?_ hHeld ?_
 rotate_left
 ·intro w hSw
  try dsimp only at hSw
  obtain ⟨y0, y1, y2, y3, y4, y5, y6, y7, y8, y9, y10, y11, y12, y13, y14, y15, y16, y17, y18, y19, y20, y21, y22, y23, y24, y25, y26, y27, y28, y29, y30, y31, y32, y33, y34, y35, y36, y37⟩ := hSw
  go_simp
  try with_reducible rfl
 try simp only [Act.put, lj]
 refine wR 10 rfl (fun KK hKK => ?_)
 go_simp
 refine (H1.out).mono ?_
 rintro e z1 ⟨rfl, hP1, hz1⟩
 have HP1 := keepH hP1
 clear hP1
 refine hKK.out _ _ ?_ (fun hHeld => ?_)
 ·exact (hS _ hz1).out
 clear hKK KK
 try simp only [Act.put, lj]
 refine wR 19 rfl (fun KK hKK => ?_)
 go_simp
 refine (H2.out z1 HP1.out hz1).mono ?_
 rintro e z2 ⟨rfl, hQ2, hz12⟩
 have HQ2 := keepH hQ2
 have hz2 : Chg F w3 z2 := hz1.trans hz12 (fun _ _ x => x) (fun _ _ x => x)
 clear hQ2 hz12
 refine hKK.out _ _ ?_ (fun hHeld => ?_)
 ·exact (hS _ hz2).out
 clear hKK KK
 try simp only [Act.put, lj]
 refine wT (v := ?_) 20 rfl (by rfl) ?_ hHeld ?_
 rotate_left
 ·intro w hSw
  try dsimp only at hSw
  go_simp
  try with_reducible rfl
 try simp only [Act.put, lj]
 refine wT (v := ?_) 21 rfl (by rfl) ?_ hHeld ?_
 rotate_left
 ·intro w hSw
  try dsimp only at hSw
  go_simp
  try with_reducible rfl
 try simp only [Act.put, lj]
 refine wT (v := ?_) 22 rfl (by rfl) ?_ hHeld ?_
 rotate_left
 ·intro w hSw
  try dsimp only at hSw
  go_simp
  try with_reducible rfl
 try simp only [Act.put, lj]
 refine wT (v := ?_) 23 rfl (by rfl) ?_ hHeld ?_
 rotate_left
 ·intro w hSw
  try dsimp only at hSw
  go_simp
  try with_reducible rfl
 try simp only [Act.put, lj]
 refine wT (v := ?_) 24 rfl (by rfl) ?_ hHeld ?_
 rotate_left
 ·intro w hSw
  try dsimp only at hSw
  obtain ⟨y0, y1, y2, y3, y4, y5, y6, y7, y8, y9, y10, y11, y12, y13, y14, y15, y16, y17, y18, y19, y20, y21, y22, y23, y24, y25, y26, y27, y28, y29, y30, y31, y32, y33, y34, y35, y36, y37⟩ := hSw
  go_simp
  try with_reducible rfl
 try simp only [Act.put, lj]
 refine wR 25 rfl (fun KK hKK => ?_)
 go_simp
 try go_wp2_with fail
 refine hKK.out _ _ ?_ (fun hHeld => ?_)
 ·exact (hS _ (hz2.alloc _)).out
 clear hKK KK
 try simp only [Act.put, lj]
 refine wR 26 rfl (fun KK hKK => ?_)
 go_simp
 refine (H3.out z2 hz2).mono ?_
 rintro e z3 ⟨rfl, hz23⟩
 have hz3 : Chg F w3 z3 := hz2.trans (hz23.mono (fun _ _ x => x.elim)) (fun _ _ x => x) (fun _ _ x => x)
 refine hKK.out _ _ ?_ (fun hHeld => ?_)
 ·exact (hS _ hz3).out
 clear hKK KK
 try simp only [Act.put, lj]
 refine wT (v := ?_) 27 rfl (by rfl) ?_ hHeld ?_
 rotate_left
 ·intro w hSw
  try dsimp only at hSw
  go_simp
  try with_reducible rfl
 try simp only [Act.put, lj]
 refine wT (v := ?_) 28 rfl (by rfl) ?_ hHeld ?_
 rotate_left
 ·intro w hSw
  try dsimp only at hSw
  go_simp
  try with_reducible rfl
 try simp only [Act.put, lj]
 refine wpAnyH_done (by kernel_rfl) ?_ _
 go_simp
 clear hHeld
 have o0 : z3.cell? ⟨Bx, 1, none⟩ = some (.int .u8 kd) := by obtain ⟨y0, y1, y2, y3, y4, y5, y6, y7, y8, y9, y10, y11, y12, y13, y14, y15, y16, y17, y18, y19, y20, y21, y22, y23, y24, y25, y26, y27, y28, y29, y30, y31, y32, y33, y34, y35, y36, y37⟩ := (hS z3 hz3).out; exact y20
 have o1 : z3.cell? ⟨Bx, 2, none⟩ = some (.int .u64 k) := by obtain ⟨y0, y1, y2, y3, y4, y5, y6, y7, y8, y9, y10, y11, y12, y13, y14, y15, y16, y17, y18, y19, y20, y21, y22, y23, y24, y25, y26, y27, y28, y29, y30, y31, y32, y33, y34, y35, y36, y37⟩ := (hS z3 hz3).out; exact y21
 have o2 : z3.cell? ⟨Bx, 3, none⟩ = some (.int .u64 v) := by obtain ⟨y0, y1, y2, y3, y4, y5, y6, y7, y8, y9, y10, y11, y12, y13, y14, y15, y16, y17, y18, y19, y20, y21, y22, y23, y24, y25, y26, y27, y28, y29, y30, y31, y32, y33, y34, y35, y36, y37⟩ := (hS z3 hz3).out; exact y22
 have o3 : z3.cell? ⟨Bx, 4, none⟩ = some (.int .u64 od) := by obtain ⟨y0, y1, y2, y3, y4, y5, y6, y7, y8, y9, y10, y11, y12, y13, y14, y15, y16, y17, y18, y19, y20, y21, y22, y23, y24, y25, y26, y27, y28, y29, y30, y31, y32, y33, y34, y35, y36, y37⟩ := (hS z3 hz3).out; exact y23
 have o4 : z3.cell? ⟨Bx, 5, none⟩ = some (.int .u64 hk) := by obtain ⟨y0, y1, y2, y3, y4, y5, y6, y7, y8, y9, y10, y11, y12, y13, y14, y15, y16, y17, y18, y19, y20, y21, y22, y23, y24, y25, y26, y27, y28, y29, y30, y31, y32, y33, y34, y35, y36, y37⟩ := (hS z3 hz3).out; exact y24
 have o5 : z3.cell? ⟨Bx, 6, none⟩ = some (.bool r5) := by obtain ⟨y0, y1, y2, y3, y4, y5, y6, y7, y8, y9, y10, y11, y12, y13, y14, y15, y16, y17, y18, y19, y20, y21, y22, y23, y24, y25, y26, y27, y28, y29, y30, y31, y32, y33, y34, y35, y36, y37⟩ := (hS z3 hz3).out; exact y25
 have o6 : z3.cell? ⟨Bx, 7, none⟩ = some (.int .i64 r6) := by obtain ⟨y0, y1, y2, y3, y4, y5, y6, y7, y8, y9, y10, y11, y12, y13, y14, y15, y16, y17, y18, y19, y20, y21, y22, y23, y24, y25, y26, y27, y28, y29, y30, y31, y32, y33, y34, y35, y36, y37⟩ := (hS z3 hz3).out; exact y26
 have o7 : z3.cell? ⟨Bx, 8, none⟩ = some (.int .i64 r7) := by obtain ⟨y0, y1, y2, y3, y4, y5, y6, y7, y8, y9, y10, y11, y12, y13, y14, y15, y16, y17, y18, y19, y20, y21, y22, y23, y24, y25, y26, y27, y28, y29, y30, y31, y32, y33, y34, y35, y36, y37⟩ := (hS z3 hz3).out; exact y27
 have o8 : z3.cell? ⟨Bx, 9, none⟩ = some (.slice kp ks.length kc) := by obtain ⟨y0, y1, y2, y3, y4, y5, y6, y7, y8, y9, y10, y11, y12, y13, y14, y15, y16, y17, y18, y19, y20, y21, y22, y23, y24, y25, y26, y27, y28, y29, y30, y31, y32, y33, y34, y35, y36, y37⟩ := (hS z3 hz3).out; exact y28
 have o9 : z3.cell? ⟨Bx, 10, none⟩ = some (.int .u64 lo) := by obtain ⟨y0, y1, y2, y3, y4, y5, y6, y7, y8, y9, y10, y11, y12, y13, y14, y15, y16, y17, y18, y19, y20, y21, y22, y23, y24, y25, y26, y27, y28, y29, y30, y31, y32, y33, y34, y35, y36, y37⟩ := (hS z3 hz3).out; exact y29
 have o10 : z3.cell? ⟨Bx, 11, none⟩ = some (.int .u64 hi) := by obtain ⟨y0, y1, y2, y3, y4, y5, y6, y7, y8, y9, y10, y11, y12, y13, y14, y15, y16, y17, y18, y19, y20, y21, y22, y23, y24, y25, y26, y27, y28, y29, y30, y31, y32, y33, y34, y35, y36, y37⟩ := (hS z3 hz3).out; exact y30
 have HX3 : Hid (Chg F w3 z3 ∧ Chg (fun _ => False) z2 z3) := ⟨hz3, hz23⟩
 clear hz1 hz2 hz3 hz23
 go_wp2_with fail
 refine (H4.out z3 HX3.out.1).mono ?_
 rintro e z4 ⟨rfl, hz4⟩
 have HX4 : Hid (Chg F W z4 ∧ Chg (fun _ => False) z2 z4) := ⟨(HC03.out.mono (fun _ _ x => x.elim)).trans (HX3.out.1.trans (hz4.mono (fun _ _ x => x.elim)) (fun _ _ x => x) (fun _ _ x => x)) (fun _ _ x => x) (fun _ _ x => x), chgF HX3.out.2 hz4⟩
 clear hz4
 go_wp2_with fail
 go_ret
 exact ⟨by simp, ⟨z2, HQ2.out, HX4.out.2⟩, HX4.out.1⟩
end Go.Proofs.YtahgaghokpicgaaGreat
