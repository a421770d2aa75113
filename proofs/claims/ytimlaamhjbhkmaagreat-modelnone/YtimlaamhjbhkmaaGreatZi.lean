/- A call on both nil models. -/
import Derived.Test.YtimlaamhjbhkmaaGreatZh
namespace Go.Proofs.YtimlaamhjbhkmaaGreat
open Go.RowKit
set_option linter.unusedVariables false

set_option maxRecDepth 100000 in
set_option maxHeartbeats 8000000 in
theorem call_take {kd r6 r7 er : Int} {k v od hk lo hi va ah co hn : Nat} {r5 fo dn : Bool} {ks : List Nat} {l : List (Nat × Nat)} {kp lp : Option Addr} {kc lc : Nat} (w6 : (Lit.int .i64 r6).wf = true) (w7 : (Lit.int .i64 r7).wf = true) {W : World} (hK : KeysAt W kp ks) (hn1 : ks.length ≤ 17592186043904) (hL : PairsAt W lp l) (hn2 : l.length ≤ 8796093021952) {b : Nat} (hb : IsB W b) :
    Calls Tryz.prog 5 #[.pointer (some ⟨b, 0, none⟩), .agg #[.bool true, .int .u8 kd, .int .u64 (k : Int), .int .u64 (v : Int), .int .u64 (od : Int), .int .u64 (hk : Int), .bool r5, .int .i64 r6, .int .i64 r7, .slice kp ks.length kc, .int .u64 (lo : Int), .int .u64 (hi : Int), .int .i64 er, .bool fo, .int .u64 (va : Int), .bool dn, .int .u64 (ah : Int), .slice lp l.length lc, .int .u64 (co : Int), .int .u64 (hn : Int)]] W fun e W' => e = .returned (.bool true) ∧ Chg (fun _ => False) W W' := by
  obtain ⟨w0, hw0⟩ : ∃ w0, w0 = W.alloc (.cells #[.bool true, .int .u8 kd, .int .u64 (k : Int), .int .u64 (v : Int), .int .u64 (od : Int), .int .u64 (hk : Int), .bool r5, .int .i64 r6, .int .i64 r7, .slice kp ks.length kc, .int .u64 (lo : Int), .int .u64 (hi : Int), .int .i64 er, .bool fo, .int .u64 (va : Int), .bool dn, .int .u64 (ah : Int), .slice lp l.length lc, .int .u64 (co : Int), .int .u64 (hn : Int)] 42) := ⟨_, rfl⟩
  have C0 : Chg (fun _ => False) W w0 := by rw [hw0]; exact (Chg.refl _ _).alloc _
  have hbox : w0.heap[W.heap.size]? = some (.cells #[.bool true, .int .u8 kd, .int .u64 (k : Int), .int .u64 (v : Int), .int .u64 (od : Int), .int .u64 (hk : Int), .bool r5, .int .i64 r6, .int .i64 r7, .slice kp ks.length kc, .int .u64 (lo : Int), .int .u64 (hi : Int), .int .i64 er, .bool fo, .int .u64 (va : Int), .bool dn, .int .u64 (ah : Int), .slice lp l.length lc, .int .u64 (co : Int), .int .u64 (hn : Int)] 42 (0, 0)) := by rw [hw0]; exact heap_alloc_new _ _
  obtain ⟨wI, hwI⟩ : ∃ wI, wI = w0.alloc (.cells #[.int .u8 kd, .int .u64 (k : Int), .int .u64 (v : Int), .int .u64 (od : Int), .int .u64 (hk : Int), .bool r5, .int .i64 r6, .int .i64 r7, .slice kp ks.length kc, .int .u64 (lo : Int), .int .u64 (hi : Int)] 36) := ⟨_, rfl⟩
  have CI : Chg (fun _ => False) w0 wI := by rw [hwI]; exact (Chg.refl _ _).alloc _
  have hin : wI.heap[w0.heap.size]? = some (.cells #[.int .u8 kd, .int .u64 (k : Int), .int .u64 (v : Int), .int .u64 (od : Int), .int .u64 (hk : Int), .bool r5, .int .i64 r6, .int .i64 r7, .slice kp ks.length kc, .int .u64 (lo : Int), .int .u64 (hi : Int)] 36 (0, 0)) := by rw [hwI]; exact heap_alloc_new _ _
  have HCI : Hid (Chg (fun _ => False) W wI) := ch2 C0 CI
  have HO := keepH (hand_op hin (hK.chg HCI.out (fun _ _ _ x => x)) hn1)
  have HBOX := keepH ((CI.block _ (lt_of hbox) (fun x => x)).trans hbox)
  have HWI := keepH hwI
  have HIN0 : Hid (KeysAt W kp ks ∧ PairsAt W lp l ∧ IsB W b) := ⟨hK, hL, hb⟩
  have HWF : Hid ((Lit.int .i64 r6).wf = true ∧ (Lit.int .i64 r7).wf = true) := ⟨w6, w7⟩
  have p0 : w0.cell? ⟨W.heap.size, 0, none⟩ = some (.bool true) := cell_of hbox 0
  have p1 : w0.cell? ⟨W.heap.size, 1, none⟩ = some (.int .u8 kd) := cell_of hbox 1
  have p2 : w0.cell? ⟨W.heap.size, 2, none⟩ = some (.int .u64 (k : Int)) := cell_of hbox 2
  have p3 : w0.cell? ⟨W.heap.size, 3, none⟩ = some (.int .u64 (v : Int)) := cell_of hbox 3
  have p4 : w0.cell? ⟨W.heap.size, 4, none⟩ = some (.int .u64 (od : Int)) := cell_of hbox 4
  have p5 : w0.cell? ⟨W.heap.size, 5, none⟩ = some (.int .u64 (hk : Int)) := cell_of hbox 5
  have p6 : w0.cell? ⟨W.heap.size, 6, none⟩ = some (.bool r5) := cell_of hbox 6
  have p7 : w0.cell? ⟨W.heap.size, 7, none⟩ = some (.int .i64 r6) := cell_of hbox 7
  have p8 : w0.cell? ⟨W.heap.size, 8, none⟩ = some (.int .i64 r7) := cell_of hbox 8
  have p9 : w0.cell? ⟨W.heap.size, 9, none⟩ = some (.slice kp ks.length kc) := cell_of hbox 9
  have p10 : w0.cell? ⟨W.heap.size, 10, none⟩ = some (.int .u64 (lo : Int)) := cell_of hbox 10
  have p11 : w0.cell? ⟨W.heap.size, 11, none⟩ = some (.int .u64 (hi : Int)) := cell_of hbox 11
  have p12 : w0.cell? ⟨W.heap.size, 12, none⟩ = some (.int .i64 er) := cell_of hbox 12
  have p13 : w0.cell? ⟨W.heap.size, 13, none⟩ = some (.bool fo) := cell_of hbox 13
  have p14 : w0.cell? ⟨W.heap.size, 14, none⟩ = some (.int .u64 (va : Int)) := cell_of hbox 14
  have p15 : w0.cell? ⟨W.heap.size, 15, none⟩ = some (.bool dn) := cell_of hbox 15
  have p16 : w0.cell? ⟨W.heap.size, 16, none⟩ = some (.int .u64 (ah : Int)) := cell_of hbox 16
  have p17 : w0.cell? ⟨W.heap.size, 17, none⟩ = some (.slice lp l.length lc) := cell_of hbox 17
  have p18 : w0.cell? ⟨W.heap.size, 18, none⟩ = some (.int .u64 (co : Int)) := cell_of hbox 18
  have p19 : w0.cell? ⟨W.heap.size, 19, none⟩ = some (.int .u64 (hn : Int)) := cell_of hbox 19
  clear C0 CI hbox hin hwI hK hL hb w6 w7
  go_enter Tryz.func5, Tryz.ntmps5
  go_upto_region 1 with fail
  rw [← hw0]
  clear hw0
  go_wp2_with fail
  rw [← HWI.out]
  refine HO.out.mono ?_
  rintro e w2 ⟨rfl, gk, xs, hH⟩
  obtain ⟨g, hg⟩ : ∃ g, g = wI.heap.size := ⟨_, rfl⟩
  rw [← hg] at hH ⊢
  have HH := keepH hH
  have HC2 : Hid (Chg (fun _ => False) W w2) := ch2 HCI.out hH.chg
  have HBOX2 := keepH ((hH.chg.block _ (lt_of HBOX.out) (fun x => x)).trans HBOX.out)
  have HGC : Hid (∀ (j : Nat) (u : Value), ([.int .u8 kd, .int .u64 (k : Int), .int .u64 (v : Int), .int .u64 (od : Int), .int .u64 (hk : Int), .bool r5, .int .i64 r6, .int .i64 r7, .slice (some ⟨gk, 0, none⟩) ks.length (ks.length + 9), .int .u64 (lo : Int), .int .u64 (hi : Int)] : List Value)[j]? = some u → w2.cell? ⟨g, j, none⟩ = some u) := fun j u hj => by
    have hl := (List.getElem?_eq_some_iff.1 hj).1
    rw [hH.row.cell j (by simp at hl; omega)]
    exact hH.cs j u hj
  have HGM : Hid (∀ j, j < 9 → w2.cell? ⟨g, (1 + j) * 11 + 1, none⟩ = some (.int .u64 (2305843009213693952 + (j : Int)))) := fun j hj => by
    rw [hH.row.cell _ (by omega)]
    exact hH.mks j hj
  have HGK : Hid (Handed w2 gk ks.length (fun j => ks.getD j 0) ∧ gk < w2.heap.size) := ⟨hH.hd, hH.ge.2.2⟩
  clear hH hg HH HWI HO p0 p1 p2 p3 p4 p5 p6 p7 p8 p9 p10 p11 p12 p13 p14 p15 p16 p17 p18 p19
  have p0 : w2.cell? ⟨W.heap.size, 0, none⟩ = some (.bool true) := cell_of HBOX2.out 0
  have p1 : w2.cell? ⟨W.heap.size, 1, none⟩ = some (.int .u8 kd) := cell_of HBOX2.out 1
  have p2 : w2.cell? ⟨W.heap.size, 2, none⟩ = some (.int .u64 (k : Int)) := cell_of HBOX2.out 2
  have p3 : w2.cell? ⟨W.heap.size, 3, none⟩ = some (.int .u64 (v : Int)) := cell_of HBOX2.out 3
  have p4 : w2.cell? ⟨W.heap.size, 4, none⟩ = some (.int .u64 (od : Int)) := cell_of HBOX2.out 4
  have p5 : w2.cell? ⟨W.heap.size, 5, none⟩ = some (.int .u64 (hk : Int)) := cell_of HBOX2.out 5
  have p6 : w2.cell? ⟨W.heap.size, 6, none⟩ = some (.bool r5) := cell_of HBOX2.out 6
  have p7 : w2.cell? ⟨W.heap.size, 7, none⟩ = some (.int .i64 r6) := cell_of HBOX2.out 7
  have p8 : w2.cell? ⟨W.heap.size, 8, none⟩ = some (.int .i64 r7) := cell_of HBOX2.out 8
  have p9 : w2.cell? ⟨W.heap.size, 9, none⟩ = some (.slice kp ks.length kc) := cell_of HBOX2.out 9
  have p10 : w2.cell? ⟨W.heap.size, 10, none⟩ = some (.int .u64 (lo : Int)) := cell_of HBOX2.out 10
  have p11 : w2.cell? ⟨W.heap.size, 11, none⟩ = some (.int .u64 (hi : Int)) := cell_of HBOX2.out 11
  have p12 : w2.cell? ⟨W.heap.size, 12, none⟩ = some (.int .i64 er) := cell_of HBOX2.out 12
  have p13 : w2.cell? ⟨W.heap.size, 13, none⟩ = some (.bool fo) := cell_of HBOX2.out 13
  have p14 : w2.cell? ⟨W.heap.size, 14, none⟩ = some (.int .u64 (va : Int)) := cell_of HBOX2.out 14
  have p15 : w2.cell? ⟨W.heap.size, 15, none⟩ = some (.bool dn) := cell_of HBOX2.out 15
  have p16 : w2.cell? ⟨W.heap.size, 16, none⟩ = some (.int .u64 (ah : Int)) := cell_of HBOX2.out 16
  have p17 : w2.cell? ⟨W.heap.size, 17, none⟩ = some (.slice lp l.length lc) := cell_of HBOX2.out 17
  have p18 : w2.cell? ⟨W.heap.size, 18, none⟩ = some (.int .u64 (co : Int)) := cell_of HBOX2.out 18
  have p19 : w2.cell? ⟨W.heap.size, 19, none⟩ = some (.int .u64 (hn : Int)) := cell_of HBOX2.out 19
  obtain ⟨wJ, hwJ⟩ : ∃ wJ, wJ = w2.alloc (.cells #[.int .i64 er, .bool fo, .int .u64 (va : Int), .bool dn, .int .u64 (ah : Int), .slice lp l.length lc, .int .u64 (co : Int)] 40) := ⟨_, rfl⟩
  have CJ : Chg (fun _ => False) w2 wJ := by rw [hwJ]; exact (Chg.refl _ _).alloc _
  have hinJ : wJ.heap[w2.heap.size]? = some (.cells #[.int .i64 er, .bool fo, .int .u64 (va : Int), .bool dn, .int .u64 (ah : Int), .slice lp l.length lc, .int .u64 (co : Int)] 40 (0, 0)) := by rw [hwJ]; exact heap_alloc_new _ _
  have HA := keepH (hand_ans hinJ (HIN0.out.2.1.chg (ch2 HC2.out CJ)) hn2)
  have HCJ := keepH CJ
  have HWJ := keepH hwJ
  clear CJ hinJ hwJ
  go_wp2_with fail
  rw [← HWJ.out]
  refine HA.out.mono ?_
  rintro e w3 ⟨rfl, gl, ys, hA⟩
  obtain ⟨ga, hga⟩ : ∃ ga, ga = wJ.heap.size := ⟨_, rfl⟩
  rw [← hga] at hA ⊢
  have HC23 : Hid (Chg (fun _ => False) w2 w3) := ch2 HCJ.out hA.chg
  have HAC : Hid (∀ (j : Nat) (u : Value), ([.int .i64 er, .bool fo, .int .u64 (va : Int), .bool dn, .int .u64 (ah : Int), .slice (some ⟨gl, 0, none⟩) l.length (l.length + 9), .int .u64 (co : Int)] : List Value)[j]? = some u → w3.cell? ⟨ga, j, none⟩ = some u) := fun j u hj => by
    have hl := (List.getElem?_eq_some_iff.1 hj).1
    rw [hA.row.cell j (by simp at hl; omega)]
    exact hA.cs j u hj
  have HAM : Hid (∀ j, j < 9 → w3.cell? ⟨ga, (1 + j) * 7 + 2, none⟩ = some (.int .u64 (2305843009213693952 + (j : Int)))) := fun j hj => by
    rw [hA.row.cell _ (by omega)]
    exact hA.mks j hj
  have HAL : Hid (HandedP w3 gl l ∧ gl < w3.heap.size) := ⟨hA.hd, hA.ge.2.2⟩
  clear hA hga HA HWJ HCJ p0 p1 p2 p3 p4 p5 p6 p7 p8 p9 p10 p11 p12 p13 p14 p15 p16 p17 p18 p19
  have hS : ∀ w', Chg (fun _ => False) w3 w' → Hid (w'.cell? ⟨b, 0, none⟩ = some (.pointer none) ∧ w'.cell? ⟨b, 1, none⟩ = some (.pointer none) ∧ w'.cell? ⟨g, 0, none⟩ = some (.int .u8 kd) ∧ w'.cell? ⟨g, 1, none⟩ = some (.int .u64 (k : Int)) ∧ w'.cell? ⟨g, 2, none⟩ = some (.int .u64 (v : Int)) ∧ w'.cell? ⟨g, 3, none⟩ = some (.int .u64 (od : Int)) ∧ w'.cell? ⟨g, 4, none⟩ = some (.int .u64 (hk : Int)) ∧ w'.cell? ⟨g, 5, none⟩ = some (.bool r5) ∧ w'.cell? ⟨g, 6, none⟩ = some (.int .i64 r6) ∧ w'.cell? ⟨g, 7, none⟩ = some (.int .i64 r7) ∧ w'.cell? ⟨g, 8, none⟩ = some (.slice (some ⟨gk, 0, none⟩) ks.length (ks.length + 9)) ∧ w'.cell? ⟨g, 9, none⟩ = some (.int .u64 (lo : Int)) ∧ w'.cell? ⟨g, 10, none⟩ = some (.int .u64 (hi : Int)) ∧ w'.cell? ⟨ga, 0, none⟩ = some (.int .i64 er) ∧ w'.cell? ⟨ga, 1, none⟩ = some (.bool fo) ∧ w'.cell? ⟨ga, 2, none⟩ = some (.int .u64 (va : Int)) ∧ w'.cell? ⟨ga, 3, none⟩ = some (.bool dn) ∧ w'.cell? ⟨ga, 4, none⟩ = some (.int .u64 (ah : Int)) ∧ w'.cell? ⟨ga, 5, none⟩ = some (.slice (some ⟨gl, 0, none⟩) l.length (l.length + 9)) ∧ w'.cell? ⟨ga, 6, none⟩ = some (.int .u64 (co : Int)) ∧ w'.cell? ⟨W.heap.size, 1, none⟩ = some (.int .u8 kd) ∧ w'.cell? ⟨W.heap.size, 2, none⟩ = some (.int .u64 (k : Int)) ∧ w'.cell? ⟨W.heap.size, 3, none⟩ = some (.int .u64 (v : Int)) ∧ w'.cell? ⟨W.heap.size, 4, none⟩ = some (.int .u64 (od : Int)) ∧ w'.cell? ⟨W.heap.size, 5, none⟩ = some (.int .u64 (hk : Int)) ∧ w'.cell? ⟨W.heap.size, 6, none⟩ = some (.bool r5) ∧ w'.cell? ⟨W.heap.size, 7, none⟩ = some (.int .i64 r6) ∧ w'.cell? ⟨W.heap.size, 8, none⟩ = some (.int .i64 r7) ∧ w'.cell? ⟨W.heap.size, 9, none⟩ = some (.slice kp ks.length kc) ∧ w'.cell? ⟨W.heap.size, 10, none⟩ = some (.int .u64 (lo : Int)) ∧ w'.cell? ⟨W.heap.size, 11, none⟩ = some (.int .u64 (hi : Int)) ∧ w'.cell? ⟨W.heap.size, 12, none⟩ = some (.int .i64 er) ∧ w'.cell? ⟨W.heap.size, 13, none⟩ = some (.bool fo) ∧ w'.cell? ⟨W.heap.size, 14, none⟩ = some (.int .u64 (va : Int)) ∧ w'.cell? ⟨W.heap.size, 15, none⟩ = some (.bool dn) ∧ w'.cell? ⟨W.heap.size, 16, none⟩ = some (.int .u64 (ah : Int)) ∧ w'.cell? ⟨W.heap.size, 17, none⟩ = some (.slice lp l.length lc) ∧ w'.cell? ⟨W.heap.size, 18, none⟩ = some (.int .u64 (co : Int))) := fun w' cw => by
    have c03 := ch2 (ch2 HC2.out HC23.out) cw
    exact ⟨cell_of ((c03.block _ (lt_of HIN0.out.2.2) (fun x => x)).trans HIN0.out.2.2) 0, cell_of ((c03.block _ (lt_of HIN0.out.2.2) (fun x => x)).trans HIN0.out.2.2) 1, cell_chg (ch2 HC23.out cw) (HGC.out 0 _ rfl) (fun x => x), cell_chg (ch2 HC23.out cw) (HGC.out 1 _ rfl) (fun x => x), cell_chg (ch2 HC23.out cw) (HGC.out 2 _ rfl) (fun x => x), cell_chg (ch2 HC23.out cw) (HGC.out 3 _ rfl) (fun x => x), cell_chg (ch2 HC23.out cw) (HGC.out 4 _ rfl) (fun x => x), cell_chg (ch2 HC23.out cw) (HGC.out 5 _ rfl) (fun x => x), cell_chg (ch2 HC23.out cw) (HGC.out 6 _ rfl) (fun x => x), cell_chg (ch2 HC23.out cw) (HGC.out 7 _ rfl) (fun x => x), cell_chg (ch2 HC23.out cw) (HGC.out 8 _ rfl) (fun x => x), cell_chg (ch2 HC23.out cw) (HGC.out 9 _ rfl) (fun x => x), cell_chg (ch2 HC23.out cw) (HGC.out 10 _ rfl) (fun x => x), cell_chg cw (HAC.out 0 _ rfl) (fun x => x), cell_chg cw (HAC.out 1 _ rfl) (fun x => x), cell_chg cw (HAC.out 2 _ rfl) (fun x => x), cell_chg cw (HAC.out 3 _ rfl) (fun x => x), cell_chg cw (HAC.out 4 _ rfl) (fun x => x), cell_chg cw (HAC.out 5 _ rfl) (fun x => x), cell_chg cw (HAC.out 6 _ rfl) (fun x => x), cell_of (((ch2 HC23.out cw).block _ (lt_of HBOX2.out) (fun x => x)).trans HBOX2.out) 1, cell_of (((ch2 HC23.out cw).block _ (lt_of HBOX2.out) (fun x => x)).trans HBOX2.out) 2, cell_of (((ch2 HC23.out cw).block _ (lt_of HBOX2.out) (fun x => x)).trans HBOX2.out) 3, cell_of (((ch2 HC23.out cw).block _ (lt_of HBOX2.out) (fun x => x)).trans HBOX2.out) 4, cell_of (((ch2 HC23.out cw).block _ (lt_of HBOX2.out) (fun x => x)).trans HBOX2.out) 5, cell_of (((ch2 HC23.out cw).block _ (lt_of HBOX2.out) (fun x => x)).trans HBOX2.out) 6, cell_of (((ch2 HC23.out cw).block _ (lt_of HBOX2.out) (fun x => x)).trans HBOX2.out) 7, cell_of (((ch2 HC23.out cw).block _ (lt_of HBOX2.out) (fun x => x)).trans HBOX2.out) 8, cell_of (((ch2 HC23.out cw).block _ (lt_of HBOX2.out) (fun x => x)).trans HBOX2.out) 9, cell_of (((ch2 HC23.out cw).block _ (lt_of HBOX2.out) (fun x => x)).trans HBOX2.out) 10, cell_of (((ch2 HC23.out cw).block _ (lt_of HBOX2.out) (fun x => x)).trans HBOX2.out) 11, cell_of (((ch2 HC23.out cw).block _ (lt_of HBOX2.out) (fun x => x)).trans HBOX2.out) 12, cell_of (((ch2 HC23.out cw).block _ (lt_of HBOX2.out) (fun x => x)).trans HBOX2.out) 13, cell_of (((ch2 HC23.out cw).block _ (lt_of HBOX2.out) (fun x => x)).trans HBOX2.out) 14, cell_of (((ch2 HC23.out cw).block _ (lt_of HBOX2.out) (fun x => x)).trans HBOX2.out) 15, cell_of (((ch2 HC23.out cw).block _ (lt_of HBOX2.out) (fun x => x)).trans HBOX2.out) 16, cell_of (((ch2 HC23.out cw).block _ (lt_of HBOX2.out) (fun x => x)).trans HBOX2.out) 17, cell_of (((ch2 HC23.out cw).block _ (lt_of HBOX2.out) (fun x => x)).trans HBOX2.out) 18⟩
  have H1 : ∀ w, Chg (fun _ => False) w3 w → Hid (Calls Tryz.prog 12 #[.pointer none, .agg #[.int .u8 kd, .int .u64 (k : Int), .int .u64 (v : Int), .int .u64 (od : Int), .int .u64 (hk : Int), .bool r5, .int .i64 r6, .int .i64 r7, .slice (some ⟨gk, 0, none⟩) ks.length (ks.length + 9), .int .u64 (lo : Int), .int .u64 (hi : Int)], .agg #[.int .i64 er, .bool fo, .int .u64 (va : Int), .bool dn, .int .u64 (ah : Int), .slice (some ⟨gl, 0, none⟩) l.length (l.length + 9), .int .u64 (co : Int)]] w fun e w' => e = .returned (.bool false) ∧ Chg (fun _ => False) w3 w') := fun w cw => (nil_take _ _ w).mono (by rintro e w' ⟨rfl, c⟩; exact ⟨rfl, ch2 cw c⟩)
  have H2 : ∀ w, Chg (fun _ => False) w3 w → Hid (Calls Tryz.prog 15 #[.pointer none, .agg #[.int .u8 kd, .int .u64 (k : Int), .int .u64 (v : Int), .int .u64 (od : Int), .int .u64 (hk : Int), .bool r5, .int .i64 r6, .int .i64 r7, .slice kp ks.length kc, .int .u64 (lo : Int), .int .u64 (hi : Int)], .agg #[.int .i64 er, .bool fo, .int .u64 (va : Int), .bool dn, .int .u64 (ah : Int), .slice lp l.length lc, .int .u64 (co : Int)]] w fun e w' => e = .returned (.bool false) ∧ Chg (fun _ => False) w3 w') := fun w cw => (nil_rtake _ _ w).mono (by rintro e w' ⟨rfl, c⟩; exact ⟨rfl, ch2 cw c⟩)
  have H3 : ∀ w, Chg (fun _ => False) w3 w → Hid (Calls Tryz.prog 16 #[.slice (some ⟨ga, 0, none⟩) 1 10, .slice (some ⟨w.heap.size, 0, none⟩) 1 1] (w.alloc (.cells #[.int .i64 er, .bool fo, .int .u64 (va : Int), .bool dn, .int .u64 (ah : Int), .slice lp l.length lc, .int .u64 (co : Int)] 40)) fun e w' => e = .returned (.bool true) ∧ Chg (fun _ => False) w3 w') := fun w cw => by
    have cq := cw.alloc (.cells #[.int .i64 er, .bool fo, .int .u64 (va : Int), .bool dn, .int .u64 (ah : Int), .slice lp l.length lc, .int .u64 (co : Int)] 40)
    refine (kept_ans (kp := lp) (kc := lc) (fun j u hj => cell_chg cq (HAC.out j u hj) (fun x => x)) (fun j u hj => (cell_of (heap_alloc_new w (.cells #[.int .i64 er, .bool fo, .int .u64 (va : Int), .bool dn, .int .u64 (ah : Int), .slice lp l.length lc, .int .u64 (co : Int)] 40)) j).trans (by simpa using hj)) (fun j hj => cell_chg cq (HAM.out j hj) (fun x => x)) (HAL.out.1.chg cq (fun x => x)) (Nat.lt_of_lt_of_le HAL.out.2 cq.size) (HIN0.out.2.1.chg (ch2 (ch2 HC2.out HC23.out) cq)) hn2).mono ?_
    rintro e w' ⟨rfl, c⟩
    exact ⟨rfl, ch2 cq c⟩
  have H4 : ∀ w, Chg (fun _ => False) w3 w → Hid (Calls Tryz.prog 19 #[.slice (some ⟨g, 0, none⟩) 1 10, .slice (some ⟨w.heap.size, 0, none⟩) 1 1] (w.alloc (.cells #[.int .u8 kd, .int .u64 (k : Int), .int .u64 (v : Int), .int .u64 (od : Int), .int .u64 (hk : Int), .bool r5, .int .i64 r6, .int .i64 r7, .slice kp ks.length kc, .int .u64 (lo : Int), .int .u64 (hi : Int)] 36)) fun e w' => e = .returned (.bool true) ∧ Chg (fun _ => False) w3 w') := fun w cw => by
    have cq := cw.alloc (.cells #[.int .u8 kd, .int .u64 (k : Int), .int .u64 (v : Int), .int .u64 (od : Int), .int .u64 (hk : Int), .bool r5, .int .i64 r6, .int .i64 r7, .slice kp ks.length kc, .int .u64 (lo : Int), .int .u64 (hi : Int)] 36)
    have cr := ch2 HC23.out cq
    refine (kept_op (kp := kp) (kc := kc) HWF.out.1 HWF.out.2 (fun j u hj => cell_chg cr (HGC.out j u hj) (fun x => x)) (fun j u hj => (cell_of (heap_alloc_new w (.cells #[.int .u8 kd, .int .u64 (k : Int), .int .u64 (v : Int), .int .u64 (od : Int), .int .u64 (hk : Int), .bool r5, .int .i64 r6, .int .i64 r7, .slice kp ks.length kc, .int .u64 (lo : Int), .int .u64 (hi : Int)] 36)) j).trans (by simpa using hj)) (fun j hj => cell_chg cr (HGM.out j hj) (fun x => x)) (HGK.out.1.chg cr (fun x => x)) (Nat.lt_of_lt_of_le HGK.out.2 cr.size) (HIN0.out.1.chg (ch2 HC2.out cr) (fun _ _ _ x => x)) hn1).mono ?_
    rintro e w' ⟨rfl, c⟩
    exact ⟨rfl, ch2 cq c⟩
  have C3 : Chg (fun _ => False) w3 w3 := Chg.refl _ _
  have C3d : Chg (fun _ => False) w3 w3.drew := C3.drew
  go_upto_region 5 with fail
  go_region_held3 (fun w' => w'.cell? ⟨b, 0, none⟩ = some (.pointer none) ∧ w'.cell? ⟨b, 1, none⟩ = some (.pointer none) ∧ w'.cell? ⟨g, 0, none⟩ = some (.int .u8 kd) ∧ w'.cell? ⟨g, 1, none⟩ = some (.int .u64 (k : Int)) ∧ w'.cell? ⟨g, 2, none⟩ = some (.int .u64 (v : Int)) ∧ w'.cell? ⟨g, 3, none⟩ = some (.int .u64 (od : Int)) ∧ w'.cell? ⟨g, 4, none⟩ = some (.int .u64 (hk : Int)) ∧ w'.cell? ⟨g, 5, none⟩ = some (.bool r5) ∧ w'.cell? ⟨g, 6, none⟩ = some (.int .i64 r6) ∧ w'.cell? ⟨g, 7, none⟩ = some (.int .i64 r7) ∧ w'.cell? ⟨g, 8, none⟩ = some (.slice (some ⟨gk, 0, none⟩) ks.length (ks.length + 9)) ∧ w'.cell? ⟨g, 9, none⟩ = some (.int .u64 (lo : Int)) ∧ w'.cell? ⟨g, 10, none⟩ = some (.int .u64 (hi : Int)) ∧ w'.cell? ⟨ga, 0, none⟩ = some (.int .i64 er) ∧ w'.cell? ⟨ga, 1, none⟩ = some (.bool fo) ∧ w'.cell? ⟨ga, 2, none⟩ = some (.int .u64 (va : Int)) ∧ w'.cell? ⟨ga, 3, none⟩ = some (.bool dn) ∧ w'.cell? ⟨ga, 4, none⟩ = some (.int .u64 (ah : Int)) ∧ w'.cell? ⟨ga, 5, none⟩ = some (.slice (some ⟨gl, 0, none⟩) l.length (l.length + 9)) ∧ w'.cell? ⟨ga, 6, none⟩ = some (.int .u64 (co : Int)) ∧ w'.cell? ⟨W.heap.size, 1, none⟩ = some (.int .u8 kd) ∧ w'.cell? ⟨W.heap.size, 2, none⟩ = some (.int .u64 (k : Int)) ∧ w'.cell? ⟨W.heap.size, 3, none⟩ = some (.int .u64 (v : Int)) ∧ w'.cell? ⟨W.heap.size, 4, none⟩ = some (.int .u64 (od : Int)) ∧ w'.cell? ⟨W.heap.size, 5, none⟩ = some (.int .u64 (hk : Int)) ∧ w'.cell? ⟨W.heap.size, 6, none⟩ = some (.bool r5) ∧ w'.cell? ⟨W.heap.size, 7, none⟩ = some (.int .i64 r6) ∧ w'.cell? ⟨W.heap.size, 8, none⟩ = some (.int .i64 r7) ∧ w'.cell? ⟨W.heap.size, 9, none⟩ = some (.slice kp ks.length kc) ∧ w'.cell? ⟨W.heap.size, 10, none⟩ = some (.int .u64 (lo : Int)) ∧ w'.cell? ⟨W.heap.size, 11, none⟩ = some (.int .u64 (hi : Int)) ∧ w'.cell? ⟨W.heap.size, 12, none⟩ = some (.int .i64 er) ∧ w'.cell? ⟨W.heap.size, 13, none⟩ = some (.bool fo) ∧ w'.cell? ⟨W.heap.size, 14, none⟩ = some (.int .u64 (va : Int)) ∧ w'.cell? ⟨W.heap.size, 15, none⟩ = some (.bool dn) ∧ w'.cell? ⟨W.heap.size, 16, none⟩ = some (.int .u64 (ah : Int)) ∧ w'.cell? ⟨W.heap.size, 17, none⟩ = some (.slice lp l.length lc) ∧ w'.cell? ⟨W.heap.size, 18, none⟩ = some (.int .u64 (co : Int))) (first | exact (hS _ (by assumption)).out | exact (hS _ (Chg.alloc (by assumption) _)).out)
    (first | (go_at_call 12; refine (H1 _ (by assumption)).out.mono ?_; rintro e z1 ⟨rfl, hz1⟩) | (go_at_call 15; refine (H2 _ (by assumption)).out.mono ?_; rintro e z2 ⟨rfl, hz2⟩) | (go_at_call 16; refine (H3 _ (by assumption)).out.mono ?_; rintro e z3 ⟨rfl, hz3⟩))
  all_goals (
    have o0 : z3.cell? ⟨W.heap.size, 1, none⟩ = some (.int .u8 kd) := cell_of (((ch2 HC23.out hz3).block _ (lt_of HBOX2.out) (fun x => x)).trans HBOX2.out) 1
    have o1 : z3.cell? ⟨W.heap.size, 2, none⟩ = some (.int .u64 (k : Int)) := cell_of (((ch2 HC23.out hz3).block _ (lt_of HBOX2.out) (fun x => x)).trans HBOX2.out) 2
    have o2 : z3.cell? ⟨W.heap.size, 3, none⟩ = some (.int .u64 (v : Int)) := cell_of (((ch2 HC23.out hz3).block _ (lt_of HBOX2.out) (fun x => x)).trans HBOX2.out) 3
    have o3 : z3.cell? ⟨W.heap.size, 4, none⟩ = some (.int .u64 (od : Int)) := cell_of (((ch2 HC23.out hz3).block _ (lt_of HBOX2.out) (fun x => x)).trans HBOX2.out) 4
    have o4 : z3.cell? ⟨W.heap.size, 5, none⟩ = some (.int .u64 (hk : Int)) := cell_of (((ch2 HC23.out hz3).block _ (lt_of HBOX2.out) (fun x => x)).trans HBOX2.out) 5
    have o5 : z3.cell? ⟨W.heap.size, 6, none⟩ = some (.bool r5) := cell_of (((ch2 HC23.out hz3).block _ (lt_of HBOX2.out) (fun x => x)).trans HBOX2.out) 6
    have o6 : z3.cell? ⟨W.heap.size, 7, none⟩ = some (.int .i64 r6) := cell_of (((ch2 HC23.out hz3).block _ (lt_of HBOX2.out) (fun x => x)).trans HBOX2.out) 7
    have o7 : z3.cell? ⟨W.heap.size, 8, none⟩ = some (.int .i64 r7) := cell_of (((ch2 HC23.out hz3).block _ (lt_of HBOX2.out) (fun x => x)).trans HBOX2.out) 8
    have o8 : z3.cell? ⟨W.heap.size, 9, none⟩ = some (.slice kp ks.length kc) := cell_of (((ch2 HC23.out hz3).block _ (lt_of HBOX2.out) (fun x => x)).trans HBOX2.out) 9
    have o9 : z3.cell? ⟨W.heap.size, 10, none⟩ = some (.int .u64 (lo : Int)) := cell_of (((ch2 HC23.out hz3).block _ (lt_of HBOX2.out) (fun x => x)).trans HBOX2.out) 10
    have o10 : z3.cell? ⟨W.heap.size, 11, none⟩ = some (.int .u64 (hi : Int)) := cell_of (((ch2 HC23.out hz3).block _ (lt_of HBOX2.out) (fun x => x)).trans HBOX2.out) 11
    go_wp2_with fail
    refine (H4 z3 hz3).out.mono ?_
    rintro e z4 ⟨rfl, hz4⟩
    have hz5 := ch2 (ch2 HC2.out HC23.out) hz4
    go_wp2_with fail
    go_ret
    exact ⟨by simp, hz5⟩)
end Go.Proofs.YtimlaamhjbhkmaaGreat
