/- A call on both nil models. -/
import Derived.Test.YtimlaamhjbhkmaaGreatZi
namespace Go.Proofs.YtimlaamhjbhkmaaGreat
open Go.RowKit
set_option linter.unusedVariables false

set_option maxRecDepth 100000 in
set_option maxHeartbeats 8000000 in
theorem call_do {kd r6 r7 er : Int} {k v od hk lo hi va ah co hn : Nat} {r5 fo dn : Bool} {ks : List Nat} {l : List (Nat × Nat)} {kp lp : Option Addr} {kc lc : Nat} (w6 : (Lit.int .i64 r6).wf = true) (w7 : (Lit.int .i64 r7).wf = true) {W : World} (hK : KeysAt W kp ks) (hn1 : ks.length ≤ 17592186043904) (hL : PairsAt W lp l) (hn2 : l.length ≤ 8796093021952) {b : Nat} (hb : IsB W b) :
    Calls Tryz.prog 5 #[.pointer (some ⟨b, 0, none⟩), .agg #[.bool false, .int .u8 kd, .int .u64 (k : Int), .int .u64 (v : Int), .int .u64 (od : Int), .int .u64 (hk : Int), .bool r5, .int .i64 r6, .int .i64 r7, .slice kp ks.length kc, .int .u64 (lo : Int), .int .u64 (hi : Int), .int .i64 er, .bool fo, .int .u64 (va : Int), .bool dn, .int .u64 (ah : Int), .slice lp l.length lc, .int .u64 (co : Int), .int .u64 (hn : Int)]] W fun e W' => e = .returned (.bool true) ∧ Chg (fun _ => False) W W' := by
  obtain ⟨w0, hw0⟩ : ∃ w0, w0 = W.alloc (.cells #[.bool false, .int .u8 kd, .int .u64 (k : Int), .int .u64 (v : Int), .int .u64 (od : Int), .int .u64 (hk : Int), .bool r5, .int .i64 r6, .int .i64 r7, .slice kp ks.length kc, .int .u64 (lo : Int), .int .u64 (hi : Int), .int .i64 er, .bool fo, .int .u64 (va : Int), .bool dn, .int .u64 (ah : Int), .slice lp l.length lc, .int .u64 (co : Int), .int .u64 (hn : Int)] 42) := ⟨_, rfl⟩
  have C0 : Chg (fun _ => False) W w0 := by rw [hw0]; exact (Chg.refl _ _).alloc _
  have hbox : w0.heap[W.heap.size]? = some (.cells #[.bool false, .int .u8 kd, .int .u64 (k : Int), .int .u64 (v : Int), .int .u64 (od : Int), .int .u64 (hk : Int), .bool r5, .int .i64 r6, .int .i64 r7, .slice kp ks.length kc, .int .u64 (lo : Int), .int .u64 (hi : Int), .int .i64 er, .bool fo, .int .u64 (va : Int), .bool dn, .int .u64 (ah : Int), .slice lp l.length lc, .int .u64 (co : Int), .int .u64 (hn : Int)] 42 (0, 0)) := by rw [hw0]; exact heap_alloc_new _ _
  obtain ⟨wI, hwI⟩ : ∃ wI, wI = w0.alloc (.cells #[.int .u8 kd, .int .u64 (k : Int), .int .u64 (v : Int), .int .u64 (od : Int), .int .u64 (hk : Int), .bool r5, .int .i64 r6, .int .i64 r7, .slice kp ks.length kc, .int .u64 (lo : Int), .int .u64 (hi : Int)] 36) := ⟨_, rfl⟩
  have CI : Chg (fun _ => False) w0 wI := by rw [hwI]; exact (Chg.refl _ _).alloc _
  have hin : wI.heap[w0.heap.size]? = some (.cells #[.int .u8 kd, .int .u64 (k : Int), .int .u64 (v : Int), .int .u64 (od : Int), .int .u64 (hk : Int), .bool r5, .int .i64 r6, .int .i64 r7, .slice kp ks.length kc, .int .u64 (lo : Int), .int .u64 (hi : Int)] 36 (0, 0)) := by rw [hwI]; exact heap_alloc_new _ _
  have HCI : Hid (Chg (fun _ => False) W wI) := ch2 C0 CI
  have HO := keepH (hand_op hin (hK.chg HCI.out (fun _ _ _ x => x)) hn1)
  have HBOX := keepH ((CI.block _ (lt_of hbox) (fun x => x)).trans hbox)
  have HWI := keepH hwI
  have HIN0 : Hid (KeysAt W kp ks ∧ PairsAt W lp l ∧ IsB W b) := ⟨hK, hL, hb⟩
  have HWF : Hid ((Lit.int .i64 r6).wf = true ∧ (Lit.int .i64 r7).wf = true) := ⟨w6, w7⟩
  have p0 : w0.cell? ⟨W.heap.size, 0, none⟩ = some (.bool false) := cell_of hbox 0
  have p1 : w0.cell? ⟨W.heap.size, 1, none⟩ = some (.int .u8 kd) := cell_of hbox 1
  have p2 : w0.cell? ⟨W.heap.size, 2, none⟩ = some (.int .u64 (k : Int)) := cell_of hbox 2
  have p3 : w0.cell? ⟨W.heap.size, 3, none⟩ = some (.int .u64 (v : Int)) := cell_of hbox 3
  have p4 : w0.cell? ⟨W.heap.size, 4, none⟩ = some (.int .u64 (od : Int)) := cell_of hbox 4
  have p5 : w0.cell? ⟨W.heap.size, 5, none⟩ = some (.int .u64 (hk : Int)) := cell_of hbox 5
  have p6 : w0.cell? ⟨W.heap.size, 6, none⟩ = some (.bool r5) := cell_of hbox 6
  have p7 : w0.cell? ⟨W.heap.size, 7, none⟩ = some (.int .i64 r6) := cell_of hbox 7
  have p8 : w0.cell? ⟨W.heap.size, 8, none⟩ = some (.int .i64 r7) := cell_of hbox 8
  have p9 : w0.cell? ⟨W.heap.size, 9, none⟩ = some (.slice kp ks.length kc) := cell_of hbox 9
  have p10 : w0.cell? ⟨W.heap.size, 10, none⟩ = some (.int .u64 (lo : Int)) := cell_of hbox 10
  have p11 : w0.cell? ⟨W.heap.size, 11, none⟩ = some (.int .u64 (hi : Int)) := cell_of hbox 11
  have p12 : w0.cell? ⟨W.heap.size, 12, none⟩ = some (.int .i64 er) := cell_of hbox 12
  have p13 : w0.cell? ⟨W.heap.size, 13, none⟩ = some (.bool fo) := cell_of hbox 13
  have p14 : w0.cell? ⟨W.heap.size, 14, none⟩ = some (.int .u64 (va : Int)) := cell_of hbox 14
  have p15 : w0.cell? ⟨W.heap.size, 15, none⟩ = some (.bool dn) := cell_of hbox 15
  have p16 : w0.cell? ⟨W.heap.size, 16, none⟩ = some (.int .u64 (ah : Int)) := cell_of hbox 16
  have p17 : w0.cell? ⟨W.heap.size, 17, none⟩ = some (.slice lp l.length lc) := cell_of hbox 17
  have p18 : w0.cell? ⟨W.heap.size, 18, none⟩ = some (.int .u64 (co : Int)) := cell_of hbox 18
  have p19 : w0.cell? ⟨W.heap.size, 19, none⟩ = some (.int .u64 (hn : Int)) := cell_of hbox 19
  clear C0 CI hbox hin hwI hK hL hb w6 w7
  go_enter Tryz.func5, Tryz.ntmps5
  go_upto_region 1 with fail
  rw [← hw0]
  clear hw0
  go_wp2_with fail
  rw [← HWI.out]
  refine HO.out.mono ?_
  rintro e w2 ⟨rfl, gk, xs, hH⟩
  obtain ⟨g, hg⟩ : ∃ g, g = wI.heap.size := ⟨_, rfl⟩
  rw [← hg] at hH ⊢
  have HH := keepH hH
  have HC2 : Hid (Chg (fun _ => False) W w2) := ch2 HCI.out hH.chg
  have HBOX2 := keepH ((hH.chg.block _ (lt_of HBOX.out) (fun x => x)).trans HBOX.out)
  have HGC : Hid (∀ (j : Nat) (u : Value), ([.int .u8 kd, .int .u64 (k : Int), .int .u64 (v : Int), .int .u64 (od : Int), .int .u64 (hk : Int), .bool r5, .int .i64 r6, .int .i64 r7, .slice (some ⟨gk, 0, none⟩) ks.length (ks.length + 9), .int .u64 (lo : Int), .int .u64 (hi : Int)] : List Value)[j]? = some u → w2.cell? ⟨g, j, none⟩ = some u) := fun j u hj => by
    have hl := (List.getElem?_eq_some_iff.1 hj).1
    rw [hH.row.cell j (by simp at hl; omega)]
    exact hH.cs j u hj
  have HGM : Hid (∀ j, j < 9 → w2.cell? ⟨g, (1 + j) * 11 + 1, none⟩ = some (.int .u64 (2305843009213693952 + (j : Int)))) := fun j hj => by
    rw [hH.row.cell _ (by omega)]
    exact hH.mks j hj
  have HGK : Hid (Handed w2 gk ks.length (fun j => ks.getD j 0) ∧ gk < w2.heap.size) := ⟨hH.hd, hH.ge.2.2⟩
  clear hH hg HH HWI HO p0 p1 p2 p3 p4 p5 p6 p7 p8 p9 p10 p11 p12 p13 p14 p15 p16 p17 p18 p19
  have p0 : w2.cell? ⟨W.heap.size, 0, none⟩ = some (.bool false) := cell_of HBOX2.out 0
  have p1 : w2.cell? ⟨W.heap.size, 1, none⟩ = some (.int .u8 kd) := cell_of HBOX2.out 1
  have p2 : w2.cell? ⟨W.heap.size, 2, none⟩ = some (.int .u64 (k : Int)) := cell_of HBOX2.out 2
  have p3 : w2.cell? ⟨W.heap.size, 3, none⟩ = some (.int .u64 (v : Int)) := cell_of HBOX2.out 3
  have p4 : w2.cell? ⟨W.heap.size, 4, none⟩ = some (.int .u64 (od : Int)) := cell_of HBOX2.out 4
  have p5 : w2.cell? ⟨W.heap.size, 5, none⟩ = some (.int .u64 (hk : Int)) := cell_of HBOX2.out 5
  have p6 : w2.cell? ⟨W.heap.size, 6, none⟩ = some (.bool r5) := cell_of HBOX2.out 6
  have p7 : w2.cell? ⟨W.heap.size, 7, none⟩ = some (.int .i64 r6) := cell_of HBOX2.out 7
  have p8 : w2.cell? ⟨W.heap.size, 8, none⟩ = some (.int .i64 r7) := cell_of HBOX2.out 8
  have p9 : w2.cell? ⟨W.heap.size, 9, none⟩ = some (.slice kp ks.length kc) := cell_of HBOX2.out 9
  have p10 : w2.cell? ⟨W.heap.size, 10, none⟩ = some (.int .u64 (lo : Int)) := cell_of HBOX2.out 10
  have p11 : w2.cell? ⟨W.heap.size, 11, none⟩ = some (.int .u64 (hi : Int)) := cell_of HBOX2.out 11
  have p12 : w2.cell? ⟨W.heap.size, 12, none⟩ = some (.int .i64 er) := cell_of HBOX2.out 12
  have p13 : w2.cell? ⟨W.heap.size, 13, none⟩ = some (.bool fo) := cell_of HBOX2.out 13
  have p14 : w2.cell? ⟨W.heap.size, 14, none⟩ = some (.int .u64 (va : Int)) := cell_of HBOX2.out 14
  have p15 : w2.cell? ⟨W.heap.size, 15, none⟩ = some (.bool dn) := cell_of HBOX2.out 15
  have p16 : w2.cell? ⟨W.heap.size, 16, none⟩ = some (.int .u64 (ah : Int)) := cell_of HBOX2.out 16
  have p17 : w2.cell? ⟨W.heap.size, 17, none⟩ = some (.slice lp l.length lc) := cell_of HBOX2.out 17
  have p18 : w2.cell? ⟨W.heap.size, 18, none⟩ = some (.int .u64 (co : Int)) := cell_of HBOX2.out 18
  have p19 : w2.cell? ⟨W.heap.size, 19, none⟩ = some (.int .u64 (hn : Int)) := cell_of HBOX2.out 19
  have hS : ∀ w', Chg (fun _ => False) w2 w' → Hid (w'.cell? ⟨b, 0, none⟩ = some (.pointer none) ∧ w'.cell? ⟨g, 0, none⟩ = some (.int .u8 kd) ∧ w'.cell? ⟨g, 1, none⟩ = some (.int .u64 (k : Int)) ∧ w'.cell? ⟨g, 2, none⟩ = some (.int .u64 (v : Int)) ∧ w'.cell? ⟨g, 3, none⟩ = some (.int .u64 (od : Int)) ∧ w'.cell? ⟨g, 4, none⟩ = some (.int .u64 (hk : Int)) ∧ w'.cell? ⟨g, 5, none⟩ = some (.bool r5) ∧ w'.cell? ⟨g, 6, none⟩ = some (.int .i64 r6) ∧ w'.cell? ⟨g, 7, none⟩ = some (.int .i64 r7) ∧ w'.cell? ⟨g, 8, none⟩ = some (.slice (some ⟨gk, 0, none⟩) ks.length (ks.length + 9)) ∧ w'.cell? ⟨g, 9, none⟩ = some (.int .u64 (lo : Int)) ∧ w'.cell? ⟨g, 10, none⟩ = some (.int .u64 (hi : Int)) ∧ w'.cell? ⟨W.heap.size, 19, none⟩ = some (.int .u64 (hn : Int))) := fun w' cw => by
    have c02 := ch2 HC2.out cw
    exact ⟨cell_of ((c02.block _ (lt_of HIN0.out.2.2) (fun x => x)).trans HIN0.out.2.2) 0, cell_chg cw (HGC.out 0 _ rfl) (fun x => x), cell_chg cw (HGC.out 1 _ rfl) (fun x => x), cell_chg cw (HGC.out 2 _ rfl) (fun x => x), cell_chg cw (HGC.out 3 _ rfl) (fun x => x), cell_chg cw (HGC.out 4 _ rfl) (fun x => x), cell_chg cw (HGC.out 5 _ rfl) (fun x => x), cell_chg cw (HGC.out 6 _ rfl) (fun x => x), cell_chg cw (HGC.out 7 _ rfl) (fun x => x), cell_chg cw (HGC.out 8 _ rfl) (fun x => x), cell_chg cw (HGC.out 9 _ rfl) (fun x => x), cell_chg cw (HGC.out 10 _ rfl) (fun x => x), cell_of ((cw.block _ (lt_of HBOX2.out) (fun x => x)).trans HBOX2.out) 19⟩
  have H1 : ∀ w, Chg (fun _ => False) w2 w → Hid (Calls Tryz.prog 10 #[.pointer none, .agg #[.int .u8 kd, .int .u64 (k : Int), .int .u64 (v : Int), .int .u64 (od : Int), .int .u64 (hk : Int), .bool r5, .int .i64 r6, .int .i64 r7, .slice (some ⟨gk, 0, none⟩) ks.length (ks.length + 9), .int .u64 (lo : Int), .int .u64 (hi : Int)], .int .u64 (hn : Int)] w fun e w' => e = .returned (.agg #[.int .i64 1, .bool false, .int .u64 0, .bool false, .int .u64 0, .slice none 0 0, .int .u64 0]) ∧ Chg (fun _ => False) w2 w') := fun w cw => (nil_do _ _ w).mono (by rintro e w' ⟨rfl, c⟩; exact ⟨rfl, ch2 cw c⟩)
  have C2 : Chg (fun _ => False) w2 w2 := Chg.refl _ _
  have C2d : Chg (fun _ => False) w2 w2.drew := C2.drew
  clear p1 p2 p3 p4 p5 p6 p7 p8 p9 p10 p11 p12 p13 p14 p15 p16 p17 p18 p19
  go_upto_region 6 with fail
  refine wp_region_held_drew (S := fun w' => Chg (fun _ => False) w2 w') (by kernel_rfl) C2d ?_
  intro hHeld
  refine wpAnyH_take (i := 0) (v := ?_) rfl (by kernel_rfl) (by kernel_rfl) (by kernel_rfl) (fun _ _ _ h => h) (Or.inl ⟨by rfl, ?_⟩) hHeld ?_
  rotate_left
  · intro w hSw
    (try dsimp only at hSw)
    go_simp
    try with_reducible rfl
  (try simp only [Act.put]); (try simp only [List.setIfInBounds_toArray]); (repeat (first | simp only [List.set_cons_succ] | simp only [List.set_cons_zero]))
  refine wpAnyH_take (i := 1) (v := ?_) rfl (by kernel_rfl) (by kernel_rfl) (by kernel_rfl) (fun _ _ _ h => h) (Or.inl ⟨by rfl, ?_⟩) hHeld ?_
  rotate_left
  · intro w hSw
    (try dsimp only at hSw)
    go_simp
    try with_reducible rfl
  (try simp only [Act.put]); (try simp only [List.setIfInBounds_toArray]); (repeat (first | simp only [List.set_cons_succ] | simp only [List.set_cons_zero]))
  refine wpAnyH_take (i := 2) (v := ?_) rfl (by kernel_rfl) (by kernel_rfl) (by kernel_rfl) (fun _ _ _ h => h) (Or.inl ⟨by rfl, ?_⟩) hHeld ?_
  rotate_left
  · intro w hSw
    (try dsimp only at hSw)
    go_simp
    try with_reducible rfl
  (try simp only [Act.put]); (try simp only [List.setIfInBounds_toArray]); (repeat (first | simp only [List.set_cons_succ] | simp only [List.set_cons_zero]))
  refine wpAnyH_take (i := 3) (v := ?_) rfl (by kernel_rfl) (by kernel_rfl) (by kernel_rfl) (fun _ _ _ h => h) (Or.inl ⟨by rfl, ?_⟩) hHeld ?_
  rotate_left
  · intro w hSw
    (try dsimp only at hSw)
    obtain ⟨e0, e1, e2, e3, e4, e5, e6, e7, e8, e9, e10, e11, e12⟩ := (hS _ hSw).out
    go_simp
    try with_reducible rfl
  (try simp only [Act.put]); (try simp only [List.setIfInBounds_toArray]); (repeat (first | simp only [List.set_cons_succ] | simp only [List.set_cons_zero]))
  refine wpAnyH_take (i := 4) (v := ?_) rfl (by kernel_rfl) (by kernel_rfl) (by kernel_rfl) (fun _ _ _ h => h) (Or.inl ⟨by rfl, ?_⟩) hHeld ?_
  rotate_left
  · intro w hSw
    (try dsimp only at hSw)
    go_simp
    try with_reducible rfl
  (try simp only [Act.put]); (try simp only [List.setIfInBounds_toArray]); (repeat (first | simp only [List.set_cons_succ] | simp only [List.set_cons_zero]))
  refine wpAnyH_take (i := 5) (v := ?_) rfl (by kernel_rfl) (by kernel_rfl) (by kernel_rfl) (fun _ _ _ h => h) (Or.inl ⟨by rfl, ?_⟩) hHeld ?_
  rotate_left
  · intro w hSw
    (try dsimp only at hSw)
    go_simp
    try with_reducible rfl
  (try simp only [Act.put]); (try simp only [List.setIfInBounds_toArray]); (repeat (first | simp only [List.set_cons_succ] | simp only [List.set_cons_zero]))
  refine wpAnyH_take (i := 6) (v := ?_) rfl (by kernel_rfl) (by kernel_rfl) (by kernel_rfl) (fun _ _ _ h => h) (Or.inl ⟨by rfl, ?_⟩) hHeld ?_
  rotate_left
  · intro w hSw
    (try dsimp only at hSw)
    obtain ⟨e0, e1, e2, e3, e4, e5, e6, e7, e8, e9, e10, e11, e12⟩ := (hS _ hSw).out
    go_simp
    try with_reducible rfl
  (try simp only [Act.put]); (try simp only [List.setIfInBounds_toArray]); (repeat (first | simp only [List.set_cons_succ] | simp only [List.set_cons_zero]))
  refine wpAnyH_take (i := 7) (v := ?_) rfl (by kernel_rfl) (by kernel_rfl) (by kernel_rfl) (fun _ _ _ h => h) (Or.inl ⟨by rfl, ?_⟩) hHeld ?_
  rotate_left
  · intro w hSw
    (try dsimp only at hSw)
    go_simp
    try with_reducible rfl
  (try simp only [Act.put]); (try simp only [List.setIfInBounds_toArray]); (repeat (first | simp only [List.set_cons_succ] | simp only [List.set_cons_zero]))
  refine wpAnyH_take (i := 8) (v := ?_) rfl (by kernel_rfl) (by kernel_rfl) (by kernel_rfl) (fun _ _ _ h => h) (Or.inl ⟨by rfl, ?_⟩) hHeld ?_
  rotate_left
  · intro w hSw
    (try dsimp only at hSw)
    obtain ⟨e0, e1, e2, e3, e4, e5, e6, e7, e8, e9, e10, e11, e12⟩ := (hS _ hSw).out
    go_simp
    try with_reducible rfl
  (try simp only [Act.put]); (try simp only [List.setIfInBounds_toArray]); (repeat (first | simp only [List.set_cons_succ] | simp only [List.set_cons_zero]))
  refine wpAnyH_ready (rs := [9, 10]) (by kernel_rfl) (by simp) ?_
  refine AllReadyH.cons rfl (fun KK hKK => ?_) (AllReadyH.cons rfl (fun KK hKK => ?_) AllReadyH.nil)
  · skip
    go_simp
    go_at_call 10
    refine (nil_do _ _ _).mono ?_
    rintro e z1 ⟨rfl, hz1⟩
    have hz2 := ch2 (C2d) hz1
    try go_wp2_with fail
    refine hKK.out _ _ ?_ (fun hHeld => ?_)
    · exact hz2
    clear hKK KK
    (try simp only [Act.put]); (try simp only [List.setIfInBounds_toArray]); (repeat (first | simp only [List.set_cons_succ] | simp only [List.set_cons_zero]))
    refine wpAnyH_ready (rs := [10]) (by kernel_rfl) (by simp) ?_
    refine AllReadyH.cons rfl (fun KK hKK => ?_) AllReadyH.nil
    go_simp
    try go_wp2_with fail
    refine hKK.out _ _ ?_ (fun hHeld => ?_)
    · exact hz2.alloc _
    clear hKK KK
    (try simp only [Act.put]); (try simp only [List.setIfInBounds_toArray]); (repeat (first | simp only [List.set_cons_succ] | simp only [List.set_cons_zero]))
    obtain ⟨gT, hgT⟩ : ∃ gT, gT = z1.heap.size := ⟨_, rfl⟩
    obtain ⟨y, hy⟩ : ∃ y, y = z1.alloc (.cells #[.int .i64 1, .bool false, .int .u64 0, .bool false, .int .u64 0, .slice none 0 0, .int .u64 0] 40) := ⟨_, rfl⟩
    have HT : Hid (y.heap[gT]? = some (.cells #[.int .i64 1, .bool false, .int .u64 0, .bool false, .int .u64 0, .slice none 0 0, .int .u64 0] 40 (0, 0))) := by rw [hy, hgT]; exact heap_alloc_new _ _
    have HY : Hid (Chg (fun _ => False) w2 y) := by rw [hy]; exact hz2.alloc _
    refine wpAnyH_ready (rs := [11]) (by kernel_rfl) (by simp) ?_
    refine AllReadyH.cons rfl (fun KK hKK => ?_) AllReadyH.nil
    go_simp
    try go_wp2_with fail
    rw [← hy, ← hgT]
    clear hy hgT
    refine hKK.out _ _ ?_ (fun hHeld => ?_)
    · exact HY.out
    clear hKK KK
    (try simp only [Act.put]); (try simp only [List.setIfInBounds_toArray]); (repeat (first | simp only [List.set_cons_succ] | simp only [List.set_cons_zero]))
    refine wpAnyH_done (by kernel_rfl) ?_ _
    go_simp
    try go_wp2_with fail
    clear hz1 hz2
    have hS7 : ∀ w', Chg (fun _ => False) y w' → Hid (w'.cell? ⟨gT, 0, none⟩ = some (.int .i64 1) ∧ w'.cell? ⟨gT, 1, none⟩ = some (.bool false) ∧ w'.cell? ⟨gT, 2, none⟩ = some (.int .u64 0) ∧ w'.cell? ⟨gT, 3, none⟩ = some (.bool false) ∧ w'.cell? ⟨gT, 4, none⟩ = some (.int .u64 0) ∧ w'.cell? ⟨gT, 5, none⟩ = some (.slice none 0 0) ∧ w'.cell? ⟨gT, 6, none⟩ = some (.int .u64 0) ∧ w'.cell? ⟨b, 1, none⟩ = some (.pointer none) ∧ w'.cell? ⟨W.heap.size, 1, none⟩ = some (.int .u8 kd) ∧ w'.cell? ⟨W.heap.size, 2, none⟩ = some (.int .u64 (k : Int)) ∧ w'.cell? ⟨W.heap.size, 3, none⟩ = some (.int .u64 (v : Int)) ∧ w'.cell? ⟨W.heap.size, 4, none⟩ = some (.int .u64 (od : Int)) ∧ w'.cell? ⟨W.heap.size, 5, none⟩ = some (.int .u64 (hk : Int)) ∧ w'.cell? ⟨W.heap.size, 6, none⟩ = some (.bool r5) ∧ w'.cell? ⟨W.heap.size, 7, none⟩ = some (.int .i64 r6) ∧ w'.cell? ⟨W.heap.size, 8, none⟩ = some (.int .i64 r7) ∧ w'.cell? ⟨W.heap.size, 9, none⟩ = some (.slice kp ks.length kc) ∧ w'.cell? ⟨W.heap.size, 10, none⟩ = some (.int .u64 (lo : Int)) ∧ w'.cell? ⟨W.heap.size, 11, none⟩ = some (.int .u64 (hi : Int)) ∧ w'.cell? ⟨W.heap.size, 19, none⟩ = some (.int .u64 (hn : Int))) := fun w' cw => by
      have c02 := ch2 (ch2 HC2.out HY.out) cw
      exact ⟨cell_of ((cw.block _ (lt_of HT.out) (fun x => x)).trans HT.out) 0, cell_of ((cw.block _ (lt_of HT.out) (fun x => x)).trans HT.out) 1, cell_of ((cw.block _ (lt_of HT.out) (fun x => x)).trans HT.out) 2, cell_of ((cw.block _ (lt_of HT.out) (fun x => x)).trans HT.out) 3, cell_of ((cw.block _ (lt_of HT.out) (fun x => x)).trans HT.out) 4, cell_of ((cw.block _ (lt_of HT.out) (fun x => x)).trans HT.out) 5, cell_of ((cw.block _ (lt_of HT.out) (fun x => x)).trans HT.out) 6, cell_of ((c02.block _ (lt_of HIN0.out.2.2) (fun x => x)).trans HIN0.out.2.2) 1, cell_of (((ch2 HY.out cw).block _ (lt_of HBOX2.out) (fun x => x)).trans HBOX2.out) 1, cell_of (((ch2 HY.out cw).block _ (lt_of HBOX2.out) (fun x => x)).trans HBOX2.out) 2, cell_of (((ch2 HY.out cw).block _ (lt_of HBOX2.out) (fun x => x)).trans HBOX2.out) 3, cell_of (((ch2 HY.out cw).block _ (lt_of HBOX2.out) (fun x => x)).trans HBOX2.out) 4, cell_of (((ch2 HY.out cw).block _ (lt_of HBOX2.out) (fun x => x)).trans HBOX2.out) 5, cell_of (((ch2 HY.out cw).block _ (lt_of HBOX2.out) (fun x => x)).trans HBOX2.out) 6, cell_of (((ch2 HY.out cw).block _ (lt_of HBOX2.out) (fun x => x)).trans HBOX2.out) 7, cell_of (((ch2 HY.out cw).block _ (lt_of HBOX2.out) (fun x => x)).trans HBOX2.out) 8, cell_of (((ch2 HY.out cw).block _ (lt_of HBOX2.out) (fun x => x)).trans HBOX2.out) 9, cell_of (((ch2 HY.out cw).block _ (lt_of HBOX2.out) (fun x => x)).trans HBOX2.out) 10, cell_of (((ch2 HY.out cw).block _ (lt_of HBOX2.out) (fun x => x)).trans HBOX2.out) 11, cell_of (((ch2 HY.out cw).block _ (lt_of HBOX2.out) (fun x => x)).trans HBOX2.out) 19⟩
    have K1 : ∀ w, Chg (fun _ => False) y w → Hid (Calls Tryz.prog 18 #[.pointer none, .agg #[.int .u8 kd, .int .u64 (k : Int), .int .u64 (v : Int), .int .u64 (od : Int), .int .u64 (hk : Int), .bool r5, .int .i64 r6, .int .i64 r7, .slice kp ks.length kc, .int .u64 (lo : Int), .int .u64 (hi : Int)], .int .u64 (hn : Int)] w fun e w' => e = .returned (.agg #[.int .i64 1, .bool false, .int .u64 0, .bool false, .int .u64 0, .slice none 0 0, .int .u64 0]) ∧ Chg (fun _ => False) y w') := fun w cw => (nil_rdo _ _ w).mono (by rintro e w' ⟨rfl, c⟩; exact ⟨rfl, ch2 cw c⟩)
    have K2 : ∀ w, Chg (fun _ => False) y w → Hid (Calls Tryz.prog 17 #[.agg #[.int .i64 1, .bool false, .int .u64 0, .bool false, .int .u64 0, .slice none 0 0, .int .u64 0], .agg #[.int .i64 1, .bool false, .int .u64 0, .bool false, .int .u64 0, .slice none 0 0, .int .u64 0]] w fun e w' => e = .returned (.bool true) ∧ Chg (fun _ => False) y w') := fun w cw => (same_ans (er := 1) (fo := false) (dn := false) (va := 0) (ah := 0) (co := 0) (l := []) (pa := none) (pb := none) (ca := 0) (cb := 0) (W := w) (.inl rfl) (.inl rfl) (by simp)).mono (by rintro e w' ⟨rfl, c⟩; exact ⟨rfl, ch2 cw c⟩)
    have K4 : ∀ w, Chg (fun _ => False) y w → Hid (Calls Tryz.prog 19 #[.slice (some ⟨g, 0, none⟩) 1 10, .slice (some ⟨w.heap.size, 0, none⟩) 1 1] (w.alloc (.cells #[.int .u8 kd, .int .u64 (k : Int), .int .u64 (v : Int), .int .u64 (od : Int), .int .u64 (hk : Int), .bool r5, .int .i64 r6, .int .i64 r7, .slice kp ks.length kc, .int .u64 (lo : Int), .int .u64 (hi : Int)] 36)) fun e w' => e = .returned (.bool true) ∧ Chg (fun _ => False) y w') := fun w cw => by
      have cq := cw.alloc (.cells #[.int .u8 kd, .int .u64 (k : Int), .int .u64 (v : Int), .int .u64 (od : Int), .int .u64 (hk : Int), .bool r5, .int .i64 r6, .int .i64 r7, .slice kp ks.length kc, .int .u64 (lo : Int), .int .u64 (hi : Int)] 36)
      have cr := ch2 HY.out cq
      refine (kept_op (kp := kp) (kc := kc) HWF.out.1 HWF.out.2 (fun j u hj => cell_chg cr (HGC.out j u hj) (fun x => x)) (fun j u hj => (cell_of (heap_alloc_new w (.cells #[.int .u8 kd, .int .u64 (k : Int), .int .u64 (v : Int), .int .u64 (od : Int), .int .u64 (hk : Int), .bool r5, .int .i64 r6, .int .i64 r7, .slice kp ks.length kc, .int .u64 (lo : Int), .int .u64 (hi : Int)] 36)) j).trans (by simpa using hj)) (fun j hj => cell_chg cr (HGM.out j hj) (fun x => x)) (HGK.out.1.chg cr (fun x => x)) (Nat.lt_of_lt_of_le HGK.out.2 cr.size) (HIN0.out.1.chg (ch2 HC2.out cr) (fun _ _ _ x => x)) hn1).mono ?_
      rintro e w' ⟨rfl, c⟩
      exact ⟨rfl, ch2 cq c⟩
    have Cy : Chg (fun _ => False) y y := Chg.refl _ _
    have Cyd : Chg (fun _ => False) y y.drew := Cy.drew
    go_upto_region 7 with fail
    go_region_held3 (fun w' => w'.cell? ⟨gT, 0, none⟩ = some (.int .i64 1) ∧ w'.cell? ⟨gT, 1, none⟩ = some (.bool false) ∧ w'.cell? ⟨gT, 2, none⟩ = some (.int .u64 0) ∧ w'.cell? ⟨gT, 3, none⟩ = some (.bool false) ∧ w'.cell? ⟨gT, 4, none⟩ = some (.int .u64 0) ∧ w'.cell? ⟨gT, 5, none⟩ = some (.slice none 0 0) ∧ w'.cell? ⟨gT, 6, none⟩ = some (.int .u64 0) ∧ w'.cell? ⟨b, 1, none⟩ = some (.pointer none) ∧ w'.cell? ⟨W.heap.size, 1, none⟩ = some (.int .u8 kd) ∧ w'.cell? ⟨W.heap.size, 2, none⟩ = some (.int .u64 (k : Int)) ∧ w'.cell? ⟨W.heap.size, 3, none⟩ = some (.int .u64 (v : Int)) ∧ w'.cell? ⟨W.heap.size, 4, none⟩ = some (.int .u64 (od : Int)) ∧ w'.cell? ⟨W.heap.size, 5, none⟩ = some (.int .u64 (hk : Int)) ∧ w'.cell? ⟨W.heap.size, 6, none⟩ = some (.bool r5) ∧ w'.cell? ⟨W.heap.size, 7, none⟩ = some (.int .i64 r6) ∧ w'.cell? ⟨W.heap.size, 8, none⟩ = some (.int .i64 r7) ∧ w'.cell? ⟨W.heap.size, 9, none⟩ = some (.slice kp ks.length kc) ∧ w'.cell? ⟨W.heap.size, 10, none⟩ = some (.int .u64 (lo : Int)) ∧ w'.cell? ⟨W.heap.size, 11, none⟩ = some (.int .u64 (hi : Int)) ∧ w'.cell? ⟨W.heap.size, 19, none⟩ = some (.int .u64 (hn : Int))) (first | exact (hS7 _ (by assumption)).out)
      (first | (go_at_call 18; refine (K1 _ (by assumption)).out.mono ?_; rintro e x1 ⟨rfl, hx1⟩) | (go_at_call 17; refine (K2 _ (by assumption)).out.mono ?_; rintro e x2 ⟨rfl, hx2⟩))
    all_goals (
      have t5 : x2.cell? ⟨gT, 5, none⟩ = some (.slice none 0 0) := cell_of ((hx2.block _ (lt_of HT.out) (fun x => x)).trans HT.out) 5
      have o0 : x2.cell? ⟨W.heap.size, 1, none⟩ = some (.int .u8 kd) := cell_of (((ch2 HY.out hx2).block _ (lt_of HBOX2.out) (fun x => x)).trans HBOX2.out) 1
      have o1 : x2.cell? ⟨W.heap.size, 2, none⟩ = some (.int .u64 (k : Int)) := cell_of (((ch2 HY.out hx2).block _ (lt_of HBOX2.out) (fun x => x)).trans HBOX2.out) 2
      have o2 : x2.cell? ⟨W.heap.size, 3, none⟩ = some (.int .u64 (v : Int)) := cell_of (((ch2 HY.out hx2).block _ (lt_of HBOX2.out) (fun x => x)).trans HBOX2.out) 3
      have o3 : x2.cell? ⟨W.heap.size, 4, none⟩ = some (.int .u64 (od : Int)) := cell_of (((ch2 HY.out hx2).block _ (lt_of HBOX2.out) (fun x => x)).trans HBOX2.out) 4
      have o4 : x2.cell? ⟨W.heap.size, 5, none⟩ = some (.int .u64 (hk : Int)) := cell_of (((ch2 HY.out hx2).block _ (lt_of HBOX2.out) (fun x => x)).trans HBOX2.out) 5
      have o5 : x2.cell? ⟨W.heap.size, 6, none⟩ = some (.bool r5) := cell_of (((ch2 HY.out hx2).block _ (lt_of HBOX2.out) (fun x => x)).trans HBOX2.out) 6
      have o6 : x2.cell? ⟨W.heap.size, 7, none⟩ = some (.int .i64 r6) := cell_of (((ch2 HY.out hx2).block _ (lt_of HBOX2.out) (fun x => x)).trans HBOX2.out) 7
      have o7 : x2.cell? ⟨W.heap.size, 8, none⟩ = some (.int .i64 r7) := cell_of (((ch2 HY.out hx2).block _ (lt_of HBOX2.out) (fun x => x)).trans HBOX2.out) 8
      have o8 : x2.cell? ⟨W.heap.size, 9, none⟩ = some (.slice kp ks.length kc) := cell_of (((ch2 HY.out hx2).block _ (lt_of HBOX2.out) (fun x => x)).trans HBOX2.out) 9
      have o9 : x2.cell? ⟨W.heap.size, 10, none⟩ = some (.int .u64 (lo : Int)) := cell_of (((ch2 HY.out hx2).block _ (lt_of HBOX2.out) (fun x => x)).trans HBOX2.out) 10
      have o10 : x2.cell? ⟨W.heap.size, 11, none⟩ = some (.int .u64 (hi : Int)) := cell_of (((ch2 HY.out hx2).block _ (lt_of HBOX2.out) (fun x => x)).trans HBOX2.out) 11
      go_wp2_with fail
      refine wp_loop_rounds 1 ?_
      rw [rounds_succ]
      go_wp2_with fail
      refine (K4 x2 hx2).out.mono ?_
      rintro e x4 ⟨rfl, hx4⟩
      have hx5 := ch2 (ch2 HC2.out HY.out) hx4
      go_wp2_with fail
      go_ret
      exact ⟨by simp, hx5⟩)
  · skip
    go_simp
    try go_wp2_with fail
    refine hKK.out _ _ ?_ (fun hHeld => ?_)
    · exact C2d.alloc _
    clear hKK KK
    (try simp only [Act.put]); (try simp only [List.setIfInBounds_toArray]); (repeat (first | simp only [List.set_cons_succ] | simp only [List.set_cons_zero]))
    refine wpAnyH_ready (rs := [9]) (by kernel_rfl) (by simp) ?_
    refine AllReadyH.cons rfl (fun KK hKK => ?_) AllReadyH.nil
    go_simp
    go_at_call 10
    refine (nil_do _ _ _).mono ?_
    rintro e z1 ⟨rfl, hz1⟩
    have hz2 := ch2 (C2d.alloc (.cells #[.int .i64 0, .bool false, .int .u64 0, .bool false, .int .u64 0, .slice none 0 0, .int .u64 0] 40)) hz1
    try go_wp2_with fail
    refine hKK.out _ _ ?_ (fun hHeld => ?_)
    · exact hz2
    clear hKK KK
    (try simp only [Act.put]); (try simp only [List.setIfInBounds_toArray]); (repeat (first | simp only [List.set_cons_succ] | simp only [List.set_cons_zero]))
    have hT : z1.heap[w2.heap.size]? = some (.cells #[.int .i64 0, .bool false, .int .u64 0, .bool false, .int .u64 0, .slice none 0 0, .int .u64 0] 40 (0, 0)) := (hz1.block _ (by simp) (fun x => x)).trans (heap_alloc_new w2.drew _)
    obtain ⟨gT, hgT⟩ : ∃ gT, gT = w2.heap.size := ⟨_, rfl⟩
    have s0 : (z1).cell? ⟨w2.heap.size, 0, none⟩ = some (.int .i64 0) := cell_of hT 0
    have f0 := free_of hT 0
    have h0 := bset hT 0 (.int .i64 1)
    have s1 : (z1.setCell ⟨w2.heap.size, 0, none⟩ (.int .i64 1)).cell? ⟨w2.heap.size, 1, none⟩ = some (.bool false) := cell_of h0 1
    have f1 := free_of h0 1
    have h1 := bset h0 1 (.bool false)
    have s2 : ((z1.setCell ⟨w2.heap.size, 0, none⟩ (.int .i64 1)).setCell ⟨w2.heap.size, 1, none⟩ (.bool false)).cell? ⟨w2.heap.size, 2, none⟩ = some (.int .u64 0) := cell_of h1 2
    have f2 := free_of h1 2
    have h2 := bset h1 2 (.int .u64 0)
    have s3 : (((z1.setCell ⟨w2.heap.size, 0, none⟩ (.int .i64 1)).setCell ⟨w2.heap.size, 1, none⟩ (.bool false)).setCell ⟨w2.heap.size, 2, none⟩ (.int .u64 0)).cell? ⟨w2.heap.size, 3, none⟩ = some (.bool false) := cell_of h2 3
    have f3 := free_of h2 3
    have h3 := bset h2 3 (.bool false)
    have s4 : ((((z1.setCell ⟨w2.heap.size, 0, none⟩ (.int .i64 1)).setCell ⟨w2.heap.size, 1, none⟩ (.bool false)).setCell ⟨w2.heap.size, 2, none⟩ (.int .u64 0)).setCell ⟨w2.heap.size, 3, none⟩ (.bool false)).cell? ⟨w2.heap.size, 4, none⟩ = some (.int .u64 0) := cell_of h3 4
    have f4 := free_of h3 4
    have h4 := bset h3 4 (.int .u64 0)
    have s5 : (((((z1.setCell ⟨w2.heap.size, 0, none⟩ (.int .i64 1)).setCell ⟨w2.heap.size, 1, none⟩ (.bool false)).setCell ⟨w2.heap.size, 2, none⟩ (.int .u64 0)).setCell ⟨w2.heap.size, 3, none⟩ (.bool false)).setCell ⟨w2.heap.size, 4, none⟩ (.int .u64 0)).cell? ⟨w2.heap.size, 5, none⟩ = some (.slice none 0 0) := cell_of h4 5
    have f5 := free_of h4 5
    have h5 := bset h4 5 (.slice none 0 0)
    have s6 : ((((((z1.setCell ⟨w2.heap.size, 0, none⟩ (.int .i64 1)).setCell ⟨w2.heap.size, 1, none⟩ (.bool false)).setCell ⟨w2.heap.size, 2, none⟩ (.int .u64 0)).setCell ⟨w2.heap.size, 3, none⟩ (.bool false)).setCell ⟨w2.heap.size, 4, none⟩ (.int .u64 0)).setCell ⟨w2.heap.size, 5, none⟩ (.slice none 0 0)).cell? ⟨w2.heap.size, 6, none⟩ = some (.int .u64 0) := cell_of h5 6
    have f6 := free_of h5 6
    have h6 := bset h5 6 (.int .u64 0)
    obtain ⟨y, hy⟩ : ∃ y, y = ((((((z1.setCell ⟨w2.heap.size, 0, none⟩ (.int .i64 1)).setCell ⟨w2.heap.size, 1, none⟩ (.bool false)).setCell ⟨w2.heap.size, 2, none⟩ (.int .u64 0)).setCell ⟨w2.heap.size, 3, none⟩ (.bool false)).setCell ⟨w2.heap.size, 4, none⟩ (.int .u64 0)).setCell ⟨w2.heap.size, 5, none⟩ (.slice none 0 0)).setCell ⟨w2.heap.size, 6, none⟩ (.int .u64 0) := ⟨_, rfl⟩
    have HT : Hid (y.heap[gT]? = some (.cells #[.int .i64 1, .bool false, .int .u64 0, .bool false, .int .u64 0, .slice none 0 0, .int .u64 0] 40 (0, 0))) := by rw [hy, hgT]; exact h6
    have HY : Hid (Chg (fun _ => False) w2 y) := by
      rw [hy]
      have q : Chg (fun i => i = w2.heap.size) (z1) (((((((z1.setCell ⟨w2.heap.size, 0, none⟩ (.int .i64 1)).setCell ⟨w2.heap.size, 1, none⟩ (.bool false)).setCell ⟨w2.heap.size, 2, none⟩ (.int .u64 0)).setCell ⟨w2.heap.size, 3, none⟩ (.bool false)).setCell ⟨w2.heap.size, 4, none⟩ (.int .u64 0)).setCell ⟨w2.heap.size, 5, none⟩ (.slice none 0 0)).setCell ⟨w2.heap.size, 6, none⟩ (.int .u64 0)) := by
        exact ((((((setP _).trans (setP _) (fun _ _ x => x) (fun _ _ x => x)).trans (setP _) (fun _ _ x => x) (fun _ _ x => x)).trans (setP _) (fun _ _ x => x) (fun _ _ x => x)).trans (setP _) (fun _ _ x => x) (fun _ _ x => x)).trans (setP _) (fun _ _ x => x) (fun _ _ x => x)).trans (setP _) (fun _ _ x => x) (fun _ _ x => x)
      exact (hz2).trans q (fun _ _ x => x) (fun i hi e => by omega)
    refine wpAnyH_ready (rs := [11]) (by kernel_rfl) (by simp) ?_
    refine AllReadyH.cons rfl (fun KK hKK => ?_) AllReadyH.nil
    go_simp
    try go_wp2_with fail
    rw [← hy]
    rw [← hgT]
    clear hy hgT hz1 hz2 hT s0 f0 h0 s1 f1 h1 s2 f2 h2 s3 f3 h3 s4 f4 h4 s5 f5 h5 s6 f6 h6
    refine hKK.out _ _ ?_ (fun hHeld => ?_)
    · exact HY.out
    clear hKK KK
    (try simp only [Act.put]); (try simp only [List.setIfInBounds_toArray]); (repeat (first | simp only [List.set_cons_succ] | simp only [List.set_cons_zero]))
    refine wpAnyH_done (by kernel_rfl) ?_ _
    go_simp
    try go_wp2_with fail
    have hS7 : ∀ w', Chg (fun _ => False) y w' → Hid (w'.cell? ⟨gT, 0, none⟩ = some (.int .i64 1) ∧ w'.cell? ⟨gT, 1, none⟩ = some (.bool false) ∧ w'.cell? ⟨gT, 2, none⟩ = some (.int .u64 0) ∧ w'.cell? ⟨gT, 3, none⟩ = some (.bool false) ∧ w'.cell? ⟨gT, 4, none⟩ = some (.int .u64 0) ∧ w'.cell? ⟨gT, 5, none⟩ = some (.slice none 0 0) ∧ w'.cell? ⟨gT, 6, none⟩ = some (.int .u64 0) ∧ w'.cell? ⟨b, 1, none⟩ = some (.pointer none) ∧ w'.cell? ⟨W.heap.size, 1, none⟩ = some (.int .u8 kd) ∧ w'.cell? ⟨W.heap.size, 2, none⟩ = some (.int .u64 (k : Int)) ∧ w'.cell? ⟨W.heap.size, 3, none⟩ = some (.int .u64 (v : Int)) ∧ w'.cell? ⟨W.heap.size, 4, none⟩ = some (.int .u64 (od : Int)) ∧ w'.cell? ⟨W.heap.size, 5, none⟩ = some (.int .u64 (hk : Int)) ∧ w'.cell? ⟨W.heap.size, 6, none⟩ = some (.bool r5) ∧ w'.cell? ⟨W.heap.size, 7, none⟩ = some (.int .i64 r6) ∧ w'.cell? ⟨W.heap.size, 8, none⟩ = some (.int .i64 r7) ∧ w'.cell? ⟨W.heap.size, 9, none⟩ = some (.slice kp ks.length kc) ∧ w'.cell? ⟨W.heap.size, 10, none⟩ = some (.int .u64 (lo : Int)) ∧ w'.cell? ⟨W.heap.size, 11, none⟩ = some (.int .u64 (hi : Int)) ∧ w'.cell? ⟨W.heap.size, 19, none⟩ = some (.int .u64 (hn : Int))) := fun w' cw => by
      have c02 := ch2 (ch2 HC2.out HY.out) cw
      exact ⟨cell_of ((cw.block _ (lt_of HT.out) (fun x => x)).trans HT.out) 0, cell_of ((cw.block _ (lt_of HT.out) (fun x => x)).trans HT.out) 1, cell_of ((cw.block _ (lt_of HT.out) (fun x => x)).trans HT.out) 2, cell_of ((cw.block _ (lt_of HT.out) (fun x => x)).trans HT.out) 3, cell_of ((cw.block _ (lt_of HT.out) (fun x => x)).trans HT.out) 4, cell_of ((cw.block _ (lt_of HT.out) (fun x => x)).trans HT.out) 5, cell_of ((cw.block _ (lt_of HT.out) (fun x => x)).trans HT.out) 6, cell_of ((c02.block _ (lt_of HIN0.out.2.2) (fun x => x)).trans HIN0.out.2.2) 1, cell_of (((ch2 HY.out cw).block _ (lt_of HBOX2.out) (fun x => x)).trans HBOX2.out) 1, cell_of (((ch2 HY.out cw).block _ (lt_of HBOX2.out) (fun x => x)).trans HBOX2.out) 2, cell_of (((ch2 HY.out cw).block _ (lt_of HBOX2.out) (fun x => x)).trans HBOX2.out) 3, cell_of (((ch2 HY.out cw).block _ (lt_of HBOX2.out) (fun x => x)).trans HBOX2.out) 4, cell_of (((ch2 HY.out cw).block _ (lt_of HBOX2.out) (fun x => x)).trans HBOX2.out) 5, cell_of (((ch2 HY.out cw).block _ (lt_of HBOX2.out) (fun x => x)).trans HBOX2.out) 6, cell_of (((ch2 HY.out cw).block _ (lt_of HBOX2.out) (fun x => x)).trans HBOX2.out) 7, cell_of (((ch2 HY.out cw).block _ (lt_of HBOX2.out) (fun x => x)).trans HBOX2.out) 8, cell_of (((ch2 HY.out cw).block _ (lt_of HBOX2.out) (fun x => x)).trans HBOX2.out) 9, cell_of (((ch2 HY.out cw).block _ (lt_of HBOX2.out) (fun x => x)).trans HBOX2.out) 10, cell_of (((ch2 HY.out cw).block _ (lt_of HBOX2.out) (fun x => x)).trans HBOX2.out) 11, cell_of (((ch2 HY.out cw).block _ (lt_of HBOX2.out) (fun x => x)).trans HBOX2.out) 19⟩
    have K1 : ∀ w, Chg (fun _ => False) y w → Hid (Calls Tryz.prog 18 #[.pointer none, .agg #[.int .u8 kd, .int .u64 (k : Int), .int .u64 (v : Int), .int .u64 (od : Int), .int .u64 (hk : Int), .bool r5, .int .i64 r6, .int .i64 r7, .slice kp ks.length kc, .int .u64 (lo : Int), .int .u64 (hi : Int)], .int .u64 (hn : Int)] w fun e w' => e = .returned (.agg #[.int .i64 1, .bool false, .int .u64 0, .bool false, .int .u64 0, .slice none 0 0, .int .u64 0]) ∧ Chg (fun _ => False) y w') := fun w cw => (nil_rdo _ _ w).mono (by rintro e w' ⟨rfl, c⟩; exact ⟨rfl, ch2 cw c⟩)
    have K2 : ∀ w, Chg (fun _ => False) y w → Hid (Calls Tryz.prog 17 #[.agg #[.int .i64 1, .bool false, .int .u64 0, .bool false, .int .u64 0, .slice none 0 0, .int .u64 0], .agg #[.int .i64 1, .bool false, .int .u64 0, .bool false, .int .u64 0, .slice none 0 0, .int .u64 0]] w fun e w' => e = .returned (.bool true) ∧ Chg (fun _ => False) y w') := fun w cw => (same_ans (er := 1) (fo := false) (dn := false) (va := 0) (ah := 0) (co := 0) (l := []) (pa := none) (pb := none) (ca := 0) (cb := 0) (W := w) (.inl rfl) (.inl rfl) (by simp)).mono (by rintro e w' ⟨rfl, c⟩; exact ⟨rfl, ch2 cw c⟩)
    have K4 : ∀ w, Chg (fun _ => False) y w → Hid (Calls Tryz.prog 19 #[.slice (some ⟨g, 0, none⟩) 1 10, .slice (some ⟨w.heap.size, 0, none⟩) 1 1] (w.alloc (.cells #[.int .u8 kd, .int .u64 (k : Int), .int .u64 (v : Int), .int .u64 (od : Int), .int .u64 (hk : Int), .bool r5, .int .i64 r6, .int .i64 r7, .slice kp ks.length kc, .int .u64 (lo : Int), .int .u64 (hi : Int)] 36)) fun e w' => e = .returned (.bool true) ∧ Chg (fun _ => False) y w') := fun w cw => by
      have cq := cw.alloc (.cells #[.int .u8 kd, .int .u64 (k : Int), .int .u64 (v : Int), .int .u64 (od : Int), .int .u64 (hk : Int), .bool r5, .int .i64 r6, .int .i64 r7, .slice kp ks.length kc, .int .u64 (lo : Int), .int .u64 (hi : Int)] 36)
      have cr := ch2 HY.out cq
      refine (kept_op (kp := kp) (kc := kc) HWF.out.1 HWF.out.2 (fun j u hj => cell_chg cr (HGC.out j u hj) (fun x => x)) (fun j u hj => (cell_of (heap_alloc_new w (.cells #[.int .u8 kd, .int .u64 (k : Int), .int .u64 (v : Int), .int .u64 (od : Int), .int .u64 (hk : Int), .bool r5, .int .i64 r6, .int .i64 r7, .slice kp ks.length kc, .int .u64 (lo : Int), .int .u64 (hi : Int)] 36)) j).trans (by simpa using hj)) (fun j hj => cell_chg cr (HGM.out j hj) (fun x => x)) (HGK.out.1.chg cr (fun x => x)) (Nat.lt_of_lt_of_le HGK.out.2 cr.size) (HIN0.out.1.chg (ch2 HC2.out cr) (fun _ _ _ x => x)) hn1).mono ?_
      rintro e w' ⟨rfl, c⟩
      exact ⟨rfl, ch2 cq c⟩
    have Cy : Chg (fun _ => False) y y := Chg.refl _ _
    have Cyd : Chg (fun _ => False) y y.drew := Cy.drew
    go_upto_region 7 with fail
    go_region_held3 (fun w' => w'.cell? ⟨gT, 0, none⟩ = some (.int .i64 1) ∧ w'.cell? ⟨gT, 1, none⟩ = some (.bool false) ∧ w'.cell? ⟨gT, 2, none⟩ = some (.int .u64 0) ∧ w'.cell? ⟨gT, 3, none⟩ = some (.bool false) ∧ w'.cell? ⟨gT, 4, none⟩ = some (.int .u64 0) ∧ w'.cell? ⟨gT, 5, none⟩ = some (.slice none 0 0) ∧ w'.cell? ⟨gT, 6, none⟩ = some (.int .u64 0) ∧ w'.cell? ⟨b, 1, none⟩ = some (.pointer none) ∧ w'.cell? ⟨W.heap.size, 1, none⟩ = some (.int .u8 kd) ∧ w'.cell? ⟨W.heap.size, 2, none⟩ = some (.int .u64 (k : Int)) ∧ w'.cell? ⟨W.heap.size, 3, none⟩ = some (.int .u64 (v : Int)) ∧ w'.cell? ⟨W.heap.size, 4, none⟩ = some (.int .u64 (od : Int)) ∧ w'.cell? ⟨W.heap.size, 5, none⟩ = some (.int .u64 (hk : Int)) ∧ w'.cell? ⟨W.heap.size, 6, none⟩ = some (.bool r5) ∧ w'.cell? ⟨W.heap.size, 7, none⟩ = some (.int .i64 r6) ∧ w'.cell? ⟨W.heap.size, 8, none⟩ = some (.int .i64 r7) ∧ w'.cell? ⟨W.heap.size, 9, none⟩ = some (.slice kp ks.length kc) ∧ w'.cell? ⟨W.heap.size, 10, none⟩ = some (.int .u64 (lo : Int)) ∧ w'.cell? ⟨W.heap.size, 11, none⟩ = some (.int .u64 (hi : Int)) ∧ w'.cell? ⟨W.heap.size, 19, none⟩ = some (.int .u64 (hn : Int))) (first | exact (hS7 _ (by assumption)).out)
      (first | (go_at_call 18; refine (K1 _ (by assumption)).out.mono ?_; rintro e x1 ⟨rfl, hx1⟩) | (go_at_call 17; refine (K2 _ (by assumption)).out.mono ?_; rintro e x2 ⟨rfl, hx2⟩))
    all_goals (
      have t5 : x2.cell? ⟨gT, 5, none⟩ = some (.slice none 0 0) := cell_of ((hx2.block _ (lt_of HT.out) (fun x => x)).trans HT.out) 5
      have o0 : x2.cell? ⟨W.heap.size, 1, none⟩ = some (.int .u8 kd) := cell_of (((ch2 HY.out hx2).block _ (lt_of HBOX2.out) (fun x => x)).trans HBOX2.out) 1
      have o1 : x2.cell? ⟨W.heap.size, 2, none⟩ = some (.int .u64 (k : Int)) := cell_of (((ch2 HY.out hx2).block _ (lt_of HBOX2.out) (fun x => x)).trans HBOX2.out) 2
      have o2 : x2.cell? ⟨W.heap.size, 3, none⟩ = some (.int .u64 (v : Int)) := cell_of (((ch2 HY.out hx2).block _ (lt_of HBOX2.out) (fun x => x)).trans HBOX2.out) 3
      have o3 : x2.cell? ⟨W.heap.size, 4, none⟩ = some (.int .u64 (od : Int)) := cell_of (((ch2 HY.out hx2).block _ (lt_of HBOX2.out) (fun x => x)).trans HBOX2.out) 4
      have o4 : x2.cell? ⟨W.heap.size, 5, none⟩ = some (.int .u64 (hk : Int)) := cell_of (((ch2 HY.out hx2).block _ (lt_of HBOX2.out) (fun x => x)).trans HBOX2.out) 5
      have o5 : x2.cell? ⟨W.heap.size, 6, none⟩ = some (.bool r5) := cell_of (((ch2 HY.out hx2).block _ (lt_of HBOX2.out) (fun x => x)).trans HBOX2.out) 6
      have o6 : x2.cell? ⟨W.heap.size, 7, none⟩ = some (.int .i64 r6) := cell_of (((ch2 HY.out hx2).block _ (lt_of HBOX2.out) (fun x => x)).trans HBOX2.out) 7
      have o7 : x2.cell? ⟨W.heap.size, 8, none⟩ = some (.int .i64 r7) := cell_of (((ch2 HY.out hx2).block _ (lt_of HBOX2.out) (fun x => x)).trans HBOX2.out) 8
      have o8 : x2.cell? ⟨W.heap.size, 9, none⟩ = some (.slice kp ks.length kc) := cell_of (((ch2 HY.out hx2).block _ (lt_of HBOX2.out) (fun x => x)).trans HBOX2.out) 9
      have o9 : x2.cell? ⟨W.heap.size, 10, none⟩ = some (.int .u64 (lo : Int)) := cell_of (((ch2 HY.out hx2).block _ (lt_of HBOX2.out) (fun x => x)).trans HBOX2.out) 10
      have o10 : x2.cell? ⟨W.heap.size, 11, none⟩ = some (.int .u64 (hi : Int)) := cell_of (((ch2 HY.out hx2).block _ (lt_of HBOX2.out) (fun x => x)).trans HBOX2.out) 11
      go_wp2_with fail
      refine wp_loop_rounds 1 ?_
      rw [rounds_succ]
      go_wp2_with fail
      refine (K4 x2 hx2).out.mono ?_
      rintro e x4 ⟨rfl, hx4⟩
      have hx5 := ch2 (ch2 HC2.out HY.out) hx4
      go_wp2_with fail
      go_ret
      exact ⟨by simp, hx5⟩)
end Go.Proofs.YtimlaamhjbhkmaaGreat
