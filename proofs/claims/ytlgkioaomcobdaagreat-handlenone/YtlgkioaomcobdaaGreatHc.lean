/- The handles that hold of two slots the first of which holds. -/
import Derived.Test.YtlgkioaomcobdaaGreatHb
import Derived.LoopN
namespace Go.Proofs.YtlgkioaomcobdaaGreat
open Go.RowKit Go.Shelf
set_option linter.unusedVariables false

theorem make_2 (u : World) : (Instr.makeSlice 72 (.int .i64 2) (.int .i64 2)).run Tryz.prog u = .ok (.slice (some ⟨u.heap.size, 0, none⟩) 2 2) (u.alloc (.cells #[.int .u8 0, .int .u64 0, .int .u64 0, .int .u8 0, .int .u64 0, .int .u64 0] 46)) := by kernel_rfl
def slots2 : List Value := [.int .u64 100, .int .u64 1, .int .i64 2, .int .u64 50]
def rowL (a b c d e f : Nat) : List Value := [.int .u8 (a : Int), .int .u64 (b : Int), .int .u64 (c : Int), .int .u8 (d : Int), .int .u64 (e : Int), .int .u64 (f : Int)]
theorem Chg.pf2 {W w w' : World} {p q : Nat} (h : Chg (fun k => k = p ∨ k = q) W w) (k : Chg (fun _ => False) w w') : Chg (fun k => k = p ∨ k = q) W w' := h.trans k (fun _ _ x => x) (fun _ _ x => x.elim)
set_option maxRecDepth 100000 in
set_option maxHeartbeats 4000000 in
theorem slots_2 {W : World} {m b : Nat} {F : Nat → Prop} {l : List Acc} {cs : List Nat} (hm : IsMem W m b) (hB : Bank W F b 200 3 cs l) (h1 : cellN cs 1 = 4194307) (h2 : cellN cs 2 = 0) :
    Calls Tryz.prog 26 #[.pointer (some ⟨m, 0, none⟩), .agg #[.int .u64 100, .int .u64 1, .int .i64 2, .int .u64 50]] W fun e W' => ∃ g, e = .returned (.slice (some ⟨g, 0, none⟩) 2 2) ∧ Blk W' g 46 (rowL 3 0 1 0 0 0) ∧ Chg (fun _ => False) W W' ∧ W.heap.size ≤ g := by
  obtain ⟨w0, hw0⟩ : ∃ w0, w0 = W.alloc (.cells #[.int .u64 100, .int .u64 1, .int .i64 2, .int .u64 50] 24) := ⟨_, rfl⟩
  have B0 : Blk w0 W.heap.size 24 slots2 := by rw [hw0]; exact heap_alloc_new _ _
  have HC0 : Hid (Chg (fun _ => False) W w0) := by rw [hw0]; exact (Chg.refl _ _).alloc _
  have HB0 := keepH B0
  have HM := keepH hm
  have HB := keepH hB
  have HH : Hid (cellN cs 1 = 4194307 ∧ cellN cs 2 = 0) := ⟨h1, h2⟩
  have hmk := make_2
  have a0 : w0.cell? ⟨W.heap.size, 0, none⟩ = some (.int .u64 100) := B0.cell 0
  have a1 : w0.cell? ⟨W.heap.size, 1, none⟩ = some (.int .u64 1) := B0.cell 1
  have a2 : w0.cell? ⟨W.heap.size, 2, none⟩ = some (.int .i64 2) := B0.cell 2
  have a3 : w0.cell? ⟨W.heap.size, 3, none⟩ = some (.int .u64 50) := B0.cell 3
  clear hm hB h1 h2 B0
  go_enter Tryz.func26, Tryz.ntmps26
  go_upto_region 1 with fail
  rw [← hw0]
  clear hw0
  obtain ⟨sb, hsb⟩ : ∃ sb, sb = W.heap.size := ⟨_, rfl⟩
  rw [← hsb] at a0 a1 a2 a3 HB0 ⊢
  have HSB := keepH hsb
  clear hsb
  go_wp2_with fail
  refine (a_bounded 100 1 2 50 (by omega) _).mono ?_
  rintro e w1 ⟨rfl, C1⟩
  have B1 := HB0.out.chg C1 (fun x => x)
  have HC1 := keepH (HC0.out.f C1)
  have f0 := B1.free 0
  have f1 := (B1.set 0 (.int .u64 100)).free 1
  have f2 := ((B1.set 0 (.int .u64 100)).set 1 (.int .u64 1)).free 2
  have f3 := (((B1.set 0 (.int .u64 100)).set 1 (.int .u64 1)).set 2 (.int .i64 2)).free 3
  have j1 := B1.free 1
  have j2 := B1.free 2
  have j3 := B1.free 3
  have b0 : w1.cell? ⟨sb, 0, none⟩ = some (.int .u64 100) := B1.cell 0
  have b1 : w1.cell? ⟨sb, 1, none⟩ = some (.int .u64 1) := B1.cell 1
  have b2 : w1.cell? ⟨sb, 2, none⟩ = some (.int .i64 2) := B1.cell 2
  have b3 : w1.cell? ⟨sb, 3, none⟩ = some (.int .u64 50) := B1.cell 3
  obtain ⟨w2, hw2⟩ : ∃ w2, w2 = (((w1.setCell ⟨sb, 0, none⟩ (.int .u64 100)).setCell ⟨sb, 1, none⟩ (.int .u64 1)).setCell ⟨sb, 2, none⟩ (.int .i64 2)).setCell ⟨sb, 3, none⟩ (.int .u64 50) := ⟨_, rfl⟩
  have B2 : Blk w2 sb 24 slots2 := by rw [hw2]; exact (((B1.set 0 (.int .u64 100)).set 1 (.int .u64 1)).set 2 (.int .i64 2)).set 3 (.int .u64 50)
  have C2 : Chg (fun k => k = sb) w1 w2 := by rw [hw2]; exact (((setP _).p (setP _)).p (setP _)).p (setP _)
  have HC2 : Hid (Chg (fun k => k = sb) W w2) := HC1.out.fp C2
  have HB2 := keepH B2
  clear C1 C2 B1 B2 HB0 HC0 HC1 a0 a1 a2 a3
  go_upto_region 4 with fail
  rw [← hw2]
  clear hw2 f0 f1 f2 f3 j1 j2 j3 b0 b1 b2 b3
  have a2 : w2.cell? ⟨sb, 2, none⟩ = some (.int .i64 2) := HB2.out.cell 2
  obtain ⟨w3, hw3⟩ : ∃ w3, w3 = w2.alloc (.cells #[.int .u8 0, .int .u64 0, .int .u64 0, .int .u8 0, .int .u64 0, .int .u64 0] 46) := ⟨_, rfl⟩
  have R3 : Blk w3 w2.heap.size 46 (rowL 0 0 0 0 0 0) := by rw [hw3]; exact heap_alloc_new _ _
  have S3 : Blk w3 sb 24 slots2 := by rw [hw3]; exact alloc_of HB2.out _
  have HRB : Hid (sb < w2.heap.size) := lt_of HB2.out
  have C3 : Chg (fun _ => False) w2 w3 := by rw [hw3]; exact (Chg.refl _ _).alloc _
  go_upto_region 5 with fail
  rw [← hw3]
  clear hw3 a2 hmk
  obtain ⟨rb, hrb⟩ : ∃ rb, rb = w2.heap.size := ⟨_, rfl⟩
  rw [← hrb] at R3 HRB ⊢
  clear hrb
  have HR0 := keepH R3
  have HS0 := keepH S3
  have HCW0 : Hid (Chg (fun k => k = sb ∨ k = rb) W w3) := (HC2.out.trans C3 (fun _ _ x => .inl x) (fun _ _ x => x.elim))
  clear R3 S3 C3 HC2 HB2
  go_wp2_with fail
  refine wp_loop_rounds 3 ?_
  rw [rounds_succ]
  have c0 : w3.cell? ⟨sb, 0, none⟩ = some (.int .u64 100) := HS0.out.cell 0
  have c1 : w3.cell? ⟨sb, 1, none⟩ = some (.int .u64 1) := HS0.out.cell 1
  have c2 : w3.cell? ⟨sb, 2, none⟩ = some (.int .i64 2) := HS0.out.cell 2
  have c3 : w3.cell? ⟨sb, 3, none⟩ = some (.int .u64 50) := HS0.out.cell 3
  go_wp2_with fail
  refine (a_cellof 100 1 0 50 2 _ (by omega)).mono ?_
  rintro e u0 ⟨rfl, CU0⟩
  have sm0 : sumN 1 0 = 1 := by decide
  rw [sm0]
  have HCU0 := keepH (HCW0.out.pf2 CU0)
  have HSU0 := keepH (HS0.out.chg CU0 (fun x => x))
  have HRU0 := keepH (HR0.out.chg CU0 (fun x => x))
  have HMB0 : Hid (IsMem u0 m b ∧ Bank u0 F b 200 3 cs l) := by
    have z := HSB.out
    exact ⟨HM.out.chg (HCU0.out) (fun e => by have := HM.out.lt; have := HRB.out; omega), HB.out.chg (HCU0.out) (fun k hk e => by have := HB.out.lt' _ hk; have := HRB.out; omega)⟩
  clear CU0 sm0 c0 c1 c2 c3 HCW0 HS0 HR0
  go_wp2_with fail
  refine (m_peek m b 200 3 1 F cs l _ HMB0.out.1 HMB0.out.2 (by omega)).mono ?_
  rintro e u0' ⟨rfl, rfl⟩
  rw [HH.out.1]
  go_wp2_with fail
  refine (w_unpack 4194307 3 0 1 (by decide) (by decide) (by decide) (by decide) _).mono ?_
  rintro e v0 ⟨rfl, CV0⟩
  have HCV0 := keepH (HCU0.out.pf2 CV0)
  have HSV0 := keepH (HSU0.out.chg CV0 (fun x => x))
  have RV0 := HRU0.out.chg CV0 (fun x => x)
  have o0 : v0.cell? ⟨rb, 0, none⟩ = some (.int .u8 0) := RV0.cell 0
  have o1 : v0.cell? ⟨rb, 1, none⟩ = some (.int .u64 0) := RV0.cell 1
  have o2 : v0.cell? ⟨rb, 2, none⟩ = some (.int .u64 0) := RV0.cell 2
  have y0 := RV0.free 0
  have y1 := (RV0.set 0 (.int .u8 3)).free 1
  have y2 := ((RV0.set 0 (.int .u8 3)).set 1 (.int .u64 0)).free 2
  have y1' := RV0.free 1
  have y2' := RV0.free 2
  obtain ⟨x0, hx0⟩ : ∃ x0, x0 = ((v0.setCell ⟨rb, 0, none⟩ (.int .u8 3)).setCell ⟨rb, 1, none⟩ (.int .u64 0)).setCell ⟨rb, 2, none⟩ (.int .u64 1) := ⟨_, rfl⟩
  have RX0 : Blk x0 rb 46 (rowL 3 0 1 0 0 0) := by rw [hx0]; exact ((RV0.set 0 (.int .u8 3)).set 1 (.int .u64 0)).set 2 (.int .u64 1)
  have CX0 : Chg (fun k => k = rb) v0 x0 := by rw [hx0]; exact ((setP _).p (setP _)).p (setP _)
  have HR1 := keepH RX0
  have HS1 := keepH (HSV0.out.chg CX0 (fun e => by have := HRB.out; omega))
  have HCW1 : Hid (Chg (fun k => k = sb ∨ k = rb) W x0) := HCV0.out.trans CX0 (fun _ _ x => x) (fun _ _ x => .inr x)
  clear RV0 RX0 CX0 CV0 HCU0 HSU0 HRU0 HMB0 HCV0 HSV0
  go_wp2_with fail
  rw [← hx0]
  clear hx0 o0 o1 o2 y0 y1 y2 y1' y2'
  rw [rounds_succ]
  have c0 : x0.cell? ⟨sb, 0, none⟩ = some (.int .u64 100) := HS1.out.cell 0
  have c1 : x0.cell? ⟨sb, 1, none⟩ = some (.int .u64 1) := HS1.out.cell 1
  have c2 : x0.cell? ⟨sb, 2, none⟩ = some (.int .i64 2) := HS1.out.cell 2
  have c3 : x0.cell? ⟨sb, 3, none⟩ = some (.int .u64 50) := HS1.out.cell 3
  go_wp2_with fail
  refine (a_cellof 100 1 1 50 2 _ (by omega)).mono ?_
  rintro e u1 ⟨rfl, CU1⟩
  have sm1 : sumN 1 1 = 2 := by decide
  rw [sm1]
  have HCU1 := keepH (HCW1.out.pf2 CU1)
  have HSU1 := keepH (HS1.out.chg CU1 (fun x => x))
  have HRU1 := keepH (HR1.out.chg CU1 (fun x => x))
  have HMB1 : Hid (IsMem u1 m b ∧ Bank u1 F b 200 3 cs l) := by
    have z := HSB.out
    exact ⟨HM.out.chg (HCU1.out) (fun e => by have := HM.out.lt; have := HRB.out; omega), HB.out.chg (HCU1.out) (fun k hk e => by have := HB.out.lt' _ hk; have := HRB.out; omega)⟩
  clear CU1 sm1 c0 c1 c2 c3 HCW1 HS1 HR1
  go_wp2_with fail
  refine (m_peek m b 200 3 2 F cs l _ HMB1.out.1 HMB1.out.2 (by omega)).mono ?_
  rintro e u1' ⟨rfl, rfl⟩
  rw [HH.out.2]
  go_wp2_with fail
  refine (w_unpack 0 0 0 0 (by decide) (by decide) (by decide) (by decide) _).mono ?_
  rintro e v1 ⟨rfl, CV1⟩
  have HCV1 := keepH (HCU1.out.pf2 CV1)
  have HSV1 := keepH (HSU1.out.chg CV1 (fun x => x))
  have RV1 := HRU1.out.chg CV1 (fun x => x)
  have o0 : v1.cell? ⟨rb, 3, none⟩ = some (.int .u8 0) := RV1.cell 3
  have o1 : v1.cell? ⟨rb, 4, none⟩ = some (.int .u64 0) := RV1.cell 4
  have o2 : v1.cell? ⟨rb, 5, none⟩ = some (.int .u64 0) := RV1.cell 5
  have y0 := RV1.free 3
  have y1 := (RV1.set 3 (.int .u8 0)).free 4
  have y2 := ((RV1.set 3 (.int .u8 0)).set 4 (.int .u64 0)).free 5
  have y1' := RV1.free 4
  have y2' := RV1.free 5
  obtain ⟨x1, hx1⟩ : ∃ x1, x1 = ((v1.setCell ⟨rb, 3, none⟩ (.int .u8 0)).setCell ⟨rb, 4, none⟩ (.int .u64 0)).setCell ⟨rb, 5, none⟩ (.int .u64 0) := ⟨_, rfl⟩
  have RX1 : Blk x1 rb 46 (rowL 3 0 1 0 0 0) := by rw [hx1]; exact ((RV1.set 3 (.int .u8 0)).set 4 (.int .u64 0)).set 5 (.int .u64 0)
  have CX1 : Chg (fun k => k = rb) v1 x1 := by rw [hx1]; exact ((setP _).p (setP _)).p (setP _)
  have HR2 := keepH RX1
  have HS2 := keepH (HSV1.out.chg CX1 (fun e => by have := HRB.out; omega))
  have HCW2 : Hid (Chg (fun k => k = sb ∨ k = rb) W x1) := HCV1.out.trans CX1 (fun _ _ x => x) (fun _ _ x => .inr x)
  clear RV1 RX1 CX1 CV1 HCU1 HSU1 HRU1 HMB1 HCV1 HSV1
  go_wp2_with fail
  rw [← hx1]
  clear hx1 o0 o1 o2 y0 y1 y2 y1' y2'
  rw [rounds_succ]
  go_wp2_with fail
  go_ret
  refine ⟨rb, by simp, HR2.out, ?_, by have := HSB.out; have := HRB.out; omega⟩
  have z := HCW2.out
  exact ⟨z.os, z.tape, z.output, z.size, fun i hi _ => z.block i hi (fun e => by have := HSB.out; have := HRB.out; omega)⟩
end Go.Proofs.YtlgkioaomcobdaaGreat
