/- An empty trie that is made. -/
import Derived.Test.YtokooplfjibneaaGreatTl
namespace Go.Proofs.YtokooplfjibneaaGreat
open Go.RowKit Go.Shelf
set_option linter.unusedVariables false

structure Mk (most : Nat) : Prop where
  e1 : alAt most 1 1 = 1
  e2 : alNext most 1 1 = 2
  e3 : alN most 1 [] [1] = [0, 1]
  f1 : alAt most 2 64 = 2
  f2 : alNext most 2 64 = 66
  f3 : alN most 2 [0, 1] (List.replicate 64 0) = cs0
set_option maxRecDepth 100000 in
set_option maxHeartbeats 2000000 in
theorem make_any {W : World} {m b v : Nat} {th : Int} {most : Nat} {w : World} {made n : Nat} {D : Nat → Prop} (h : SR W m b v th most w 1 made [] n D) (hM : Mk most) (h1 : made < 1000000) (h2 : n < 1000000) :
    Calls Tryz.prog 4 #[.pointer (some ⟨v, 0, none⟩)] w fun e w' => e = .returned (.tuple #[.agg #[.int .u64 1, .int .u64 2], .int .i64 0]) ∧ SR W m b v th most w' 66 (made + 2) cs0 (n + 2) D ∧ ∀ k, D k → w'.heap[k]? = w.heap[k]? := by
  obtain ⟨w0, hw0⟩ : ∃ w0, w0 = w.alloc (.cells #[.int .u64 0, .int .u64 0] 24) := ⟨_, rfl⟩
  have S0 : SR W m b v th most w0 1 made [] n (fun k => D k ∨ k = w.heap.size) := by rw [hw0]; exact h.alloc _
  have B0 : Blk w0 w.heap.size 24 [.int .u64 0, .int .u64 0] := by rw [hw0]; exact heap_alloc_new _ _
  have K0 : ∀ k, D k → w0.heap[k]? = w.heap[k]? := fun k e => by rw [hw0]; exact Below.heap_alloc _ _ _ (h.lt k e)
  have HS0 := keepH S0
  have HB0 := keepH B0
  have HK0 := keepH K0
  have HM := keepH hM
  have HD : Hid (∀ k, D k → k ≠ w.heap.size) := fun k e z => by have := h.lt k e; omega
  clear h S0 B0 K0 hM
  go_enter Tryz.func4, Tryz.ntmps4
  go_upto_region 1 with fail
  rw [← hw0]
  clear hw0
  go_wp2_with fail
  have hA := HS0.out.aloc [1] w0.heap.size 1 rfl (by simp) (by simp) (by omega) (by omega)
  rw [show alAt most 1 [1].length = 1 from HM.out.e1, show alNext most 1 [1].length = 2 from HM.out.e2, HM.out.e3] at hA
  refine hA.mono ?_
  rintro e w1 ⟨rfl, S1, K1⟩
  have HS1 := keepH S1
  have HK1 := keepH K1
  clear hA S1 K1
  obtain ⟨w2, hw2⟩ : ∃ w2, w2 = w1.alloc (.cells ((List.replicate 64 0).map u64V).toArray 22) := ⟨_, rfl⟩
  have hmk : (Instr.makeSlice 45 (.int .i64 64) (.int .i64 64)).run Tryz.prog w1 = .ok (.slice (some ⟨w1.heap.size, 0, none⟩) 64 64) w2 := by rw [hw2]; kernel_rfl
  have hA2 := HS1.out.aloc (List.replicate 64 0) w1.heap.size 64 rfl (by decide) (by decide) (by omega) (by omega)
  rw [show (List.replicate 64 0).length = 64 from by simp, HM.out.f1, HM.out.f2, HM.out.f3, ← hw2] at hA2
  have HA2 := keepH hA2
  clear hA2 hw2
  go_wp2_with fail
  refine HA2.out.mono ?_
  rintro e w3 ⟨rfl, S3, K3⟩
  have B3 : Blk w3 w.heap.size 24 [.int .u64 0, .int .u64 0] := (K3 _ (.inr rfl)).trans ((HK1.out _ (.inr rfl)).trans HB0.out)
  have c0 : w3.cell? ⟨w.heap.size, 0, none⟩ = some (.int .u64 0) := B3.cell 0
  have f0 := B3.free 0
  have B4 := B3.set 0 (.int .u64 1)
  have c1 : (w3.setCell ⟨w.heap.size, 0, none⟩ (.int .u64 1)).cell? ⟨w.heap.size, 1, none⟩ = some (.int .u64 0) := B4.cell 1
  have f1 := B4.free 1
  have c1' : w3.cell? ⟨w.heap.size, 1, none⟩ = some (.int .u64 0) := B3.cell 1
  have f1' := B3.free 1
  have q0 : (w3.setCell ⟨w.heap.size, 0, none⟩ (.int .u64 1)).cell? ⟨w.heap.size, 0, none⟩ = some (.int .u64 1) := B4.cell 0
  have B5 := B4.set 1 (.int .u64 2)
  have q1 : ((w3.setCell ⟨w.heap.size, 0, none⟩ (.int .u64 1)).setCell ⟨w.heap.size, 1, none⟩ (.int .u64 2)).cell? ⟨w.heap.size, 1, none⟩ = some (.int .u64 2) := B5.cell 1
  have HS3 := keepH S3
  have HK3 := keepH K3
  clear S3 K3 B3 B4 B5 hmk
  go_wp2_with fail
  refine bodyPost_ret (v := .tuple #[.agg #[.int .u64 1, .int .u64 2], .int .i64 0]) (by simp [results, Tryz.results4, go_sem, q0, q1]) rfl ⟨rfl, ?_, fun k e => ?_⟩
  · exact SR.mono (HS3.out.put (G := fun k => k = w.heap.size) ((setP _).trans (setP _) (fun _ _ x => x) (fun _ _ x => x)) (fun k e => .inr e)) (fun k e => .inl e)
  · exact (Below.heap_setCell _ _ _ _ (HD.out k e)).trans ((Below.heap_setCell _ _ _ _ (HD.out k e)).trans ((HK3.out k (.inl e)).trans ((HK1.out k (.inl e)).trans (HK0.out k e))))
set_option maxRecDepth 100000 in
theorem make_nil (W : World) : Calls Tryz.prog 4 #[.pointer none] W fun e W' => e = .returned (.tuple #[.agg #[.int .u64 0, .int .u64 0], .int .i64 1]) ∧ Chg (fun _ => False) W W' := by
  obtain ⟨w0, hw0⟩ : ∃ w0, w0 = W.alloc (.cells #[.int .u64 0, .int .u64 0] 24) := ⟨_, rfl⟩
  have B0 : Blk w0 W.heap.size 24 [.int .u64 0, .int .u64 0] := by rw [hw0]; exact heap_alloc_new _ _
  have HC : Hid (Chg (fun _ => False) W w0) := by rw [hw0]; exact (Chg.refl _ _).alloc _
  have c0 : w0.cell? ⟨W.heap.size, 0, none⟩ = some (.int .u64 0) := B0.cell 0
  have f0 := B0.free 0
  have B4 := B0.set 0 (.int .u64 0)
  have c1 : (w0.setCell ⟨W.heap.size, 0, none⟩ (.int .u64 0)).cell? ⟨W.heap.size, 1, none⟩ = some (.int .u64 0) := B4.cell 1
  have f1 := B4.free 1
  have c1' : w0.cell? ⟨W.heap.size, 1, none⟩ = some (.int .u64 0) := B0.cell 1
  have f1' := B0.free 1
  have q0 : (w0.setCell ⟨W.heap.size, 0, none⟩ (.int .u64 0)).cell? ⟨W.heap.size, 0, none⟩ = some (.int .u64 0) := B4.cell 0
  have B5 := B4.set 1 (.int .u64 0)
  have q1 : ((w0.setCell ⟨W.heap.size, 0, none⟩ (.int .u64 0)).setCell ⟨W.heap.size, 1, none⟩ (.int .u64 0)).cell? ⟨W.heap.size, 1, none⟩ = some (.int .u64 0) := B5.cell 1
  clear B0 B4 B5
  go_enter Tryz.func4, Tryz.ntmps4
  go_upto_region 1 with fail
  rw [← hw0]
  clear hw0
  go_wp2_with fail
  refine bodyPost_ret (v := .tuple #[.agg #[.int .u64 0, .int .u64 0], .int .i64 1]) (by simp [results, Tryz.results4, go_sem, q0, q1]) rfl ⟨rfl, ?_⟩
  exact (HC.out.trans (setP _) (fun _ _ x => x) (fun i hi e => by omega)).trans (setP _) (fun _ _ x => x) (fun i hi e => by omega)
end Go.Proofs.YtokooplfjibneaaGreat
