/- A new store: its errno, by both. (mkSeg.py) -/
import Derived.Test.YtmmaniolaljjlaaGreatDoorP10Sef
import Derived.Laws.MakeOwn
import Derived.Test.YtmmaniolaljjlaaGreatDoorP5Scu
import Derived.Test.YtmmaniolaljjlaaGreatDoorP8Store
namespace Go.Proofs.YtmmaniolaljjlaaGreatDoor
open Go.RowKit Go.Shelf
set_option linter.unusedVariables false

theorem setRow_chg (X : World) (R : Nat) (cs : Array Value) : Chg (fun k => k = R) X (X.setRow R cs) := by
  refine ⟨by simp [World.setRow], by simp [World.setRow], by simp [World.setRow], by simp, fun i hi hn => setRow_other _ _ _ _ hn⟩
theorem al1 {most : Nat} (h : 128 ≤ most) : alAt most 1 1 = 1 ∧ alNext most 1 1 = 2 ∧ alAt most 2 64 = 2 ∧ alNext most 2 64 = 66 := by
  have a : alOk most 1 1 := ⟨by omega, by omega⟩
  have b : alOk most 2 64 := ⟨by omega, by omega⟩
  exact ⟨by rw [alAt, if_pos a], by rw [alNext, if_pos a], by rw [alAt, if_pos b], by rw [alNext, if_pos b]⟩
theorem mk64 (w : World) : (Instr.makeSlice 26 (.int .i64 64) (.int .i64 64)).run Tryz.prog w = .ok (.slice (some ⟨w.heap.size, 0, none⟩) 64 64) (w.alloc (.cells ((List.replicate 64 0).map u64V).toArray 23)) := by kernel_rfl
set_option maxRecDepth 100000 in
set_option maxHeartbeats 4000000 in
theorem tmake_n {W : World} {v b most made : Nat} {w : World} {D : Nat → Prop} (h : NS W w v b most 1 made D) (hm : 128 ≤ most) (hmd : made < 1000) :
    Calls Tryz.prog 109 #[.pointer (some ⟨v, 0, none⟩)] w fun e w' => e = .returned (.tuple #[.agg #[.int .u64 1, .int .u64 2], .int .i64 0]) ∧ NS W w' v b most 66 (made + 2) D ∧ ∀ k, D k → w'.heap[k]? = w.heap[k]? := by
  obtain ⟨a1, a2, a3, a4⟩ := al1 hm
  obtain ⟨w0, hw0⟩ : ∃ w0, w0 = w.alloc (.cells #[.int .u64 0, .int .u64 0] 137) := ⟨_, rfl⟩
  obtain ⟨R, hR⟩ : ∃ R, R = w.heap.size := ⟨_, rfl⟩
  have hS0 := h.new (.cells #[.int .u64 0, .int .u64 0] 137)
  rw [← hw0, ← hR] at hS0
  have HS0 := keepH hS0
  have HX0 : Hid (w0.heap[R]? = some (.cells #[.int .u64 0, .int .u64 0] 137 (0, 0))) := keepH (by rw [hw0, hR]; exact heap_alloc_new _ _)
  have HK0 : Hid (∀ k, D k → w0.heap[k]? = w.heap[k]?) := keepH (fun k e => by rw [hw0]; exact Below.heap_alloc _ _ _ (h.lt k e))
  have HDR : Hid (∀ k, D k → k ≠ R) := keepH (fun k e z => by have := h.lt k e; omega)
  have HW0 := keepH hw0
  have HR := keepH hR
  have hA := hS0.aloc [1] w0.heap.size 1 rfl (by simp) (by simp) (by omega)
  rw [show [1].length = 1 from rfl, a1, a2] at hA
  have HA := keepH hA
  have HA3 := keepH a3
  have HA4 := keepH a4
  clear h hS0 hw0 hR hA a1 a2 a3 a4
  go_enter Tryz.func109, Tryz.ntmps109
  go_upto_region 1 with fail
  rw [← HW0.out, ← HR.out]
  go_wp2_with fail
  refine HA.out.mono ?_
  rintro e w1 ⟨rfl, S1, K1⟩
  have hA2 := S1.aloc (List.replicate 64 0) w1.heap.size 64 rfl (by decide) (by decide) (by omega)
  rw [show (List.replicate 64 0).length = 64 from rfl, HA3.out, HA4.out] at hA2
  have HA2 := keepH hA2
  have HX1 : Hid (w1.heap[R]? = some (.cells #[.int .u64 0, .int .u64 0] 137 (0, 0))) := keepH ((K1 R (.inr rfl)).trans HX0.out)
  have HK1 : Hid (∀ k, D k → w1.heap[k]? = w.heap[k]?) := keepH (fun k e => (K1 k (.inl e)).trans (HK0.out k e))
  obtain ⟨w2, hw2⟩ : ∃ w2, w2 = w1.alloc (.cells ((List.replicate 64 0).map u64V).toArray 23) := ⟨_, rfl⟩
  have hmk := mk64 w1
  rw [← hw2] at hmk HA2
  clear S1 K1 hA2 hw2 HX0 HK0 HA HS0
  go_wp2_with fail
  refine HA2.out.mono ?_
  rintro e w3 ⟨rfl, S3, K3⟩
  have HX3 : Hid (w3.heap[R]? = some (.cells #[.int .u64 0, .int .u64 0] 137 (0, 0))) := keepH ((K3 R (.inr rfl)).trans HX1.out)
  have HK3 : Hid (∀ k, D k → w3.heap[k]? = w.heap[k]?) := keepH (fun k e => (K3 k (.inl e)).trans (HK1.out k e))
  have HS3 := keepH S3
  clear S3 K3 hmk HX1 HK1 HA2
  go_wp2_with (first | (refine wpList_store_row rfl 137 _ _ rfl R #[.int .u64 1, .int .u64 2] rfl rfl 137 #[.int .u64 0, .int .u64 0] HX3.out (by kernel_rfl) rfl (by simp [Value.oneCell']) ?_) | fail)
  have hrow := setRow_heap _ R _ #[.int .u64 1, .int .u64 2] 137 (0, 0) HX3.out
  have e0 := cell_of hrow 0
  have e1 := cell_of hrow 1
  simp at e0 e1
  refine bodyPost_ret (v := .tuple #[.agg #[.int .u64 1, .int .u64 2], .int .i64 0]) (by simp [results, Tryz.results109, go_sem, e0, e1]) rfl ?_
  exact ⟨rfl, (HS3.out.put (setRow_chg _ R _) (fun k e => .inr e)).mono (fun k e => .inl e), fun k e => (setRow_other _ _ _ _ (HDR.out k e)).trans (HK3.out k e)⟩
set_option maxRecDepth 100000 in
set_option maxHeartbeats 4000000 in
theorem dmake_n {W : World} {nm most made : Nat} {w : World} {D : Nat → Prop} (h : NR W w nm most 1 made D) (hm : 128 ≤ most) (hmd : made < 1000) :
    Calls Tryz.prog 86 #[.pointer (some ⟨nm, 0, none⟩), .int .i64 (-1)] w fun e w' => e = .returned (.tuple #[.agg #[.int .u64 1, .int .u64 2], .int .i64 0]) ∧ NR W w' nm most 66 (made + 2) D ∧ ∀ k, D k → w'.heap[k]? = w.heap[k]? := by
  obtain ⟨a1, a2, a3, a4⟩ := al1 hm
  obtain ⟨w0, hw0⟩ : ∃ w0, w0 = w.alloc (.cells #[.int .u64 0, .int .u64 0] 137) := ⟨_, rfl⟩
  obtain ⟨R, hR⟩ : ∃ R, R = w.heap.size := ⟨_, rfl⟩
  have hS0 := h.new (.cells #[.int .u64 0, .int .u64 0] 137)
  rw [← hw0, ← hR] at hS0
  have HS0 := keepH hS0
  have HX0 : Hid (w0.heap[R]? = some (.cells #[.int .u64 0, .int .u64 0] 137 (0, 0))) := keepH (by rw [hw0, hR]; exact heap_alloc_new _ _)
  have HK0 : Hid (∀ k, D k → w0.heap[k]? = w.heap[k]?) := keepH (fun k e => by rw [hw0]; exact Below.heap_alloc _ _ _ (h.lt k e))
  have HDR : Hid (∀ k, D k → k ≠ R) := keepH (fun k e z => by have := h.lt k e; omega)
  have HW0 := keepH hw0
  have HR := keepH hR
  have hA := hS0.aloc [1] w0.heap.size 1 rfl (by simp) (by simp) (by omega)
  rw [show [1].length = 1 from rfl, a1, a2] at hA
  have HA := keepH hA
  have HA3 := keepH a3
  have HA4 := keepH a4
  clear h hS0 hw0 hR hA a1 a2 a3 a4
  go_enter Tryz.func86, Tryz.ntmps86
  go_upto_region 1 with fail
  rw [← HW0.out, ← HR.out]
  go_wp2_with fail
  refine HA.out.mono ?_
  rintro e w1 ⟨rfl, S1, K1⟩
  have hA2 := S1.aloc (List.replicate 64 0) w1.heap.size 64 rfl (by decide) (by decide) (by omega)
  rw [show (List.replicate 64 0).length = 64 from rfl, HA3.out, HA4.out] at hA2
  have HA2 := keepH hA2
  have HX1 : Hid (w1.heap[R]? = some (.cells #[.int .u64 0, .int .u64 0] 137 (0, 0))) := keepH ((K1 R (.inr rfl)).trans HX0.out)
  have HK1 : Hid (∀ k, D k → w1.heap[k]? = w.heap[k]?) := keepH (fun k e => (K1 k (.inl e)).trans (HK0.out k e))
  obtain ⟨w2, hw2⟩ : ∃ w2, w2 = w1.alloc (.cells ((List.replicate 64 0).map u64V).toArray 23) := ⟨_, rfl⟩
  have hmk := mk64 w1
  rw [← hw2] at hmk HA2
  clear S1 K1 hA2 hw2 HX0 HK0 HA HS0
  go_wp2_with fail
  refine HA2.out.mono ?_
  rintro e w3 ⟨rfl, S3, K3⟩
  have HX3 : Hid (w3.heap[R]? = some (.cells #[.int .u64 0, .int .u64 0] 137 (0, 0))) := keepH ((K3 R (.inr rfl)).trans HX1.out)
  have HK3 : Hid (∀ k, D k → w3.heap[k]? = w.heap[k]?) := keepH (fun k e => (K3 k (.inl e)).trans (HK1.out k e))
  have HS3 := keepH S3
  clear S3 K3 hmk HX1 HK1 HA2
  go_wp2_with (first | (refine wpList_store_row rfl 137 _ _ rfl R #[.int .u64 1, .int .u64 2] rfl rfl 137 #[.int .u64 0, .int .u64 0] HX3.out (by kernel_rfl) rfl (by simp [Value.oneCell']) ?_) | fail)
  have hrow := setRow_heap _ R _ #[.int .u64 1, .int .u64 2] 137 (0, 0) HX3.out
  have e0 := cell_of hrow 0
  have e1 := cell_of hrow 1
  simp at e0 e1
  refine bodyPost_ret (v := .tuple #[.agg #[.int .u64 1, .int .u64 2], .int .i64 0]) (by simp [results, Tryz.results86, go_sem, e0, e1]) rfl ?_
  exact ⟨rfl, (HS3.out.put (setRow_chg _ R _) (fun k e => .inr e)).mono (fun k e => .inl e), fun k e => (setRow_other _ _ _ _ (HDR.out k e)).trans (HK3.out k e)⟩
theorem make_u64n (n : Nat) (hn : n ≤ 1048576) (u : World) :
    (Instr.makeSlice 26 (.int .i64 (n : Int)) (.int .i64 (n : Int))).run Tryz.prog u = .ok (.slice (some ⟨u.heap.size, 0, none⟩) n n) (u.alloc (.cells ((List.replicate n 0).map u64V).toArray 23)) := by
  obtain ⟨i0, hi, hz0, hz1, hz2⟩ : ∃ i0, Tryz.prog.info? 23 = some i0 ∧ i0.zero = some (.int .u64 0) ∧ i0.size = 1 ∧ i0.bytes = 8 := by
    have h := infoU
    cases e : Tryz.prog.info? 23 with
    | none => rw [e] at h; simp at h
    | some i0 => rw [e] at h; simp at h; exact ⟨i0, rfl, h.1, h.2.1, h.2.2⟩
  have h := run_make (P := Tryz.prog) u 26 23 i0 (.int .u64 0) Tryz.underlying26 hi hz0 .i64 .i64 (n : Int) (n : Int) (by omega) (Int.le_refl _) (by rw [hz2]; omega) (by omega)
  have e : madeCells #[.int .u64 0] n = ((List.replicate n 0).map u64V).toArray := by
    apply Array.ext'
    rw [toList_madeCells_one]
    simp [u64V]
  have hz : (Value.int .u64 0).cells = #[.int .u64 0] := rfl
  rw [← e]
  simpa [hz1, hz] using h
set_option maxRecDepth 100000 in
set_option maxHeartbeats 4000000 in
theorem amake_n {W : World} {v b most made : Nat} {w : World} {D : Nat → Prop} (h : NS W w v b most 66 made D) (hm : 128 ≤ most) (hmd : made < 1000) (cam sl stp : Nat) (h1 : 1 ≤ sl ∧ sl ≤ 256) (h2 : 1 ≤ stp ∧ stp ≤ 1099511627776) :
    Calls Tryz.prog 110 #[.pointer (some ⟨v, 0, none⟩), .int .u64 (cam : Int), .int .i64 (sl : Int), .int .u64 (stp : Int)] w fun e w' => (∃ x0 x1 x2 x3 : Int, e = .returned (.tuple #[.agg #[.int .u64 x0, .int .u64 x1, .int .i64 x2, .int .u64 x3], .int .i64 (if 66 + sl ≤ most then 0 else 30)])) ∧ Chg (fun _ => False) W w' ∧ ∀ k, D k → w'.heap[k]? = w.heap[k]? := by
  have t1 : ¬ (sl : Int) < 1 := by omega
  have t2 : ¬ (sl : Int) > 256 := by omega
  have t3 : ¬ (stp : Int) < 1 := by omega
  have t4 : ¬ (stp : Int) > 1099511627776 := by omega
  obtain ⟨w0, hw0⟩ : ∃ w0, w0 = w.alloc (.cells #[.int .u64 0, .int .u64 0, .int .i64 0, .int .u64 0] 141) := ⟨_, rfl⟩
  obtain ⟨R, hR⟩ : ∃ R, R = w.heap.size := ⟨_, rfl⟩
  have hS0 := h.new (.cells #[.int .u64 0, .int .u64 0, .int .i64 0, .int .u64 0] 141)
  rw [← hw0, ← hR] at hS0
  have HS0 := keepH hS0
  have HX0 : Hid (w0.heap[R]? = some (.cells #[.int .u64 0, .int .u64 0, .int .i64 0, .int .u64 0] 141 (0, 0))) := keepH (by rw [hw0, hR]; exact heap_alloc_new _ _)
  have HK0 : Hid (∀ k, D k → w0.heap[k]? = w.heap[k]?) := keepH (fun k e => by rw [hw0]; exact Below.heap_alloc _ _ _ (h.lt k e))
  have HDR : Hid (∀ k, D k → k ≠ R) := keepH (fun k e z => by have := h.lt k e; omega)
  have HW0 := keepH hw0
  have HR := keepH hR
  have HWR : Hid (W.heap.size ≤ R) := keepH (by rw [hR]; exact h.chg.size)
  have hA := hS0.aloc (List.replicate sl 0) w0.heap.size sl rfl (by simp) (by simp; omega) (by omega)
  rw [List.length_replicate] at hA
  have HA := keepH hA
  obtain ⟨wm, hwm⟩ : ∃ wm, wm = w0.alloc (.cells ((List.replicate sl 0).map u64V).toArray 23) := ⟨_, rfl⟩
  have hmk := make_u64n sl (by omega) w0
  rw [← hwm] at hmk HA
  have H1 := keepH h1
  clear h hS0 hw0 hR hA hwm h1 h2
  by_cases hr : 66 + sl ≤ most
  · have ho : alOk most 66 sl := ⟨by have := H1.out; omega, by omega⟩
    rw [alAt, if_pos ho] at HA
    rw [if_pos hr]
    clear hr ho
    go_enter Tryz.func110, Tryz.ntmps110
    go_upto_region 1 with fail
    rw [← HW0.out, ← HR.out]
    go_wp2_with fail
    refine HA.out.mono ?_
    rintro e w3 ⟨rfl, S3, K3⟩
    have HX3 : Hid (w3.heap[R]? = some (.cells #[.int .u64 0, .int .u64 0, .int .i64 0, .int .u64 0] 141 (0, 0))) := keepH ((K3 R (.inr rfl)).trans HX0.out)
    have HK3 : Hid (∀ k, D k → w3.heap[k]? = w.heap[k]?) := keepH (fun k e => (K3 k (.inl e)).trans (HK0.out k e))
    have HC3 := keepH S3.chg
    clear S3 K3 hmk HX0 HK0 HA HS0
    go_wp2_with (first | (refine wpList_store_row rfl 141 _ _ rfl R #[.int .u64 (cam : Int), .int .u64 (66 : Int), .int .i64 (sl : Int), .int .u64 (stp : Int)] rfl rfl 141 #[.int .u64 0, .int .u64 0, .int .i64 0, .int .u64 0] HX3.out (by kernel_rfl) rfl (by simp [Value.oneCell']) ?_) | fail)
    have hrow := setRow_heap _ R _ #[.int .u64 (cam : Int), .int .u64 (66 : Int), .int .i64 (sl : Int), .int .u64 (stp : Int)] 141 (0, 0) HX3.out
    have e0 := cell_of hrow 0
    have e1 := cell_of hrow 1
    have e2 := cell_of hrow 2
    have e3 := cell_of hrow 3
    simp at e0 e1 e2 e3
    refine bodyPost_ret (v := .tuple #[.agg #[.int .u64 (cam : Int), .int .u64 (66 : Int), .int .i64 (sl : Int), .int .u64 (stp : Int)], .int .i64 0]) (by simp [results, Tryz.results110, go_sem, e0, e1, e2, e3]) rfl ?_
    exact ⟨⟨_, _, _, _, rfl⟩, HC3.out.trans (setRow_chg _ R _) (fun _ _ x => x) (fun i hi e => by have := HWR.out; omega), fun k e => (setRow_other _ _ _ _ (HDR.out k e)).trans (HK3.out k e)⟩
  · have ho : ¬ alOk most 66 sl := fun h => hr (by have := h.2; omega)
    rw [alAt, if_neg ho] at HA
    rw [if_neg hr]
    clear hr ho
    go_enter Tryz.func110, Tryz.ntmps110
    go_upto_region 1 with fail
    rw [← HW0.out, ← HR.out]
    go_wp2_with fail
    refine HA.out.mono ?_
    rintro e w3 ⟨rfl, S3, K3⟩
    have HX3 : Hid (w3.heap[R]? = some (.cells #[.int .u64 0, .int .u64 0, .int .i64 0, .int .u64 0] 141 (0, 0))) := keepH ((K3 R (.inr rfl)).trans HX0.out)
    have HK3 : Hid (∀ k, D k → w3.heap[k]? = w.heap[k]?) := keepH (fun k e => (K3 k (.inl e)).trans (HK0.out k e))
    have HC3 := keepH S3.chg
    clear S3 K3 hmk HX0 HK0 HA HS0
    go_wp2_with (first | (refine wpList_store_row rfl 141 _ _ rfl R #[.int .u64 0, .int .u64 0, .int .i64 0, .int .u64 0] rfl rfl 141 #[.int .u64 0, .int .u64 0, .int .i64 0, .int .u64 0] HX3.out (by kernel_rfl) rfl (by simp [Value.oneCell']) ?_) | fail)
    have hrow := setRow_heap _ R _ #[.int .u64 0, .int .u64 0, .int .i64 0, .int .u64 0] 141 (0, 0) HX3.out
    have e0 := cell_of hrow 0
    have e1 := cell_of hrow 1
    have e2 := cell_of hrow 2
    have e3 := cell_of hrow 3
    simp at e0 e1 e2 e3
    refine bodyPost_ret (v := .tuple #[.agg #[.int .u64 0, .int .u64 0, .int .i64 0, .int .u64 0], .int .i64 30]) (by simp [results, Tryz.results110, go_sem, e0, e1, e2, e3]) rfl ?_
    exact ⟨⟨_, _, _, _, rfl⟩, HC3.out.trans (setRow_chg _ R _) (fun _ _ x => x) (fun i hi e => by have := HWR.out; omega), fun k e => (setRow_other _ _ _ _ (HDR.out k e)).trans (HK3.out k e)⟩
set_option maxRecDepth 100000 in
set_option maxHeartbeats 4000000 in
theorem emake_n {W : World} {nm most made : Nat} {w : World} {D : Nat → Prop} (h : NR W w nm most 66 made D) (hm : 128 ≤ most) (hmd : made < 1000) (cam sl stp : Nat) (h1 : 1 ≤ sl ∧ sl ≤ 256) (h2 : 1 ≤ stp ∧ stp ≤ 1099511627776) :
    Calls Tryz.prog 87 #[.pointer (some ⟨nm, 0, none⟩), .int .i64 (-1), .int .u64 (cam : Int), .int .i64 (sl : Int), .int .u64 (stp : Int)] w fun e w' => (∃ x0 x1 x2 x3 : Int, e = .returned (.tuple #[.agg #[.int .u64 x0, .int .u64 x1, .int .i64 x2, .int .u64 x3], .int .i64 (if 66 + sl ≤ most then 0 else 30)])) ∧ Chg (fun _ => False) W w' ∧ ∀ k, D k → w'.heap[k]? = w.heap[k]? := by
  have t1 : ¬ (sl : Int) < 1 := by omega
  have t2 : ¬ (sl : Int) > 256 := by omega
  have t3 : ¬ (stp : Int) < 1 := by omega
  have t4 : ¬ (stp : Int) > 1099511627776 := by omega
  obtain ⟨w0, hw0⟩ : ∃ w0, w0 = w.alloc (.cells #[.int .u64 0, .int .u64 0, .int .i64 0, .int .u64 0] 141) := ⟨_, rfl⟩
  obtain ⟨R, hR⟩ : ∃ R, R = w.heap.size := ⟨_, rfl⟩
  have hS0 := h.new (.cells #[.int .u64 0, .int .u64 0, .int .i64 0, .int .u64 0] 141)
  rw [← hw0, ← hR] at hS0
  have HS0 := keepH hS0
  have HX0 : Hid (w0.heap[R]? = some (.cells #[.int .u64 0, .int .u64 0, .int .i64 0, .int .u64 0] 141 (0, 0))) := keepH (by rw [hw0, hR]; exact heap_alloc_new _ _)
  have HK0 : Hid (∀ k, D k → w0.heap[k]? = w.heap[k]?) := keepH (fun k e => by rw [hw0]; exact Below.heap_alloc _ _ _ (h.lt k e))
  have HDR : Hid (∀ k, D k → k ≠ R) := keepH (fun k e z => by have := h.lt k e; omega)
  have HW0 := keepH hw0
  have HR := keepH hR
  have HWR : Hid (W.heap.size ≤ R) := keepH (by rw [hR]; exact h.chg.size)
  have hA := hS0.aloc (List.replicate sl 0) w0.heap.size sl rfl (by simp) (by simp; omega) (by omega)
  rw [List.length_replicate] at hA
  have HA := keepH hA
  obtain ⟨wm, hwm⟩ : ∃ wm, wm = w0.alloc (.cells ((List.replicate sl 0).map u64V).toArray 23) := ⟨_, rfl⟩
  have hmk := make_u64n sl (by omega) w0
  rw [← hwm] at hmk HA
  have H1 := keepH h1
  clear h hS0 hw0 hR hA hwm h1 h2
  by_cases hr : 66 + sl ≤ most
  · have ho : alOk most 66 sl := ⟨by have := H1.out; omega, by omega⟩
    rw [alAt, if_pos ho] at HA
    rw [if_pos hr]
    clear hr ho
    go_enter Tryz.func87, Tryz.ntmps87
    go_upto_region 1 with fail
    rw [← HW0.out, ← HR.out]
    go_wp2_with fail
    refine HA.out.mono ?_
    rintro e w3 ⟨rfl, S3, K3⟩
    have HX3 : Hid (w3.heap[R]? = some (.cells #[.int .u64 0, .int .u64 0, .int .i64 0, .int .u64 0] 141 (0, 0))) := keepH ((K3 R (.inr rfl)).trans HX0.out)
    have HK3 : Hid (∀ k, D k → w3.heap[k]? = w.heap[k]?) := keepH (fun k e => (K3 k (.inl e)).trans (HK0.out k e))
    have HC3 := keepH S3.chg
    clear S3 K3 hmk HX0 HK0 HA HS0
    go_wp2_with (first | (refine wpList_store_row rfl 141 _ _ rfl R #[.int .u64 (cam : Int), .int .u64 (66 : Int), .int .i64 (sl : Int), .int .u64 (stp : Int)] rfl rfl 141 #[.int .u64 0, .int .u64 0, .int .i64 0, .int .u64 0] HX3.out (by kernel_rfl) rfl (by simp [Value.oneCell']) ?_) | fail)
    have hrow := setRow_heap _ R _ #[.int .u64 (cam : Int), .int .u64 (66 : Int), .int .i64 (sl : Int), .int .u64 (stp : Int)] 141 (0, 0) HX3.out
    have e0 := cell_of hrow 0
    have e1 := cell_of hrow 1
    have e2 := cell_of hrow 2
    have e3 := cell_of hrow 3
    simp at e0 e1 e2 e3
    refine bodyPost_ret (v := .tuple #[.agg #[.int .u64 (cam : Int), .int .u64 (66 : Int), .int .i64 (sl : Int), .int .u64 (stp : Int)], .int .i64 0]) (by simp [results, Tryz.results87, go_sem, e0, e1, e2, e3]) rfl ?_
    exact ⟨⟨_, _, _, _, rfl⟩, HC3.out.trans (setRow_chg _ R _) (fun _ _ x => x) (fun i hi e => by have := HWR.out; omega), fun k e => (setRow_other _ _ _ _ (HDR.out k e)).trans (HK3.out k e)⟩
  · have ho : ¬ alOk most 66 sl := fun h => hr (by have := h.2; omega)
    rw [alAt, if_neg ho] at HA
    rw [if_neg hr]
    clear hr ho
    go_enter Tryz.func87, Tryz.ntmps87
    go_upto_region 1 with fail
    rw [← HW0.out, ← HR.out]
    go_wp2_with fail
    refine HA.out.mono ?_
    rintro e w3 ⟨rfl, S3, K3⟩
    have HX3 : Hid (w3.heap[R]? = some (.cells #[.int .u64 0, .int .u64 0, .int .i64 0, .int .u64 0] 141 (0, 0))) := keepH ((K3 R (.inr rfl)).trans HX0.out)
    have HK3 : Hid (∀ k, D k → w3.heap[k]? = w.heap[k]?) := keepH (fun k e => (K3 k (.inl e)).trans (HK0.out k e))
    have HC3 := keepH S3.chg
    clear S3 K3 hmk HX0 HK0 HA HS0
    go_wp2_with (first | (refine wpList_store_row rfl 141 _ _ rfl R #[.int .u64 0, .int .u64 0, .int .i64 0, .int .u64 0] rfl rfl 141 #[.int .u64 0, .int .u64 0, .int .i64 0, .int .u64 0] HX3.out (by kernel_rfl) rfl (by simp [Value.oneCell']) ?_) | fail)
    have hrow := setRow_heap _ R _ #[.int .u64 0, .int .u64 0, .int .i64 0, .int .u64 0] 141 (0, 0) HX3.out
    have e0 := cell_of hrow 0
    have e1 := cell_of hrow 1
    have e2 := cell_of hrow 2
    have e3 := cell_of hrow 3
    simp at e0 e1 e2 e3
    refine bodyPost_ret (v := .tuple #[.agg #[.int .u64 0, .int .u64 0, .int .i64 0, .int .u64 0], .int .i64 30]) (by simp [results, Tryz.results87, go_sem, e0, e1, e2, e3]) rfl ?_
    exact ⟨⟨_, _, _, _, rfl⟩, HC3.out.trans (setRow_chg _ R _) (fun _ _ x => x) (fun i hi e => by have := HWR.out; omega), fun k e => (setRow_other _ _ _ _ (HDR.out k e)).trans (HK3.out k e)⟩
end Go.Proofs.YtmmaniolaljjlaaGreatDoor
/- A new store, by both: the errno. (mkSeh.py) -/
namespace Go.Proofs.YtmmaniolaljjlaaGreatDoor
open Go.RowKit Go.Shelf
set_option linter.unusedVariables false

def tkP (sl : Int) (stp : Nat) (mu : Int) : Prop := (1 ≤ sl ∧ sl ≤ 256) ∧ (1 ≤ stp ∧ stp ≤ 1099511627776) ∧ (1 ≤ mu ∧ mu ≤ 1024)
instance (sl : Int) (stp : Nat) (mu : Int) : Decidable (tkP sl stp mu) := by unfold tkP; infer_instance
def cfgE (ce sl : Int) (stp : Nat) (mu : Int) : Nat := if ¬ (tkP sl stp mu ∧ 128 ≤ ce ∧ ce ≤ 4194304) then 2 else if 66 + sl ≤ ce then 0 else 30
theorem m_newz (z : Int) (W : World) (hz : z < 128 ∨ 4194304 < z) : Calls Tryz.prog 107 #[.int .i64 z, .bool false] W fun e W' => e = .returned (.tuple #[.pointer none, .int .i64 2]) ∧ W' = W := by
  by_cases h1 : z < 128
  · go_enter Tryz.func107, Tryz.ntmps107
    go_wp2_with fail
    go_ret2
    exact ⟨rfl, rfl⟩
  · have h2 : 4194304 < z := by omega
    go_enter Tryz.func107, Tryz.ntmps107
    go_wp2_with fail
    go_ret2
    exact ⟨rfl, rfl⟩
set_option maxRecDepth 100000 in
set_option maxHeartbeats 4000000 in
theorem takes_any (ce sl : Int) (stp : Nat) (mu : Int) (W : World) : Calls Tryz.prog 106 #[.agg #[.int .i64 ce, .int .i64 sl, .int .u64 (stp : Int), .int .i64 mu]] W fun e W' => e = .returned (.bool (decide (tkP sl stp mu))) ∧ Below W.heap.size W W' := by
  obtain ⟨w1, hw1⟩ : ∃ w1, w1 = W.alloc (.cells #[.int .i64 ce, .int .i64 sl, .int .u64 (stp : Int), .int .i64 mu] 42) := ⟨_, rfl⟩
  obtain ⟨P, hP⟩ : ∃ P, P = W.heap.size := ⟨_, rfl⟩
  have B1 : Below W.heap.size W w1 := by rw [hw1]; exact below_alloc _ _
  have X1 : w1.heap[P]? = some (.cells #[.int .i64 ce, .int .i64 sl, .int .u64 (stp : Int), .int .i64 mu] 42 (0, 0)) := by rw [hw1, hP]; exact heap_alloc_new _ _
  have p1 : w1.cell? ⟨P, 1, none⟩ = _ := cell_of X1 1
  have p2 : w1.cell? ⟨P, 2, none⟩ = _ := cell_of X1 2
  have p3 : w1.cell? ⟨P, 3, none⟩ = _ := cell_of X1 3
  have HW1 := keepH hw1
  have HP := keepH hP
  have HB1 := keepH B1
  obtain ⟨L, hL⟩ : ∃ L, L = decide (tkP sl stp mu) := ⟨_, rfl⟩
  rw [← hL]
  have HL := keepH hL
  clear hw1 hP B1 X1 hL
  by_cases g0 : ¬ (sl ≥ 1)
  · have h0 := g0
    clear g0
    have HE : Hid (L = false) := keepH (by rw [HL.out]; exact decide_eq_false (fun h => h0 (by have := h; unfold tkP at this; omega)))
    go_enter Tryz.func106, Tryz.ntmps106
    go_upto_region 1 with fail
    rw [← HW1.out, ← HP.out]
    go_wp2_with fail
    go_ret
    exact ⟨by rw [HE.out]; rfl, HB1.out⟩
  have h0 : sl ≥ 1 := Classical.not_not.1 g0
  clear g0
  by_cases g1 : ¬ (sl ≤ 256)
  · have h1 := g1
    clear g1
    have HE : Hid (L = false) := keepH (by rw [HL.out]; exact decide_eq_false (fun h => h1 (by have := h; unfold tkP at this; omega)))
    go_enter Tryz.func106, Tryz.ntmps106
    go_upto_region 1 with fail
    rw [← HW1.out, ← HP.out]
    go_wp2_with fail
    go_ret
    exact ⟨by rw [HE.out]; rfl, HB1.out⟩
  have h1 : sl ≤ 256 := Classical.not_not.1 g1
  clear g1
  by_cases g2 : ¬ ((stp : Int) ≥ 1)
  · have h2 := g2
    clear g2
    have HE : Hid (L = false) := keepH (by rw [HL.out]; exact decide_eq_false (fun h => h2 (by have := h; unfold tkP at this; omega)))
    go_enter Tryz.func106, Tryz.ntmps106
    go_upto_region 1 with fail
    rw [← HW1.out, ← HP.out]
    go_wp2_with fail
    go_ret
    exact ⟨by rw [HE.out]; rfl, HB1.out⟩
  have h2 : (stp : Int) ≥ 1 := Classical.not_not.1 g2
  clear g2
  by_cases g3 : ¬ ((stp : Int) ≤ 1099511627776)
  · have h3 := g3
    clear g3
    have HE : Hid (L = false) := keepH (by rw [HL.out]; exact decide_eq_false (fun h => h3 (by have := h; unfold tkP at this; omega)))
    go_enter Tryz.func106, Tryz.ntmps106
    go_upto_region 1 with fail
    rw [← HW1.out, ← HP.out]
    go_wp2_with fail
    go_ret
    exact ⟨by rw [HE.out]; rfl, HB1.out⟩
  have h3 : (stp : Int) ≤ 1099511627776 := Classical.not_not.1 g3
  clear g3
  by_cases g4 : ¬ (mu ≥ 1)
  · have h4 := g4
    clear g4
    have HE : Hid (L = false) := keepH (by rw [HL.out]; exact decide_eq_false (fun h => h4 (by have := h; unfold tkP at this; omega)))
    go_enter Tryz.func106, Tryz.ntmps106
    go_upto_region 1 with fail
    rw [← HW1.out, ← HP.out]
    go_wp2_with fail
    go_ret
    exact ⟨by rw [HE.out]; rfl, HB1.out⟩
  have h4 : mu ≥ 1 := Classical.not_not.1 g4
  clear g4
  by_cases g5 : ¬ (mu ≤ 1024)
  · have h5 := g5
    clear g5
    have HE : Hid (L = false) := keepH (by rw [HL.out]; exact decide_eq_false (fun h => h5 (by have := h; unfold tkP at this; omega)))
    go_enter Tryz.func106, Tryz.ntmps106
    go_upto_region 1 with fail
    rw [← HW1.out, ← HP.out]
    go_wp2_with fail
    go_ret
    exact ⟨by rw [HE.out]; rfl, HB1.out⟩
  have h5 : mu ≤ 1024 := Classical.not_not.1 g5
  clear g5
  have HE : Hid (L = true) := keepH (by rw [HL.out]; exact decide_eq_true ⟨⟨h0, h1⟩, ⟨by omega, by omega⟩, ⟨h4, h5⟩⟩)
  go_enter Tryz.func106, Tryz.ntmps106
  go_upto_region 1 with fail
  rw [← HW1.out, ← HP.out]
  go_wp2_with fail
  go_ret
  exact ⟨by rw [HE.out]; rfl, HB1.out⟩
def NewQ (W : World) (E : Nat) (e : Ending) (W' : World) : Prop := (∃ p, e = .returned (.tuple #[.pointer p, .int .i64 (E : Int)])) ∧ Below W.heap.size W W'
theorem belC {W X : World} (h : Chg (fun _ => False) W X) : Below W.heap.size W X := ⟨h.os, h.tape, h.output, h.size, fun i hi => h.block i hi (fun x => x)⟩
theorem chgOf {W X : World} (h : Below W.heap.size W X) : Chg (fun _ => False) W X := ⟨h.os, h.tape, h.output, h.size, fun i hi _ => h.block i hi⟩
set_option maxRecDepth 100000 in
set_option maxHeartbeats 4000000 in
theorem build_any (ce sl : Int) (stp : Nat) (mu : Int) (W : World) : Calls Tryz.prog 84 #[.agg #[.int .i64 ce, .int .i64 sl, .int .u64 (stp : Int), .int .i64 mu], .bool false] W (NewQ W (cfgE ce sl stp mu)) := by
  obtain ⟨w1, hw1⟩ : ∃ w1, w1 = W.alloc (.cells #[.int .i64 ce, .int .i64 sl, .int .u64 (stp : Int), .int .i64 mu] 42) := ⟨_, rfl⟩
  obtain ⟨P, hP⟩ : ∃ P, P = W.heap.size := ⟨_, rfl⟩
  have B1 : Below W.heap.size W w1 := by rw [hw1]; exact below_alloc _ _
  have HX1 : Hid (w1.heap[P]? = some (.cells #[.int .i64 ce, .int .i64 sl, .int .u64 (stp : Int), .int .i64 mu] 42 (0, 0))) := keepH (by rw [hw1, hP]; exact heap_alloc_new _ _)
  have HW1 := keepH hw1
  have HP := keepH hP
  have HB1 := keepH B1
  have HTK := keepH (takes_any ce sl stp mu w1)
  obtain ⟨E, hE⟩ : ∃ E, E = cfgE ce sl stp mu := ⟨_, rfl⟩
  rw [← hE]
  have HE := keepH hE
  obtain ⟨L, hL⟩ : ∃ L, L = decide (tkP sl stp mu) := ⟨_, rfl⟩
  rw [← hL] at HTK
  have HL := keepH hL
  clear hw1 hP B1 hE hL
  have d0 : w1.cell? ⟨P, 0, none⟩ = _ := cell_of HX1.out 0
  have d1 : w1.cell? ⟨P, 1, none⟩ = _ := cell_of HX1.out 1
  have d2 : w1.cell? ⟨P, 2, none⟩ = _ := cell_of HX1.out 2
  have d3 : w1.cell? ⟨P, 3, none⟩ = _ := cell_of HX1.out 3
  cases L with
  | false =>
    have HE2 : Hid (E = 2) := keepH (by rw [HE.out, cfgE, if_pos (fun h => of_decide_eq_false HL.out.symm h.1)])
    go_enter Tryz.func84, Tryz.ntmps84
    go_upto_region 1 with fail
    rw [← HW1.out, ← HP.out]
    go_wp2_with fail
    refine HTK.out.mono ?_
    rintro e w2 ⟨rfl, B2⟩
    have HB2 := keepH (below_chain HB1.out B2)
    clear B2 d0 d1 d2 d3
    go_wp2_with fail
    go_ret2
    exact ⟨⟨none, by rw [HE2.out]; rfl⟩, HB2.out⟩
  | true =>
    go_enter Tryz.func84, Tryz.ntmps84
    go_upto_region 1 with fail
    rw [← HW1.out, ← HP.out]
    go_wp2_with fail
    refine HTK.out.mono ?_
    rintro e w2 ⟨rfl, B2⟩
    have HB2 := keepH (below_chain HB1.out B2)
    have HX2 := keepH (heap_below HX1.out B2)
    clear B2 d0 d1 d2 d3 HTK HX1
    have d0 : w2.cell? ⟨P, 0, none⟩ = _ := cell_of HX2.out 0
    by_cases hce : ¬ (128 ≤ ce ∧ ce ≤ 4194304)
    · have HE2 : Hid (E = 2) := keepH (by rw [HE.out, cfgE, if_pos (fun h => hce h.2)])
      have HN := keepH (m_newz ce w2 (by omega))
      clear hce
      go_wp2_with fail
      refine HN.out.mono ?_
      rintro e w3 ⟨rfl, rfl⟩
      go_wp2_with fail
      go_ret2
      exact ⟨⟨none, by rw [HE2.out]; rfl⟩, HB2.out⟩
    · have hce := Classical.not_not.1 hce
      have hk := of_decide_eq_true HL.out.symm
      obtain ⟨n, rfl⟩ : ∃ n : Nat, ce = (n : Int) := ⟨ce.toNat, by omega⟩
      obtain ⟨s, rfl⟩ : ∃ s : Nat, sl = (s : Int) := ⟨sl.toNat, by have := hk.1; omega⟩
      have hn : 128 ≤ n ∧ n ≤ 4194304 := by omega
      have hs : 1 ≤ s ∧ s ≤ 256 := by have := hk.1; omega
      have hE3 : E = if 66 + s ≤ n then 0 else 30 := by
        rw [HE.out, cfgE, if_neg (fun h => h ⟨hk, hce⟩)]
        by_cases h : 66 + s ≤ n
        · rw [if_pos h, if_pos (by omega)]
        · rw [if_neg h, if_neg (by omega)]
      have HE3 := keepH hE3
      have HS := keepH hs
      have HST := keepH hk.2.1
      have HNN := keepH hn
      have HN := keepH (m_new n w2 hn)
      clear hce hk hn hs hE3 HL HE
      go_wp2_with fail
      refine HN.out.mono ?_
      rintro e w3 ⟨rfl, M3, K3, C3, S3⟩
      obtain ⟨b, hb⟩ : ∃ b, b = w2.heap.size := ⟨_, rfl⟩
      obtain ⟨m, hm⟩ : ∃ m, m = w2.heap.size + 1 := ⟨_, rfl⟩
      rw [← hm, ← hb] at M3
      rw [← hb] at K3
      rw [← hm]
      have HM3 := keepH M3
      have HVW := keepH (m_view m b (-1) w3 M3)
      obtain ⟨v, hv⟩ : ∃ v, v = w3.heap.size := ⟨_, rfl⟩
      obtain ⟨w4, hw4⟩ : ∃ w4, w4 = w3.alloc (.cells #[.iface 199 (.pointer (some ⟨b, 0, none⟩)), .int .i64 (-1), .int .i64 0] 202) := ⟨_, rfl⟩
      rw [← hv, ← hw4] at HVW
      have HNS : Hid (NS W w4 v b n 1 0 (fun k => k = P)) := keepH (by
        have c4 : Chg (fun _ => False) w3 w4 := by rw [hw4]; exact (Chg.refl _ _).alloc _
        have hPl := (Array.getElem?_eq_some_iff.1 HX2.out).1
        have hWs := HB2.out.size
        have hPW : W.heap.size ≤ P := by rw [HP.out]; exact Nat.le_refl _
        have c34 := c4.size
        refine ⟨fun k => k = b, [], [], K3.chg c4 (fun _ _ x => x), by rw [hw4, hv]; exact heap_alloc_new _ _, by omega, fun k e => by omega, by omega, (chgOf HB2.out).trans (C3.trans c4 (fun _ _ x => x) (fun _ _ x => x)) (fun _ _ x => x) (fun _ _ x => x), by simp, fun k e => by omega, fun k e => ⟨by omega, by omega, by omega, by omega⟩⟩)
      have HX4 : Hid (w4.heap[P]? = some (.cells #[.int .i64 (n : Int), .int .i64 (s : Int), .int .u64 (stp : Int), .int .i64 mu] 42 (0, 0))) := keepH (by
        have hPl := (Array.getElem?_eq_some_iff.1 HX2.out).1
        rw [hw4, Below.heap_alloc _ _ _ (by have := C3.size; omega)]
        exact (C3.block P hPl (fun x => x)).trans HX2.out)
      have HTM := keepH (tmake_n HNS.out HNN.out.1 (by omega))
      clear d0 HN M3 K3 C3 S3 hb hm hv hw4 HX2 HB2
      go_wp2_with fail
      refine HVW.out.mono ?_
      rintro e wx ⟨rfl, rfl⟩
      clear HVW HNS
      go_wp2_with fail
      refine HTM.out.mono ?_
      rintro e w5 ⟨rfl, S5, K5⟩
      obtain ⟨w6, hw6⟩ : ∃ w6, w6 = w5.alloc (.cells #[.int .u64 1, .int .u64 2] 137) := ⟨_, rfl⟩
      obtain ⟨T, hT⟩ : ∃ T, T = w5.heap.size := ⟨_, rfl⟩
      have S6 := S5.new (.cells #[.int .u64 1, .int .u64 2] 137)
      rw [← hw6, ← hT] at S6
      have HX6 : Hid (w6.heap[P]? = some (.cells #[.int .i64 (n : Int), .int .i64 (s : Int), .int .u64 (stp : Int), .int .i64 mu] 42 (0, 0))) := keepH (by rw [hw6, Below.heap_alloc _ _ _ (S5.lt P rfl)]; exact (K5 P rfl).trans HX4.out)
      have HT6 : Hid (w6.heap[T]? = some (.cells #[.int .u64 1, .int .u64 2] 137 (0, 0))) := keepH (by rw [hw6, hT]; exact heap_alloc_new _ _)
      have HAM := keepH (amake_n S6 HNN.out.1 (by omega) 1 s stp HS.out HST.out)
      have d1 : w6.cell? ⟨P, 1, none⟩ = _ := cell_of HX6.out 1
      have d2 : w6.cell? ⟨P, 2, none⟩ = _ := cell_of HX6.out 2
      have t0 : w6.cell? ⟨T, 0, none⟩ = some (.int .u64 1) := cell_of HT6.out 0
      have HW6 := keepH hw6
      have HT := keepH hT
      obtain ⟨r, hr⟩ : ∃ r : Int, r = (if 66 + s ≤ n then 0 else 30) := ⟨_, rfl⟩
      rw [← hr] at HAM
      have HRR : Hid ((E : Int) = r) := keepH (by rw [HE3.out, hr]; split <;> rfl)
      have HR2 : Hid (r = 0 ∨ r = 30) := keepH (by rw [hr]; split <;> simp)
      clear S5 K5 S6 hw6 hT hr HTM HX4 HE3
      go_upto_region 8 with fail
      rw [← HW6.out, ← HT.out]
      clear HW6 HT
      go_wp2_with fail
      refine HAM.out.mono ?_
      rintro e w7 ⟨⟨x0, x1, x2, x3, rfl⟩, C7, K7⟩
      obtain ⟨w8, hw8⟩ : ∃ w8, w8 = w7.alloc (.cells #[.int .u64 x0, .int .u64 x1, .int .i64 x2, .int .u64 x3] 141) := ⟨_, rfl⟩
      obtain ⟨SL, hSL⟩ : ∃ SL, SL = w7.heap.size := ⟨_, rfl⟩
      have HC8 : Hid (Chg (fun _ => False) W w8) := keepH (by rw [hw8]; exact C7.alloc _)
      have A8 : ∀ k, k < w7.heap.size → w8.heap[k]? = w7.heap[k]? := fun k hk => by rw [hw8]; exact Below.heap_alloc _ _ _ hk
      have hP7 := (Array.getElem?_eq_some_iff.1 ((K7 P (.inl rfl)).trans HX6.out)).1
      have hT7 := (Array.getElem?_eq_some_iff.1 ((K7 T (.inr rfl)).trans HT6.out)).1
      have HX8 : Hid (w8.heap[P]? = some (.cells #[.int .i64 (n : Int), .int .i64 (s : Int), .int .u64 (stp : Int), .int .i64 mu] 42 (0, 0))) := keepH ((A8 P hP7).trans ((K7 P (.inl rfl)).trans HX6.out))
      have HT8 : Hid (w8.heap[T]? = some (.cells #[.int .u64 1, .int .u64 2] 137 (0, 0))) := keepH ((A8 T hT7).trans ((K7 T (.inr rfl)).trans HT6.out))
      have HS8 : Hid (w8.heap[SL]? = some (.cells #[.int .u64 x0, .int .u64 x1, .int .i64 x2, .int .u64 x3] 141 (0, 0))) := keepH (by rw [hw8, hSL]; exact heap_alloc_new _ _)
      have HW8 := keepH hw8
      have HSL := keepH hSL
      clear C7 K7 hw8 hSL A8 hP7 hT7 d1 d2 t0 HX6 HT6 HAM
      go_upto_region 11 with fail
      rw [← HW8.out, ← HSL.out]
      clear HW8 HSL
      rcases HR2.out with rfl | rfl
      · have d3 : w8.cell? ⟨P, 3, none⟩ = _ := cell_of HX8.out 3
        have t0 : w8.cell? ⟨T, 0, none⟩ = some (.int .u64 1) := cell_of HT8.out 0
        have t1 : w8.cell? ⟨T, 1, none⟩ = some (.int .u64 2) := cell_of HT8.out 1
        have s0 : w8.cell? ⟨SL, 0, none⟩ = _ := cell_of HS8.out 0
        have s1 : w8.cell? ⟨SL, 1, none⟩ = _ := cell_of HS8.out 1
        have s2 : w8.cell? ⟨SL, 2, none⟩ = _ := cell_of HS8.out 2
        have s3 : w8.cell? ⟨SL, 3, none⟩ = _ := cell_of HS8.out 3
        go_wp2_with fail
        go_ret2
        exact ⟨⟨_, by rw [HRR.out]; rfl⟩, belC (HC8.out.alloc _)⟩
      · go_wp2_with fail
        go_ret2
        exact ⟨⟨none, by rw [HRR.out]; rfl⟩, belC HC8.out⟩
set_option maxRecDepth 100000 in
theorem sNew_any (ce sl : Int) (stp : Nat) (mu : Int) (W : World) : Calls Tryz.prog 46 #[.agg #[.int .i64 ce, .int .i64 sl, .int .u64 (stp : Int), .int .i64 mu]] W (NewQ W (cfgE ce sl stp mu)) := by
  obtain ⟨w1, hw1⟩ : ∃ w1, w1 = W.alloc (.cells #[.int .i64 ce, .int .i64 sl, .int .u64 (stp : Int), .int .i64 mu] 42) := ⟨_, rfl⟩
  obtain ⟨P, hP⟩ : ∃ P, P = W.heap.size := ⟨_, rfl⟩
  have HB1 : Hid (Below W.heap.size W w1) := keepH (by rw [hw1]; exact below_alloc _ _)
  have X1 : w1.heap[P]? = some (.cells #[.int .i64 ce, .int .i64 sl, .int .u64 (stp : Int), .int .i64 mu] 42 (0, 0)) := by rw [hw1, hP]; exact heap_alloc_new _ _
  have d0 : w1.cell? ⟨P, 0, none⟩ = _ := cell_of X1 0
  have d1 : w1.cell? ⟨P, 1, none⟩ = _ := cell_of X1 1
  have d2 : w1.cell? ⟨P, 2, none⟩ = _ := cell_of X1 2
  have d3 : w1.cell? ⟨P, 3, none⟩ = _ := cell_of X1 3
  have HW1 := keepH hw1
  have HP := keepH hP
  have HBD := keepH (build_any ce sl stp mu w1)
  clear hw1 hP X1
  go_enter Tryz.func46, Tryz.ntmps46
  go_upto_region 1 with fail
  rw [← HW1.out, ← HP.out]
  go_wp2_with fail
  refine HBD.out.mono ?_
  rintro e w2 ⟨⟨p, rfl⟩, B2⟩
  have HB2 := keepH (below_chain HB1.out B2)
  clear B2
  go_wp2_with fail
  go_ret2
  exact ⟨⟨p, rfl⟩, HB2.out⟩
end Go.Proofs.YtmmaniolaljjlaaGreatDoor
/- A new store, by the document: the errno. (mkSei.py) -/
namespace Go.Proofs.YtmmaniolaljjlaaGreatDoor
open Go.RowKit Go.Shelf
set_option linter.unusedVariables false

set_option maxRecDepth 100000 in
set_option maxHeartbeats 4000000 in
theorem dNew_any (ce sl : Int) (stp : Nat) (mu : Int) (W : World) : Calls Tryz.prog 49 #[.agg #[.int .i64 ce, .int .i64 sl, .int .u64 (stp : Int), .int .i64 mu]] W (NewQ W (cfgE ce sl stp mu)) := by
  obtain ⟨w1, hw1⟩ : ∃ w1, w1 = W.alloc (.cells #[.int .i64 ce, .int .i64 sl, .int .u64 (stp : Int), .int .i64 mu] 42) := ⟨_, rfl⟩
  obtain ⟨P, hP⟩ : ∃ P, P = W.heap.size := ⟨_, rfl⟩
  have B1 : Below W.heap.size W w1 := by rw [hw1]; exact below_alloc _ _
  have HX1 : Hid (w1.heap[P]? = some (.cells #[.int .i64 ce, .int .i64 sl, .int .u64 (stp : Int), .int .i64 mu] 42 (0, 0))) := keepH (by rw [hw1, hP]; exact heap_alloc_new _ _)
  have HW1 := keepH hw1
  have HP := keepH hP
  have HB1 := keepH B1
  obtain ⟨E, hE⟩ : ∃ E, E = cfgE ce sl stp mu := ⟨_, rfl⟩
  rw [← hE]
  have HE := keepH hE
  clear hw1 hP B1 hE
  have d0 : w1.cell? ⟨P, 0, none⟩ = _ := cell_of HX1.out 0
  have d1 : w1.cell? ⟨P, 1, none⟩ = _ := cell_of HX1.out 1
  have d2 : w1.cell? ⟨P, 2, none⟩ = _ := cell_of HX1.out 2
  have d3 : w1.cell? ⟨P, 3, none⟩ = _ := cell_of HX1.out 3
  by_cases h0 : ce < 128
  · have HE2 : Hid (E = 2) := keepH (by rw [HE.out, cfgE, if_pos (fun h => by obtain ⟨⟨u1, u2, u3⟩, u4⟩ := h; omega)])
    go_enter Tryz.func49, Tryz.ntmps49
    go_upto_region 1 with fail
    rw [← HW1.out, ← HP.out]
    go_wp2_with fail
    go_ret2
    exact ⟨⟨none, by rw [HE2.out]; rfl⟩, HB1.out⟩
  by_cases h1 : ce > 4194304
  · have HE2 : Hid (E = 2) := keepH (by rw [HE.out, cfgE, if_pos (fun h => by obtain ⟨⟨u1, u2, u3⟩, u4⟩ := h; omega)])
    go_enter Tryz.func49, Tryz.ntmps49
    go_upto_region 1 with fail
    rw [← HW1.out, ← HP.out]
    go_wp2_with fail
    go_ret2
    exact ⟨⟨none, by rw [HE2.out]; rfl⟩, HB1.out⟩
  by_cases h2 : sl < 1
  · have HE2 : Hid (E = 2) := keepH (by rw [HE.out, cfgE, if_pos (fun h => by obtain ⟨⟨u1, u2, u3⟩, u4⟩ := h; omega)])
    go_enter Tryz.func49, Tryz.ntmps49
    go_upto_region 1 with fail
    rw [← HW1.out, ← HP.out]
    go_wp2_with fail
    go_ret2
    exact ⟨⟨none, by rw [HE2.out]; rfl⟩, HB1.out⟩
  by_cases h3 : sl > 256
  · have HE2 : Hid (E = 2) := keepH (by rw [HE.out, cfgE, if_pos (fun h => by obtain ⟨⟨u1, u2, u3⟩, u4⟩ := h; omega)])
    go_enter Tryz.func49, Tryz.ntmps49
    go_upto_region 1 with fail
    rw [← HW1.out, ← HP.out]
    go_wp2_with fail
    go_ret2
    exact ⟨⟨none, by rw [HE2.out]; rfl⟩, HB1.out⟩
  by_cases h4 : (stp : Int) < 1
  · have HE2 : Hid (E = 2) := keepH (by rw [HE.out, cfgE, if_pos (fun h => by obtain ⟨⟨u1, u2, u3⟩, u4⟩ := h; omega)])
    go_enter Tryz.func49, Tryz.ntmps49
    go_upto_region 1 with fail
    rw [← HW1.out, ← HP.out]
    go_wp2_with fail
    go_ret2
    exact ⟨⟨none, by rw [HE2.out]; rfl⟩, HB1.out⟩
  by_cases h5 : (stp : Int) > 1099511627776
  · have HE2 : Hid (E = 2) := keepH (by rw [HE.out, cfgE, if_pos (fun h => by obtain ⟨⟨u1, u2, u3⟩, u4⟩ := h; omega)])
    go_enter Tryz.func49, Tryz.ntmps49
    go_upto_region 1 with fail
    rw [← HW1.out, ← HP.out]
    go_wp2_with fail
    go_ret2
    exact ⟨⟨none, by rw [HE2.out]; rfl⟩, HB1.out⟩
  by_cases h6 : mu < 1
  · have HE2 : Hid (E = 2) := keepH (by rw [HE.out, cfgE, if_pos (fun h => by obtain ⟨⟨u1, u2, u3⟩, u4⟩ := h; omega)])
    go_enter Tryz.func49, Tryz.ntmps49
    go_upto_region 1 with fail
    rw [← HW1.out, ← HP.out]
    go_wp2_with fail
    go_ret2
    exact ⟨⟨none, by rw [HE2.out]; rfl⟩, HB1.out⟩
  by_cases h7 : mu > 1024
  · have HE2 : Hid (E = 2) := keepH (by rw [HE.out, cfgE, if_pos (fun h => by obtain ⟨⟨u1, u2, u3⟩, u4⟩ := h; omega)])
    go_enter Tryz.func49, Tryz.ntmps49
    go_upto_region 1 with fail
    rw [← HW1.out, ← HP.out]
    go_wp2_with fail
    go_ret2
    exact ⟨⟨none, by rw [HE2.out]; rfl⟩, HB1.out⟩
  obtain ⟨n, rfl⟩ : ∃ n : Nat, ce = (n : Int) := ⟨ce.toNat, by omega⟩
  obtain ⟨s, rfl⟩ : ∃ s : Nat, sl = (s : Int) := ⟨sl.toNat, by omega⟩
  have hn : 128 ≤ n ∧ n ≤ 4194304 := by omega
  have hs : 1 ≤ s ∧ s ≤ 256 := by omega
  have hst : 1 ≤ stp ∧ stp ≤ 1099511627776 := by omega
  have hE3 : E = if 66 + s ≤ n then 0 else 30 := by
    rw [HE.out, cfgE, if_neg (fun h => h ⟨⟨by omega, by omega, by omega⟩, by omega⟩)]
    by_cases h : 66 + s ≤ n
    · rw [if_pos h, if_pos (by omega)]
    · rw [if_neg h, if_neg (by omega)]
  have HE3 := keepH hE3
  have HS := keepH hs
  have HST := keepH hst
  have HNN := keepH hn
  have HN := keepH (r_new n w1 hn)
  clear hn hs hst hE3 HE
  go_enter Tryz.func49, Tryz.ntmps49
  go_upto_region 1 with fail
  rw [← HW1.out, ← HP.out]
  go_wp2_with fail
  refine HN.out.mono ?_
  rintro e w3 ⟨rfl, M3, C3, S3⟩
  obtain ⟨m, hm⟩ : ∃ m, m = w1.heap.size + 1 := ⟨_, rfl⟩
  rw [← hm] at M3 ⊢
  have HNS : Hid (NR W w3 m n 1 0 (fun k => k = P)) := keepH (by
    have hPl := (Array.getElem?_eq_some_iff.1 HX1.out).1
    have hWs := HB1.out.size
    have hPW : W.heap.size ≤ P := by rw [HP.out]; exact Nat.le_refl _
    refine ⟨_, [], [], M3, fun k e => by omega, (chgOf HB1.out).trans C3 (fun _ _ x => x) (fun _ _ x => x), by simp, by have := HNN.out; omega, fun k e => ⟨by omega, by omega, by omega⟩⟩)
  have HX4 : Hid (w3.heap[P]? = some (.cells #[.int .i64 (n : Int), .int .i64 (s : Int), .int .u64 (stp : Int), .int .i64 mu] 42 (0, 0))) := keepH ((C3.block P (Array.getElem?_eq_some_iff.1 HX1.out).1 (fun x => x)).trans HX1.out)
  have HTM := keepH (dmake_n HNS.out HNN.out.1 (by omega))
  clear d0 d1 d2 d3 HN M3 C3 S3 hm HX1 HB1 HNS h0 h1 h2 h3 h4 h5 h6 h7
  go_wp2_with fail
  refine HTM.out.mono ?_
  rintro e w5 ⟨rfl, S5, K5⟩
  obtain ⟨w6, hw6⟩ : ∃ w6, w6 = w5.alloc (.cells #[.int .u64 1, .int .u64 2] 137) := ⟨_, rfl⟩
  obtain ⟨T, hT⟩ : ∃ T, T = w5.heap.size := ⟨_, rfl⟩
  have S6 := S5.new (.cells #[.int .u64 1, .int .u64 2] 137)
  rw [← hw6, ← hT] at S6
  have HX6 : Hid (w6.heap[P]? = some (.cells #[.int .i64 (n : Int), .int .i64 (s : Int), .int .u64 (stp : Int), .int .i64 mu] 42 (0, 0))) := keepH (by rw [hw6, Below.heap_alloc _ _ _ (S5.lt P rfl)]; exact (K5 P rfl).trans HX4.out)
  have HT6 : Hid (w6.heap[T]? = some (.cells #[.int .u64 1, .int .u64 2] 137 (0, 0))) := keepH (by rw [hw6, hT]; exact heap_alloc_new _ _)
  have HAM := keepH (emake_n S6 HNN.out.1 (by omega) 1 s stp HS.out HST.out)
  have d1 : w6.cell? ⟨P, 1, none⟩ = _ := cell_of HX6.out 1
  have d2 : w6.cell? ⟨P, 2, none⟩ = _ := cell_of HX6.out 2
  have t0 : w6.cell? ⟨T, 0, none⟩ = some (.int .u64 1) := cell_of HT6.out 0
  have HW6 := keepH hw6
  have HT := keepH hT
  obtain ⟨r, hr⟩ : ∃ r : Int, r = (if 66 + s ≤ n then 0 else 30) := ⟨_, rfl⟩
  rw [← hr] at HAM
  have HRR : Hid ((E : Int) = r) := keepH (by rw [HE3.out, hr]; split <;> rfl)
  have HR2 : Hid (r = 0 ∨ r = 30) := keepH (by rw [hr]; split <;> simp)
  clear S5 K5 S6 hw6 hT hr HTM HX4 HE3
  go_upto_region 5 with fail
  rw [← HW6.out, ← HT.out]
  clear HW6 HT
  go_wp2_with fail
  refine HAM.out.mono ?_
  rintro e w7 ⟨⟨x0, x1, x2, x3, rfl⟩, C7, K7⟩
  obtain ⟨w8, hw8⟩ : ∃ w8, w8 = w7.alloc (.cells #[.int .u64 x0, .int .u64 x1, .int .i64 x2, .int .u64 x3] 141) := ⟨_, rfl⟩
  obtain ⟨SL, hSL⟩ : ∃ SL, SL = w7.heap.size := ⟨_, rfl⟩
  have HC8 : Hid (Chg (fun _ => False) W w8) := keepH (by rw [hw8]; exact C7.alloc _)
  have A8 : ∀ k, k < w7.heap.size → w8.heap[k]? = w7.heap[k]? := fun k hk => by rw [hw8]; exact Below.heap_alloc _ _ _ hk
  have hP7 := (Array.getElem?_eq_some_iff.1 ((K7 P (.inl rfl)).trans HX6.out)).1
  have hT7 := (Array.getElem?_eq_some_iff.1 ((K7 T (.inr rfl)).trans HT6.out)).1
  have HX8 : Hid (w8.heap[P]? = some (.cells #[.int .i64 (n : Int), .int .i64 (s : Int), .int .u64 (stp : Int), .int .i64 mu] 42 (0, 0))) := keepH ((A8 P hP7).trans ((K7 P (.inl rfl)).trans HX6.out))
  have HT8 : Hid (w8.heap[T]? = some (.cells #[.int .u64 1, .int .u64 2] 137 (0, 0))) := keepH ((A8 T hT7).trans ((K7 T (.inr rfl)).trans HT6.out))
  have HS8 : Hid (w8.heap[SL]? = some (.cells #[.int .u64 x0, .int .u64 x1, .int .i64 x2, .int .u64 x3] 141 (0, 0))) := keepH (by rw [hw8, hSL]; exact heap_alloc_new _ _)
  have HW8 := keepH hw8
  have HSL := keepH hSL
  clear C7 K7 hw8 hSL A8 hP7 hT7 d1 d2 t0 HX6 HT6 HAM
  go_upto_region 8 with fail
  rw [← HW8.out, ← HSL.out]
  clear HW8 HSL
  rcases HR2.out with rfl | rfl
  · have d3 : w8.cell? ⟨P, 3, none⟩ = _ := cell_of HX8.out 3
    have t0 : w8.cell? ⟨T, 0, none⟩ = some (.int .u64 1) := cell_of HT8.out 0
    have t1 : w8.cell? ⟨T, 1, none⟩ = some (.int .u64 2) := cell_of HT8.out 1
    have s0 : w8.cell? ⟨SL, 0, none⟩ = _ := cell_of HS8.out 0
    have s1 : w8.cell? ⟨SL, 1, none⟩ = _ := cell_of HS8.out 1
    have s2 : w8.cell? ⟨SL, 2, none⟩ = _ := cell_of HS8.out 2
    have s3 : w8.cell? ⟨SL, 3, none⟩ = _ := cell_of HS8.out 3
    go_wp2_with fail
    go_ret2
    exact ⟨⟨_, by rw [HRR.out]; rfl⟩, belC (HC8.out.alloc _)⟩
  · go_wp2_with fail
    go_ret2
    exact ⟨⟨none, by rw [HRR.out]; rfl⟩, belC HC8.out⟩
end Go.Proofs.YtmmaniolaljjlaaGreatDoor
/- Is anything of a script too long? By the program. -/
namespace Go.Proofs.YtmmaniolaljjlaaGreatDoor
open Go.RowKit Go.Shelf
set_option linter.unusedVariables false

instance (ts : List (List Opx)) (ps : List Int) : Decidable (longT ts ps) := by unfold longT; infer_instance
instance (P : Opx → Prop) [DecidablePred P] (ts : List (List Opx)) : Decidable (anyO P ts) := by unfold anyO; infer_instance
set_option maxRecDepth 100000 in
set_option maxHeartbeats 4000000 in
theorem tooLong_any (ce sl : Int) (stp : Nat) (mu : Int) (tp : Option Addr) (tc : Nat) (pp : Option Addr) (pc : Nat) (ts : List (List Opx)) (ps : List Int) (hS : SOk ts ps) (W : World) (hT : TRd W tp ts) :
    Calls Tryz.prog 47 #[.agg (scR ce sl stp mu (.slice tp ts.length tc) (.slice pp ps.length pc))] W fun e W' => e = .returned (.bool (decide (longT ts ps))) ∧ Below W.heap.size W W' := by
  obtain ⟨L, hL⟩ : ∃ L, L = decide (longT ts ps) := ⟨_, rfl⟩
  rw [← hL]
  have HLG := keepH hL
  obtain ⟨n, hn⟩ : ∃ n, n = ts.length := ⟨_, rfl⟩
  obtain ⟨m, hm⟩ : ∃ m, m = ps.length := ⟨_, rfl⟩
  have hn1 := hS.tl
  have hm1 := hS.pl
  rw [← hn] at hn1 ⊢
  rw [← hm] at hm1 ⊢
  obtain ⟨w1, hw1⟩ : ∃ w1, w1 = W.alloc (.cells (scR ce sl stp mu (.slice tp n tc) (.slice pp m pc)) 46) := ⟨_, rfl⟩
  obtain ⟨P, hP⟩ : ∃ P, P = W.heap.size := ⟨_, rfl⟩
  have B1 : Below W.heap.size W w1 := by rw [hw1]; exact below_alloc _ _
  have X1 : w1.heap[P]? = some (.cells (scR ce sl stp mu (.slice tp n tc) (.slice pp m pc)) 46 (0, 0)) := by rw [hw1, hP]; exact heap_alloc_new _ _
  have p4 : w1.cell? ⟨P, 4, none⟩ = _ := cell_of X1 4
  have p5 : w1.cell? ⟨P, 5, none⟩ = _ := cell_of X1 5
  have HN := keepH hn
  have HM := keepH hm
  have HW1 := keepH hw1
  have HP := keepH hP
  have HB1 := keepH B1
  have HT := keepH (hT.on B1)
  have HS := keepH hS
  clear hn hm hw1 hP B1 X1 hT hS hL
  go_enter Tryz.func47, Tryz.ntmps47
  go_upto_region 1 with fail
  rw [← HW1.out, ← HP.out]
  go_wp2_with fail
  go_loopw [4, 8] (fun s4 s8 wr => ∃ i : Nat, i ≤ n ∧ s8 = .int .i64 (i : Int) ∧ wr = w1 ∧ Hid (∀ l ∈ ts.take i, l.length ≤ 4096)) (fun _ s8 _ => n - (intOf s8).toNat)
  case atStart => exact ⟨0, by omega, rfl, rfl, keepH (fun l hl => by simp at hl)⟩
  case round =>
    obtain ⟨i, hi, rfl, rfl, HA⟩ := hrel
    by_cases hlt : i < n
    · have q1 : (i : Int) < (n : Int) := by omega
      have q0 : (0 : Int) ≤ (i : Int) := by omega
      obtain ⟨l, hl⟩ : ∃ l, ts[i]? = some l := ⟨ts[i]'(by have := HN.out; omega), List.getElem?_eq_getElem _⟩
      obtain ⟨bk, off, lp, lc, rfl, hbk, hO, c0⟩ := HT.out.get i l hl
      obtain ⟨k, hk⟩ : ∃ k, k = l.length := ⟨_, rfl⟩
      have hk1 := HS.out.ll l (List.mem_of_getElem? hl)
      rw [← hk] at c0 hk1
      have HX := keepH hl
      have HK := keepH hk
      clear hl hk hbk hO
      by_cases h4 : 4096 < k
      · have q4 : (k : Int) > 4096 := by omega
        have HE : Hid (L = true) := keepH (by rw [HLG.out]; simp only [decide_eq_true_eq]; exact .inl ⟨l, List.mem_of_getElem? HX.out, by have := HK.out; omega⟩)
        clear h4
        go_wp2_with fail
        go_ret
        exact ⟨by rw [HE.out]; rfl, HB1.out⟩
      · have q4 : ¬ (k : Int) > 4096 := by omega
        have HNX : Hid (∀ l ∈ ts.take (i + 1), l.length ≤ 4096) := keepH (fun x hx => by
          rw [List.take_add_one, HX.out] at hx
          rcases List.mem_append.1 hx with hx | hx
          · exact HA.out x hx
          · simp at hx; subst hx; have := HK.out; omega)
        clear h4
        go_wp2_with fail
        go_roundw
        case rel => exact ⟨i + 1, by omega, by first | rfl | go_num, by trivial, HNX⟩
        case measure => simp [intOf]; omega
    · obtain rfl : i = n := by omega
      have q1 : ¬ (i : Int) < (i : Int) := by omega
      have HE : Hid (L = (decide (64 < i) || decide (1048576 < m))) := keepH (by
        rw [HLG.out, ← Bool.decide_or, decide_eq_decide]
        unfold longT
        rw [← HN.out, ← HM.out]
        constructor
        · rintro (⟨l, hl, h4⟩ | h)
          · have := HA.out l (by rw [HN.out, List.take_length]; exact hl)
            omega
          · exact h
        · exact .inr)
      by_cases h6 : 64 < i
      · have q6 : (i : Int) > 64 := by omega
        have HE2 : Hid (L = true) := keepH (by rw [HE.out]; simp [h6])
        clear h6
        go_wp2_with fail
        go_ret
        exact ⟨by rw [HE2.out]; rfl, HB1.out⟩
      · have q6 : ¬ (i : Int) > 64 := by omega
        by_cases h7 : 1048576 < m
        · have q7 : (m : Int) > 1048576 := by omega
          have HE2 : Hid (L = true) := keepH (by rw [HE.out]; simp [h7])
          clear h6 h7
          go_wp2_with fail
          go_ret
          exact ⟨by rw [HE2.out]; rfl, HB1.out⟩
        · have q7 : ¬ (m : Int) > 1048576 := by omega
          have HE2 : Hid (L = false) := keepH (by rw [HE.out]; simp [h6, h7])
          clear h6 h7
          go_wp2_with fail
          go_ret
          exact ⟨by rw [HE2.out]; rfl, HB1.out⟩
end Go.Proofs.YtmmaniolaljjlaaGreatDoor
