/- A store under a lock is made: its numbers, its slots. -/
import Derived.Test.YtgaincicbgojjaaK5
import Derived.Laws.MakeOwn
namespace Go.Proofs.Ytgaincicbgojjaa
open Go.RowKit
set_option linter.unusedVariables false

def cfgC (a b c d : Int) : Array Value := #[.int .i64 a, .int .i64 b, .int .u64 c, .int .i64 d]
def takesP (a b c : Int) : Bool := decide (128 ≤ a ∧ a ≤ 4194304 ∧ 1 ≤ b ∧ b ≤ 256 ∧ 1 ≤ c ∧ c ≤ 1099511627776)
set_option maxRecDepth 100000 in
theorem k_takes (a b c d : Int) (W : World) : Calls Try.prog 22 #[.agg #[.int .i64 a, .int .i64 b, .int .u64 c, .int .i64 d]] W fun e W' => e = .returned (.bool (takesP a b c)) ∧ Chg (fun _ => False) W W' := by
  by_cases h0 : 128 ≤ a
  rotate_left
  · have HT : Hid (takesP a b c = false) := by show _ = _; unfold takesP; simp; omega
    go_enter Try.func22, Try.ntmps22
    go_wp2_with fail
    go_ret
    exact ⟨by rw [HT.out]; rfl, (Chg.refl _ _).alloc _⟩
  by_cases h1 : a ≤ 4194304
  rotate_left
  · have HT : Hid (takesP a b c = false) := by show _ = _; unfold takesP; simp; omega
    go_enter Try.func22, Try.ntmps22
    go_wp2_with fail
    go_ret
    exact ⟨by rw [HT.out]; rfl, (Chg.refl _ _).alloc _⟩
  by_cases h2 : 1 ≤ b
  rotate_left
  · have HT : Hid (takesP a b c = false) := by show _ = _; unfold takesP; simp; omega
    go_enter Try.func22, Try.ntmps22
    go_wp2_with fail
    go_ret
    exact ⟨by rw [HT.out]; rfl, (Chg.refl _ _).alloc _⟩
  by_cases h3 : b ≤ 256
  rotate_left
  · have HT : Hid (takesP a b c = false) := by show _ = _; unfold takesP; simp; omega
    go_enter Try.func22, Try.ntmps22
    go_wp2_with fail
    go_ret
    exact ⟨by rw [HT.out]; rfl, (Chg.refl _ _).alloc _⟩
  by_cases h4 : 1 ≤ c
  rotate_left
  · have HT : Hid (takesP a b c = false) := by show _ = _; unfold takesP; simp; omega
    go_enter Try.func22, Try.ntmps22
    go_wp2_with fail
    go_ret
    exact ⟨by rw [HT.out]; rfl, (Chg.refl _ _).alloc _⟩
  by_cases h5 : c ≤ 1099511627776
  rotate_left
  · have HT : Hid (takesP a b c = false) := by show _ = _; unfold takesP; simp; omega
    go_enter Try.func22, Try.ntmps22
    go_wp2_with fail
    go_ret
    exact ⟨by rw [HT.out]; rfl, (Chg.refl _ _).alloc _⟩
  have HT : Hid (takesP a b c = true) := by show _ = _; unfold takesP; simp; omega
  go_enter Try.func22, Try.ntmps22
  go_wp2_with fail
  go_ret
  exact ⟨by rw [HT.out]; rfl, (Chg.refl _ _).alloc _⟩
theorem infoSlot : (Try.prog.info? 136).map (fun i => (i.zero, i.size, i.bytes)) = some (some (.agg #[.bool false, .int .u64 0]), 2, 16) := by kernel_rfl
theorem made_slots (N : Nat) : madeCells #[.bool false, .int .u64 0] (N * 2) = (slC (List.replicate N (false, 0))).toArray := by
  apply Array.ext_getElem?
  intro j
  by_cases hj : j < N * 2
  · have hr : (List.replicate N (false, 0))[j / 2]? = some (false, 0) := by
      rw [List.getElem?_replicate, if_pos (by omega)]
    have hg := slC_get _ (j / 2) _ hr
    unfold madeCells
    rw [Array.getElem?_map, Array.getElem?_range, if_pos hj]
    rcases Nat.mod_two_eq_zero_or_one j with h | h
    · have e : j = j / 2 * 2 := by omega
      rw [List.getElem?_toArray]
      conv => rhs; rw [e]
      rw [hg.1]
      simp [h]
    · have e : j = j / 2 * 2 + 1 := by omega
      rw [List.getElem?_toArray]
      conv => rhs; rw [e]
      rw [hg.2]
      simp [h]
  · rw [Array.getElem?_eq_none (by rw [size_madeCells]; omega), List.getElem?_toArray, List.getElem?_eq_none (by rw [slC_len, List.length_replicate]; omega)]
theorem make_slots (N : Nat) (hN : N ≤ 256) (u : World) : (Instr.makeSlice 65 (.int .i64 (N : Int)) (.int .i64 (N : Int))).run Try.prog u = .ok (.slice (some ⟨u.heap.size, 0, none⟩) N N) (u.alloc (.cells (slC (List.replicate N (false, 0))).toArray 136)) := by
  obtain ⟨i0, hi, hz0, hz1, hz2⟩ := info_parts infoSlot
  have h := run_make (P := Try.prog) u 65 136 i0 (.agg #[.bool false, .int .u64 0]) Try.underlying65 hi hz0 .i64 .i64 (N : Int) (N : Int) (by omega) (Int.le_refl _) (by rw [hz2]; omega) (by omega)
  rw [hz1] at h
  rw [← made_slots]
  simpa [Value.cells] using h
set_option maxRecDepth 100000 in
set_option maxHeartbeats 1000000 in
theorem k_slots {a d : Int} {N st : Nat} (h2 : N ≤ 256) (h3 : 1 ≤ st) (h4 : st ≤ 1099511627776) (W : World) :
    Calls Try.prog 23 #[.agg #[.int .i64 a, .int .i64 (N : Int), .int .u64 (st : Int), .int .i64 d]] W fun e W' => ∃ sb, e = .returned (.agg #[.slice (some ⟨sb, 0, none⟩) N N, .int .i64 0, .int .u64 ((st - 1 : Nat) : Int)]) ∧ W.heap.size ≤ sb ∧ W'.heap[sb]? = some (.cells (slC (List.replicate N (false, 0))).toArray 136 (0, 0)) ∧ Chg (fun _ => False) W W' := by
  have hmk := make_slots N h2
  have HS : Hid (((st - 1 : Nat) : Int) = (st : Int) - 1) := by show _ = _; omega
  have l1 : (1 : Int) ≤ (st : Int) := by omega
  have l2 : (st : Int) ≤ 1099511627776 := by omega
  clear h2 h3 h4
  rw [HS.out]
  obtain ⟨w0, hw0⟩ : ∃ w0, w0 = (W.alloc (.cells #[.int .i64 a, .int .i64 (N : Int), .int .u64 (st : Int), .int .i64 d] 40)).alloc (.cells #[.slice none 0 0, .int .i64 0, .int .u64 0] 67) := ⟨_, rfl⟩
  have C0 : Chg (fun _ => False) W w0 := by rw [hw0]; exact ((Chg.refl _ _).alloc _).alloc _
  have o0 : w0.heap[W.heap.size]? = some (.cells #[.int .i64 a, .int .i64 (N : Int), .int .u64 (st : Int), .int .i64 d] 40 (0, 0)) := by rw [hw0]; exact alloc_of (heap_alloc_new _ _) _
  have a0 : w0.heap[W.heap.size + 1]? = some (.cells #[.slice none 0 0, .int .i64 0, .int .u64 0] 67 (0, 0)) := by
    have e := heap_alloc_new (W.alloc (.cells #[.int .i64 a, .int .i64 (N : Int), .int .u64 (st : Int), .int .i64 d] 40)) (.cells #[.slice none 0 0, .int .i64 0, .int .u64 0] 67)
    rw [World.size_alloc] at e
    rw [hw0]
    exact e
  obtain ⟨w1, hw1⟩ : ∃ w1, w1 = w0.drew.alloc (.cells (slC (List.replicate N (false, 0))).toArray 136) := ⟨_, rfl⟩
  have C1 : Chg (fun _ => False) w0 w1 := by rw [hw1]; exact (Chg.refl (fun _ => False) w0).drew.alloc _
  have o1 : w1.heap[W.heap.size]? = some (.cells #[.int .i64 a, .int .i64 (N : Int), .int .u64 (st : Int), .int .i64 d] 40 (0, 0)) := (C1.block _ (lt_of o0) (fun x => x)).trans o0
  have a1 : w1.heap[W.heap.size + 1]? = some (.cells #[.slice none 0 0, .int .i64 0, .int .u64 0] 67 (0, 0)) := (C1.block _ (lt_of a0) (fun x => x)).trans a0
  have r1 : w1.heap[w0.heap.size]? = some (.cells (slC (List.replicate N (false, 0))).toArray 136 (0, 0)) := by rw [hw1]; exact heap_alloc_new w0.drew _
  have HS0 : Hid (w0.cell? ⟨W.heap.size, 1, none⟩ = some (.int .i64 (N : Int)) ∧ w0.cell? ⟨W.heap.size, 2, none⟩ = some (.int .u64 (st : Int))) := ⟨cell_of o0 1, cell_of o0 2⟩
  have hS1 : w1.cell? ⟨W.heap.size, 1, none⟩ = some (.int .i64 (N : Int)) ∧ w1.cell? ⟨W.heap.size, 2, none⟩ = some (.int .u64 (st : Int)) := ⟨cell_of o1 1, cell_of o1 2⟩
  have hmk1 : (Instr.makeSlice 65 (.int .i64 (N : Int)) (.int .i64 (N : Int))).run Try.prog w0.drew = .ok (.slice (some ⟨w0.heap.size, 0, none⟩) N N) w1 := by rw [hw1]; exact hmk _
  have hwr : IntKind.u64.wrap ((st : Int) - 1) = (st : Int) - 1 := by rw [IntKind.wrap_u64]; omega
  have HZ : Hid (W.heap.size ≤ w0.heap.size ∧ W.heap.size + 1 < w0.heap.size) := ⟨C0.size, lt_of a0⟩
  obtain ⟨w2, hw2⟩ : ∃ w2, w2 = ((w1.setCell ⟨W.heap.size + 1, 0, none⟩ (.slice (some ⟨w0.heap.size, 0, none⟩) N N)).setCell ⟨W.heap.size + 1, 1, none⟩ (.int .i64 0)).setCell ⟨W.heap.size + 1, 2, none⟩ (.int .u64 ((st : Int) - 1)) := ⟨_, rfl⟩
  have a2 : w2.heap[W.heap.size + 1]? = some (.cells #[.slice (some ⟨w0.heap.size, 0, none⟩) N N, .int .i64 0, .int .u64 ((st : Int) - 1)] 67 (0, 0)) := by
    rw [hw2]
    exact set_of (set_of (set_of a1 0 _) 1 _) 2 _
  have hS2 : w2.cell? ⟨W.heap.size, 1, none⟩ = some (.int .i64 (N : Int)) ∧ w2.cell? ⟨W.heap.size, 2, none⟩ = some (.int .u64 (st : Int)) := by
    have q : w2.heap[W.heap.size]? = some (.cells #[.int .i64 a, .int .i64 (N : Int), .int .u64 (st : Int), .int .i64 d] 40 (0, 0)) := by
      rw [hw2]
      exact other_of (other_of (other_of o1 (by omega) _) (by omega) _) (by omega) _
    exact ⟨cell_of q 1, cell_of q 2⟩
  have HE : Hid (w2.heap[w0.heap.size]? = some (.cells (slC (List.replicate N (false, 0))).toArray 136 (0, 0)) ∧ Chg (fun _ => False) W w2) := by
    refine ⟨?_, ?_⟩
    · rw [hw2]
      have := HZ.out
      exact other_of (other_of (other_of r1 (by omega) _) (by omega) _) (by omega) _
    · have c : Chg (fun k => k = W.heap.size + 1) W w2 := by
        rw [hw2]
        exact ((((C0.trans C1 (H := fun k => k = W.heap.size + 1) (fun _ _ x => x.elim) (fun _ _ x => x.elim)).setCell (fun _ => rfl) _).setCell (fun _ => rfl) _).setCell (fun _ => rfl) _)
      exact c.mono (fun i hi e => by omega)
  have e0 := cell_of a2 0
  have e1 := cell_of a2 1
  have e2 := cell_of a2 2
  have f0 := free_of a1 0
  have f1 := free_of a1 1
  have f2 := free_of a1 2
  have g0 := cell_of a1 0
  have g1 := cell_of a1 1
  have g2 := cell_of a1 2
  have HW0 := keepH hw0
  have HW2 := keepH hw2
  clear hmk o0 a0 o1 a1 r1 hw0 hw1 hw2 C0 C1 a2
  go_enter Try.func23, Try.ntmps23
  go_upto_region 1 with fail
  rw [← HW0.out]
  go_region_held3 (fun w' => w'.cell? ⟨W.heap.size, 1, none⟩ = some (.int .i64 (N : Int)) ∧ w'.cell? ⟨W.heap.size, 2, none⟩ = some (.int .u64 (st : Int))) (first | exact HS0.out | exact hS1 | (rw [← HW2.out]; exact hS2)) (fail)
  rw [← HW2.out]
  go_wp2_with fail
  refine bodyPost_ret (v := .agg #[.slice (some ⟨w0.heap.size, 0, none⟩) N N, .int .i64 0, .int .u64 ((st : Int) - 1)]) (by simp [results, Try.results23, go_sem, e0, e1, e2]) rfl ?_
  exact ⟨w0.heap.size, rfl, HZ.out.1, HE.out.1, HE.out.2⟩
end Go.Proofs.Ytgaincicbgojjaa
