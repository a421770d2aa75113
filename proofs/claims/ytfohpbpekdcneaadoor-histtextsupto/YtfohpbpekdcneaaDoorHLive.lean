/- The law's own check of the program: live. -/
import Derived.Test.YtfohpbpekdcneaaDoorHSpans
namespace Go.Proofs.YtfohpbpekdcneaaDoor
open Go.RowKit Go.Maps

def liveEs : List Evt := [⟨0, 0, 0, false⟩, ⟨1, 1, 0, false⟩, ⟨2, 0, 0, true⟩]
theorem live_run : runEv liveEs 3 = some [⟨0, 0, 0, 2⟩, ⟨1, 0, 1, -1⟩] := rfl
theorem live_reads (W : World) : EReads (W.alloc (.cells #[.int .i64 0, .int .i64 0, .int .i64 0, .bool false, .int .i64 1, .int .i64 1, .int .i64 0, .bool false, .int .i64 2, .int .i64 0, .int .i64 0, .bool true] 53)) (some ⟨W.heap.size, 0, none⟩) liveEs := by
  refine .inr ⟨W.heap.size, 0, rfl, by simp, fun i s hs j u hu => ?_⟩
  rw [cell_of (heap_alloc_new _ _)]
  match i, hs with
  | 0, hs =>
    simp [liveEs] at hs
    subst hs
    match j, hu with
    | 0, hu => exact hu
    | 1, hu => exact hu
    | 2, hu => exact hu
    | 3, hu => exact hu
    | j + 4, hu => simp [Evt.cells] at hu
  | 1, hs =>
    simp [liveEs] at hs
    subst hs
    match j, hu with
    | 0, hu => exact hu
    | 1, hu => exact hu
    | 2, hu => exact hu
    | 3, hu => exact hu
    | j + 4, hu => simp [Evt.cells] at hu
  | 2, hs =>
    simp [liveEs] at hs
    subst hs
    match j, hu with
    | 0, hu => exact hu
    | 1, hu => exact hu
    | 2, hu => exact hu
    | 3, hu => exact hu
    | j + 4, hu => simp [Evt.cells] at hu
  | i + 3, hs => simp [liveEs] at hs
theorem live_ok : ∀ e ∈ liveEs, e.Ok := by
  intro e he
  simp [liveEs] at he
  rcases he with rfl | rfl | rfl <;> exact ⟨⟨by decide, by decide⟩, ⟨by decide, by decide⟩, ⟨by decide, by decide⟩⟩
theorem one_reads (W : World) (a b c d : Int) : SReads (W.alloc (.cells #[.int .i64 a, .int .i64 b, .int .i64 c, .int .i64 d] 38)) (some ⟨W.heap.size, 0, none⟩) [⟨a, b, c, d⟩] := by
  refine .inr ⟨W.heap.size, 0, rfl, by simp, fun i s hs j u hu => ?_⟩
  rw [cell_of (heap_alloc_new _ _)]
  match i, hs with
  | 0, hs =>
    simp at hs
    subst hs
    match j, hu with
    | 0, hu => exact hu
    | 1, hu => exact hu
    | 2, hu => exact hu
    | 3, hu => exact hu
    | j + 4, hu => simp [Sp.cells] at hu
  | i + 1, hs => simp at hs

set_option maxRecDepth 100000 in
set_option maxHeartbeats 2000000 in
theorem h_live (W : World) : Calls Tryd.prog 9 #[] W fun e W' => e = .returned (.bool true) ∧ Chg (fun _ => False) W W' := by
  have HR := keepH (live_reads W)
  go_enter Tryd.func9, Tryd.ntmps9
  go_wp2_with fail
  refine (h_spans (some ⟨W.heap.size, 0, none⟩) 3 liveEs _ HR.out live_ok (by decide)).mono ?_
  rintro e W1 ⟨C1, v, ⟨sp, hsp, rfl, R1, N1⟩ | ⟨hn, _⟩⟩
  · have hsp2 : sp = [⟨0, 0, 0, 2⟩, ⟨1, 0, 1, -1⟩] := by
      have e := hsp.symm.trans live_run
      simpa using e
    clear hsp
    subst hsp2
    obtain ⟨g, c, rfl⟩ := slice_pos R1 (by simp)
    obtain ⟨a0, a1, a2, a3⟩ := row_cells (n := 0) R1 rfl
    obtain ⟨b0, b1, b2, b3⟩ := row_cells (n := 1) R1 rfl
    have HC := keepH (((Chg.refl (fun _ => False) W).alloc (.cells #[.int .i64 0, .int .i64 0, .int .i64 0, .bool false, .int .i64 1, .int .i64 1, .int .i64 0, .bool false, .int .i64 2, .int .i64 0, .int .i64 0, .bool true] 53)).trans C1 (H := fun _ => False) (fun _ _ x => x) (fun _ _ x => x))
    simp only [Nat.zero_mul, Nat.one_mul, Nat.zero_add, Nat.reduceAdd] at a0 a1 a2 a3 b0 b1 b2 b3
    clear C1 N1 R1
    go_wp2_with fail
    refine (h_right (some ⟨W1.heap.size, 0, none⟩) 1 [⟨0, 0, -1, 0⟩] _ (one_reads _ _ _ _ _) (by intro s hs; simp at hs; subst hs; exact ⟨⟨by decide, by decide⟩, ⟨by decide, by decide⟩, ⟨by decide, by decide⟩, ⟨by decide, by decide⟩⟩) (by decide)).mono ?_
    rintro e W2 ⟨x, rfl, hx, C2⟩
    have hx2 : x = 50 := by
      rcases hx with ⟨h, _⟩ | ⟨_, h⟩
      · have := (h 0 ⟨0, 0, -1, 0⟩ (by decide) rfl).fr
        simp at this
      · exact h
    subst hx2
    have HC2 := keepH ((HC.out.alloc (.cells #[.int .i64 0, .int .i64 0, .int .i64 (-1), .int .i64 0] 38)).trans C2 (H := fun _ => False) (fun _ _ x => x) (fun _ _ x => x))
    clear C2 hx
    go_wp2_with fail
    go_ret
    exact ⟨by simp, HC2.out⟩
  · exact absurd (hn.symm.trans live_run) (by simp)
end Go.Proofs.YtfohpbpekdcneaaDoor
