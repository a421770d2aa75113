/- The handles that hold of two slots the first of which holds. -/
import Derived.Test.YtlgkioaomcobdaaGreatHc
namespace Go.Proofs.YtlgkioaomcobdaaGreat
open Go.RowKit Go.Shelf
set_option linter.unusedVariables false

theorem handle_00 (W : World) : Calls Tryz.prog 27 #[.int .i64 0, .int .u64 0] W fun e W' => e = .returned (.tuple #[.int .u64 1, .int .i64 0]) ∧ W' = W := w_handle 0 0 (by omega) (by omega) W
set_option maxRecDepth 100000 in
set_option maxHeartbeats 4000000 in
theorem live_2 {W : World} {m b : Nat} {F : Nat → Prop} {l : List Acc} {cs : List Nat} (hm : IsMem W m b) (hB : Bank W F b 200 3 cs l) (h1 : cellN cs 1 = 4194307) (h2 : cellN cs 2 = 0) :
    Calls Tryz.prog 13 #[.pointer (some ⟨m, 0, none⟩), .agg #[.int .u64 100, .int .u64 1, .int .i64 2, .int .u64 50]] W fun e W' => ∃ g c, e = .returned (.slice (some ⟨g, 0, none⟩) 1 c) ∧ W'.cell? ⟨g, 0, none⟩ = some (.int .u64 1) ∧ Chg (fun _ => False) W W' ∧ W.heap.size ≤ g := by
  obtain ⟨i0, hi, hz0, hz1, hz2⟩ := info_parts infoU2
  obtain ⟨w0, hw0⟩ : ∃ w0, w0 = W.alloc (.cells #[.int .u64 100, .int .u64 1, .int .i64 2, .int .u64 50] 24) := ⟨_, rfl⟩
  have B0 : Blk w0 W.heap.size 24 slots2 := by rw [hw0]; exact heap_alloc_new _ _
  have C0 : Chg (fun _ => False) W w0 := by rw [hw0]; exact (Chg.refl _ _).alloc _
  have HS2 := keepH (slots_2 (hm.chg C0 (fun x => x)) (hB.chg C0 (fun _ _ x => x)) h1 h2)
  have HC0 := keepH C0
  have a0 : w0.cell? ⟨W.heap.size, 0, none⟩ = some (.int .u64 100) := B0.cell 0
  have a1 : w0.cell? ⟨W.heap.size, 1, none⟩ = some (.int .u64 1) := B0.cell 1
  have a2 : w0.cell? ⟨W.heap.size, 2, none⟩ = some (.int .i64 2) := B0.cell 2
  have a3 : w0.cell? ⟨W.heap.size, 3, none⟩ = some (.int .u64 50) := B0.cell 3
  clear hm hB h1 h2 B0 C0
  go_enter Tryz.func13, Tryz.ntmps13
  go_upto_region 1 with fail
  rw [← hw0]
  clear hw0
  go_wp2_with fail
  refine HS2.out.mono ?_
  rintro e w1 ⟨rb, rfl, R1, C1, Z1⟩
  have HR1 := keepH R1
  have HC1 := keepH (HC0.out.f C1)
  have k0 : w1.cell? ⟨rb, 0, none⟩ = some (.int .u8 3) := R1.cell 0
  have k1 : w1.cell? ⟨rb, 1, none⟩ = some (.int .u64 0) := R1.cell 1
  have k2 : w1.cell? ⟨rb, 2, none⟩ = some (.int .u64 1) := R1.cell 2
  clear R1 C1 Z1 HS2 HC0 a0 a1 a2 a3
  go_wp2_with fail
  refine wp_loop_rounds 3 ?_
  rw [rounds_succ]
  obtain ⟨w2, hw2⟩ : ∃ w2, w2 = w1.alloc (.cells #[.int .u8 3, .int .u64 0, .int .u64 1] 46) := ⟨_, rfl⟩
  have T2 : w2.heap[w1.heap.size]? = some (.cells #[.int .u8 3, .int .u64 0, .int .u64 1] 46 (0, 0)) := by rw [hw2]; exact heap_alloc_new _ _
  have HC2 : Hid (Chg (fun _ => False) W w2) := by rw [hw2]; exact HC1.out.f ((Chg.refl _ _).alloc _)
  have HR2 : Hid (Blk w2 rb 46 (rowL 3 0 1 0 0 0)) := by rw [hw2]; exact alloc_of HR1.out _
  have q0 : w2.cell? ⟨w1.heap.size, 0, none⟩ = some (.int .u8 3) := cell_of T2 0
  have q1 : w2.cell? ⟨w1.heap.size, 1, none⟩ = some (.int .u64 0) := cell_of T2 1
  clear T2 HR1 HC1
  go_upto_region 5 with fail
  rw [← hw2]
  clear hw2 k0 k1 k2
  go_wp2_with fail
  refine (handle_00 _).mono ?_
  rintro e w ⟨rfl, rfl⟩
  go_wp2_with (first | (at_builtin; go_loud (refine wpList_append_own_at _ rfl _ _ 38 rfl 0 22 i0 (.int .u64 0) 1 8 Tryz.underlying38 hi hz0 hz1 hz2 rfl (by decide) (.slice none 0 0) 0 [] rfl (World.ownsRow_nil _ _ _ _) ⟨w.heap.size, 0, none⟩ 1 1 [.int .u64 1] rfl rfl (cells_new w _ rfl _ _) (by intro u hu; simp at hu; subst hu; rfl) (by unfold maxLen; omega) (by omega) (Nat.zero_le _) ?_); intro v' w3 r1 r2 r3 r4; have R1 := keepH r1; have R2 := keepH r2; have R4 := keepH r4; clear r1 r2 r3 r4))
  have r1 := R1.out
  have r4 := R4.out
  obtain ⟨_, ⟨_, h⟩ | ⟨g, cap, cur, rfl, _, hg, _, _, _, ht⟩⟩ := r1
  · simp at h
  have hgs : g = w.heap.size + 1 := by
    rcases r4 with h | h
    · simp [Value.ownBlock] at h
    · simpa [Value.ownBlock] using h
  have e0 : cur[0]? = some (.int .u64 1) := by
    have q : (cur.toList.take 1)[0]? = some (.int .u64 1) := by
      have ht' : cur.toList.take 1 = [.int .u64 1] := ht
      rw [ht']
      rfl
    rw [List.getElem?_take_of_lt (by omega)] at q
    simpa using q
  have HQ : Hid (w3.cell? ⟨g, 0, none⟩ = some (.int .u64 1)) := (cell_of hg 0).trans e0
  have c3 : Chg (fun _ => False) (w.alloc (.cells #[.int .u64 1] 22)) w3 := (Chg.refl (fun _ => False) _).grown R2.out (fun k e _ => by simp [Value.ownBlock] at e)
  have c3' : Chg (fun _ => False) w w3 := ((Chg.refl _ _).alloc _).f c3
  have HC3 := keepH (HC2.out.f c3')
  have HR3 := keepH (HR2.out.chg c3' (fun x => x))
  have HG : Hid (W.heap.size ≤ g ∧ g < w3.heap.size) := ⟨by have := HC2.out.size; omega, lt_of hg⟩
  clear r4 hg ht hgs e0 R1 R2 R4 HR2 HC2 c3 c3' q0 q1
  have k3 : w3.cell? ⟨rb, 3, none⟩ = some (.int .u8 0) := HR3.out.cell 3
  have k4 : w3.cell? ⟨rb, 4, none⟩ = some (.int .u64 0) := HR3.out.cell 4
  have k5 : w3.cell? ⟨rb, 5, none⟩ = some (.int .u64 0) := HR3.out.cell 5
  rw [rounds_succ]
  obtain ⟨w4, hw4⟩ : ∃ w4, w4 = w3.alloc (.cells #[.int .u8 0, .int .u64 0, .int .u64 0] 46) := ⟨_, rfl⟩
  have T4 : w4.heap[w3.heap.size]? = some (.cells #[.int .u8 0, .int .u64 0, .int .u64 0] 46 (0, 0)) := by rw [hw4]; exact heap_alloc_new _ _
  have HC4 : Hid (Chg (fun _ => False) w3 w4) := by rw [hw4]; exact (Chg.refl _ _).alloc _
  have q0 : w4.cell? ⟨w3.heap.size, 0, none⟩ = some (.int .u8 0) := cell_of T4 0
  clear T4
  go_upto_region 5 with fail
  rw [← hw4]
  clear hw4 k3 k4 k5
  go_wp2_with fail
  rw [rounds_succ]
  clear q0
  go_wp2_with fail
  refine (sort_1 _ _ _).mono ?_
  rintro e w5 ⟨rfl, rfl⟩
  go_wp2_with fail
  go_ret
  refine ⟨g, cap, by simp, ?_, HC3.out.f HC4.out, HG.out.1⟩
  have z := HC4.out.block g HG.out.2 (fun x => x)
  have q := HQ.out
  unfold World.cell? at q ⊢
  rw [z]
  exact q
end Go.Proofs.YtlgkioaomcobdaaGreat
