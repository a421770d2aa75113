/- The model's Take of an answer that is not told. -/
import Derived.Test.YtimlaamhjbhkmaaGreatMsB
namespace Go.Proofs.YtimlaamhjbhkmaaGreat
open Go.RowKit
set_option linter.unusedVariables false

set_option maxRecDepth 100000 in
theorem may_fail (W : World) : Calls Tryz.prog 35 #[.int .u8 1, .int .i64 0, .int .i64 0] W fun e W' => e = .returned (.bool false) ∧ W' = W := by
  go_enter Tryz.func35, Tryz.ntmps35
  go_wp2_with fail
  go_ret
  exact ⟨by simp, rfl⟩
set_option maxRecDepth 100000 in
set_option maxHeartbeats 4000000 in
theorem take_get {W : World} {m n h c : Nat} (hm : IsModel W m n h) (hN : W.heap[n]? = some (.map #[⟨.int .u64 7, .int .u64 2, 0⟩] c)) :
    Calls Tryz.prog 12 #[.pointer (some ⟨m, 0, none⟩), .agg #[.int .u8 1, .int .u64 (7 : Int), .int .u64 (0 : Int), .int .u64 0, .int .u64 0, .bool false, .int .i64 0, .int .i64 0, .slice none 0 0, .int .u64 0, .int .u64 0], .agg #[.int .i64 0, .bool false, .int .u64 0, .bool false, .int .u64 0, .slice none 0 0, .int .u64 0]] W fun e W' => e = .returned (.bool false) ∧ Chg (fun _ => False) W W' := by
  obtain ⟨w0, hw0⟩ : ∃ w0, w0 = (W.alloc (.cells #[.int .u8 1, .int .u64 (7 : Int), .int .u64 (0 : Int), .int .u64 0, .int .u64 0, .bool false, .int .i64 0, .int .i64 0, .slice none 0 0, .int .u64 0, .int .u64 0] 36)).alloc (.cells #[.int .i64 0, .bool false, .int .u64 0, .bool false, .int .u64 0, .slice none 0 0, .int .u64 0] 40) := ⟨_, rfl⟩
  have C0 : Chg (fun _ => False) W w0 := by rw [hw0]; exact ((Chg.refl _ _).alloc _).alloc _
  have o0 : w0.heap[W.heap.size]? = some (.cells #[.int .u8 1, .int .u64 (7 : Int), .int .u64 (0 : Int), .int .u64 0, .int .u64 0, .bool false, .int .i64 0, .int .i64 0, .slice none 0 0, .int .u64 0, .int .u64 0] 36 (0, 0)) := by rw [hw0]; exact alloc_of (heap_alloc_new _ _) _
  have a0 : w0.heap[W.heap.size + 1]? = some (.cells #[.int .i64 0, .bool false, .int .u64 0, .bool false, .int .u64 0, .slice none 0 0, .int .u64 0] 40 (0, 0)) := by
    have e := heap_alloc_new (W.alloc (.cells #[.int .u8 1, .int .u64 (7 : Int), .int .u64 (0 : Int), .int .u64 0, .int .u64 0, .bool false, .int .i64 0, .int .i64 0, .slice none 0 0, .int .u64 0, .int .u64 0] 36)) (.cells #[.int .i64 0, .bool false, .int .u64 0, .bool false, .int .u64 0, .slice none 0 0, .int .u64 0] 40)
    rw [World.size_alloc] at e
    rw [hw0]
    exact e
  have hnl := (Array.getElem?_eq_some_iff.1 hN).1
  have m0 := hm.chg C0 (fun x => x)
  have n0 : w0.heap[n]? = some (.map #[⟨.int .u64 7, .int .u64 2, 0⟩] c) := (C0.block n hnl (fun x => x)).trans hN
  have HT := keepH (tells_1 0 m0 2 true (fun w cw => now_1 (x := 2) ((cw.block n (Array.getElem?_eq_some_iff.1 n0).1 (fun x => x)).trans n0)))
  have HC0 := keepH C0
  have HO0 := keepH o0
  have HA0 := keepH a0
  have c0 : w0.cell? ⟨W.heap.size, 0, none⟩ = some (.int .u8 1) := cell_of o0 0
  have c1 : w0.cell? ⟨W.heap.size, 1, none⟩ = some (.int .u64 7) := cell_of o0 1
  have c2 : w0.cell? ⟨W.heap.size, 2, none⟩ = some (.int .u64 0) := cell_of o0 2
  have c3 : w0.cell? ⟨W.heap.size, 3, none⟩ = some (.int .u64 0) := cell_of o0 3
  have c4 : w0.cell? ⟨W.heap.size, 4, none⟩ = some (.int .u64 0) := cell_of o0 4
  have c5 : w0.cell? ⟨W.heap.size, 5, none⟩ = some (.bool false) := cell_of o0 5
  have c6 : w0.cell? ⟨W.heap.size, 6, none⟩ = some (.int .i64 0) := cell_of o0 6
  have c7 : w0.cell? ⟨W.heap.size, 7, none⟩ = some (.int .i64 0) := cell_of o0 7
  have c8 : w0.cell? ⟨W.heap.size, 8, none⟩ = some (.slice none 0 0) := cell_of o0 8
  have c9 : w0.cell? ⟨W.heap.size, 9, none⟩ = some (.int .u64 0) := cell_of o0 9
  have c10 : w0.cell? ⟨W.heap.size, 10, none⟩ = some (.int .u64 0) := cell_of o0 10
  have d4 : w0.cell? ⟨W.heap.size + 1, 4, none⟩ = some (.int .u64 0) := cell_of a0 4
  clear hm hN C0 o0 a0 m0 n0 hnl
  go_enter Tryz.func12, Tryz.ntmps12
  go_upto_region 1 with fail
  rw [← hw0]
  clear hw0
  go_wp2_with fail
  refine HT.out.mono ?_
  rintro e w1 ⟨rfl, C1⟩
  obtain ⟨w2, hw2⟩ : ∃ w2, w2 = w1.alloc (.cells #[.int .i64 0, .bool true, .int .u64 2, .bool false, .int .u64 0, .slice none 0 0, .int .u64 0] 40) := ⟨_, rfl⟩
  have C2 : Chg (fun _ => False) w0 w2 := by rw [hw2]; exact C1.alloc _
  have HT2 : Hid (w2.heap[w1.heap.size]? = some (.cells #[.int .i64 0, .bool true, .int .u64 2, .bool false, .int .u64 0, .slice none 0 0, .int .u64 0] 40 (0, 0))) := by rw [hw2]; exact heap_alloc_new _ _
  have HO2 : Hid (w2.heap[W.heap.size]? = some (.cells #[.int .u8 1, .int .u64 (7 : Int), .int .u64 (0 : Int), .int .u64 0, .int .u64 0, .bool false, .int .i64 0, .int .i64 0, .slice none 0 0, .int .u64 0, .int .u64 0] 36 (0, 0))) := (C2.block _ (lt_of HO0.out) (fun x => x)).trans HO0.out
  have HA2 : Hid (w2.heap[W.heap.size + 1]? = some (.cells #[.int .i64 0, .bool false, .int .u64 0, .bool false, .int .u64 0, .slice none 0 0, .int .u64 0] 40 (0, 0))) := (C2.block _ (lt_of HA0.out) (fun x => x)).trans HA0.out
  have HC2 : Hid (Chg (fun _ => False) W w2) := HC0.out.trans C2 (fun _ _ x => x) (fun _ _ x => x)
  clear C1 C2 c0 c1 c2 c3 c4 c5 c6 c7 c8 c9 c10 d4
  go_upto_region 4 with fail
  rw [← hw2]
  clear hw2
  have c0 : w2.cell? ⟨W.heap.size, 0, none⟩ = some (.int .u8 1) := cell_of HO2.out 0
  have a0 : w2.cell? ⟨W.heap.size + 1, 0, none⟩ = some (.int .i64 0) := cell_of HA2.out 0
  have t0 : w2.cell? ⟨w1.heap.size, 0, none⟩ = some (.int .i64 0) := cell_of HT2.out 0
  have a1 : w2.cell? ⟨W.heap.size + 1, 1, none⟩ = some (.bool false) := cell_of HA2.out 1
  have t1 : w2.cell? ⟨w1.heap.size, 1, none⟩ = some (.bool true) := cell_of HT2.out 1
  have a2 : w2.cell? ⟨W.heap.size + 1, 2, none⟩ = some (.int .u64 0) := cell_of HA2.out 2
  have t2 : w2.cell? ⟨w1.heap.size, 2, none⟩ = some (.int .u64 2) := cell_of HT2.out 2
  have a3 : w2.cell? ⟨W.heap.size + 1, 3, none⟩ = some (.bool false) := cell_of HA2.out 3
  have t3 : w2.cell? ⟨w1.heap.size, 3, none⟩ = some (.bool false) := cell_of HT2.out 3
  have a4 : w2.cell? ⟨W.heap.size + 1, 4, none⟩ = some (.int .u64 0) := cell_of HA2.out 4
  have t4 : w2.cell? ⟨w1.heap.size, 4, none⟩ = some (.int .u64 0) := cell_of HT2.out 4
  have a5 : w2.cell? ⟨W.heap.size + 1, 5, none⟩ = some (.slice none 0 0) := cell_of HA2.out 5
  have t5 : w2.cell? ⟨w1.heap.size, 5, none⟩ = some (.slice none 0 0) := cell_of HT2.out 5
  have a6 : w2.cell? ⟨W.heap.size + 1, 6, none⟩ = some (.int .u64 0) := cell_of HA2.out 6
  have t6 : w2.cell? ⟨w1.heap.size, 6, none⟩ = some (.int .u64 0) := cell_of HT2.out 6
  go_wp2_with fail
  refine (may_fail _).mono ?_
  rintro e z ⟨rfl, rfl⟩
  go_wp2_with fail
  refine (m_same 0 0 false true false false 0 2 0 0 0 0 none none 0 0 [] [] _ (.inl rfl) (.inl rfl) (by simp) (by simp)).mono ?_
  rintro e w3 ⟨rfl, C3⟩
  rw [show decide ((⟨0, false, 0, false, 0, [], 0⟩ : Ans) = ⟨0, true, 2, false, 0, [], 0⟩) = false by decide]
  have HC3 : Hid (Chg (fun _ => False) W w3) := HC2.out.trans C3 (fun _ _ x => x) (fun _ _ x => x)
  clear C3
  go_wp2_with fail
  go_ret
  exact ⟨by simp, HC3.out⟩
end Go.Proofs.YtimlaamhjbhkmaaGreat
