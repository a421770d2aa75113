/- What must be whatever is asked (layer 11). -/
import Derived.Test.YtokooplfjibneaaGreatTm
import Derived.Test.YtokooplfjibneaaGreatTh
import Derived.Test.YtokooplfjibneaaGreatTi
namespace Go.Proofs.YtokooplfjibneaaGreat
open Go.RowKit Go.Shelf
set_option linter.unusedVariables false

set_option maxRecDepth 100000 in
theorem mk256 : Mk 256 := ⟨by decide, by decide, by decide, by decide, by decide, by decide⟩
set_option maxRecDepth 100000 in
theorem m7_256 : M7 256 := ⟨by decide, by decide, by decide, by decide, by decide, by decide, by decide, by decide, by decide, by decide⟩
set_option maxRecDepth 100000 in
set_option maxHeartbeats 2000000 in
theorem mem_11 (W : World) : Calls Tryz.prog 22 #[.int .i64 256] W fun e W' => ∃ m b, e = .returned (.tuple #[.pointer (some ⟨m, 0, none⟩), .agg #[.int .u64 1, .int .u64 2], .bool true]) ∧ IsMem W' m b ∧ (∃ F l, Bank W' F b 256 66 cs0 l ∧ l.length = 2 ∧ (∀ k, F k → W.heap.size ≤ k) ∧ ¬ F m) ∧ Chg (fun _ => False) W W' := by
  obtain ⟨w0, hw0⟩ : ∃ w0, w0 = W.alloc (.cells #[.int .u64 0, .int .u64 0] 24) := ⟨_, rfl⟩
  have B0 : Hid (Blk w0 W.heap.size 24 [.int .u64 0, .int .u64 0]) := by rw [hw0]; exact heap_alloc_new _ _
  have HC0 : Hid (Chg (fun _ => False) W w0) := by rw [hw0]; exact (Chg.refl _ _).alloc _
  go_enter Tryz.func22, Tryz.ntmps22
  go_upto_region 1 with fail
  rw [← hw0]
  clear hw0
  go_wp2_with fail
  refine (m_new 256 w0 (by omega)).mono ?_
  rintro e W1 ⟨rfl, M1, B1, C1, S1⟩
  have S2 := keepH (St.new0 (th := -1) M1 B1 C1 S1)
  have HM1 := keepH M1
  have HB1 := keepH (B0.out.chg C1 (fun x => x))
  clear B1 S1 C1 M1
  go_wp2_with fail
  refine (m_view _ w0.heap.size (-1) _ HM1.out).mono ?_
  rintro e w ⟨rfl, rfl⟩
  clear HM1
  have HB2 := keepH (show Blk (W1.alloc (.cells #[.iface 112 (.pointer (some ⟨w0.heap.size, 0, none⟩)), .int .i64 (-1), .int .i64 0] 80)) W.heap.size 24 [.int .u64 0, .int .u64 0] from alloc_of HB1.out _)
  obtain ⟨w2, hw2⟩ : ∃ w2, w2 = W1.alloc (.cells #[.iface 112 (.pointer (some ⟨w0.heap.size, 0, none⟩)), .int .i64 (-1), .int .i64 0] 80) := ⟨_, rfl⟩
  rw [← hw2] at S2 HB2 ⊢
  clear hw2
  have HSR : Hid (SR w0 (w0.heap.size + 1) w0.heap.size W1.heap.size (-1) 256 w2 1 0 [] 0 (fun _ => False)) := ⟨_, _, S2.out, rfl, fun k e => e.elim⟩
  have HB3 : Hid (W.heap.size < w0.heap.size) := lt_of B0.out
  go_wp2_with fail
  refine (make_any HSR.out mk256 (by omega) (by omega)).mono ?_
  rintro e w3 ⟨rfl, S3, K3⟩
  obtain ⟨F, l, St3, hl3, _⟩ := S3
  have HST := keepH St3
  have HL3 := keepH hl3
  have HT3 := keepH (B0.out.chg St3.chg (fun x => x))
  clear St3 hl3 K3 HSR S2 HB2 HB1
  obtain ⟨w4, hw4⟩ : ∃ w4, w4 = w3.alloc (.cells #[.int .u64 1, .int .u64 2] 24) := ⟨_, rfl⟩
  have HT4 : Hid (Blk w4 W.heap.size 24 [.int .u64 0, .int .u64 0]) := by rw [hw4]; exact alloc_of HT3.out _
  have HU4 : Hid (Blk w4 w3.heap.size 24 [.int .u64 1, .int .u64 2]) := by rw [hw4]; exact heap_alloc_new _ _
  have hne : w3.heap.size ≠ W.heap.size := by have := lt_of HT3.out; omega
  have HNE := keepH hne
  have HS0 : Hid (w4.cell? ⟨w3.heap.size, 0, none⟩ = some (.int .u64 1) ∧ w4.cell? ⟨w3.heap.size, 1, none⟩ = some (.int .u64 2)) := ⟨HU4.out.cell 0, HU4.out.cell 1⟩
  have t0 : w4.cell? ⟨W.heap.size, 0, none⟩ = some (.int .u64 0) := HT4.out.cell 0
  have f0 := HT4.out.free 0
  have t1 : w4.cell? ⟨W.heap.size, 1, none⟩ = some (.int .u64 0) := HT4.out.cell 1
  have f1 := HT4.out.free 1
  have P1 := HT4.out.set 0 (.int .u64 1)
  have t1' : (w4.setCell ⟨W.heap.size, 0, none⟩ (.int .u64 1)).cell? ⟨W.heap.size, 1, none⟩ = some (.int .u64 0) := P1.cell 1
  have f1' := P1.free 1
  have P2 := P1.set 1 (.int .u64 2)
  have q0 : (w4.setCell ⟨W.heap.size, 0, none⟩ (.int .u64 1)).cell? ⟨W.heap.size, 0, none⟩ = some (.int .u64 1) := P1.cell 0
  have q1 : ((w4.setCell ⟨W.heap.size, 0, none⟩ (.int .u64 1)).setCell ⟨W.heap.size, 1, none⟩ (.int .u64 2)).cell? ⟨W.heap.size, 1, none⟩ = some (.int .u64 2) := P2.cell 1
  have U2 : Blk ((w4.setCell ⟨W.heap.size, 0, none⟩ (.int .u64 1)).setCell ⟨W.heap.size, 1, none⟩ (.int .u64 2)) w3.heap.size 24 [.int .u64 1, .int .u64 2] := (Below.heap_setCell _ _ _ _ hne).trans ((Below.heap_setCell _ _ _ _ hne).trans HU4.out)
  have hS6 : ((w4.setCell ⟨W.heap.size, 0, none⟩ (.int .u64 1)).setCell ⟨W.heap.size, 1, none⟩ (.int .u64 2)).cell? ⟨w3.heap.size, 0, none⟩ = some (.int .u64 1) ∧ ((w4.setCell ⟨W.heap.size, 0, none⟩ (.int .u64 1)).setCell ⟨W.heap.size, 1, none⟩ (.int .u64 2)).cell? ⟨w3.heap.size, 1, none⟩ = some (.int .u64 2) := ⟨U2.cell 0, U2.cell 1⟩
  have HC4 : Hid (Chg (fun _ => False) w3 w4) := by rw [hw4]; exact (Chg.refl _ _).alloc _
  clear P1 P2 U2 hne
  go_upto_region 5 with fail
  rw [← hw4]
  clear hw4
  go_region_held3 (fun w' => w'.cell? ⟨w3.heap.size, 0, none⟩ = some (.int .u64 1) ∧ w'.cell? ⟨w3.heap.size, 1, none⟩ = some (.int .u64 2)) (first | exact HS0.out | exact hS6) (fail)
  all_goals (try go_wp2_with fail)
  all_goals (
    have c4 : Chg (fun k => k = W.heap.size) w3 ((w4.setCell ⟨W.heap.size, 0, none⟩ (.int .u64 1)).setCell ⟨W.heap.size, 1, none⟩ (.int .u64 2)).drew := ((HC4.out.trans (setP _) (fun _ _ x => x.elim) (fun _ _ x => x)).trans (setP _) (fun _ _ x => x) (fun _ _ x => x)).drew
    have hs := HB3.out
    refine bodyPost_ret (v := .tuple #[.pointer (some ⟨w0.heap.size + 1, 0, none⟩), .agg #[.int .u64 1, .int .u64 2], .bool true]) (by simp [results, Tryz.results22, go_sem, q0, q1]) rfl ⟨w0.heap.size + 1, w0.heap.size, rfl, HST.out.mem.chg c4 (by omega), ⟨F, l, HST.out.bank.chg c4 (fun k hk e => by have := HST.out.inF k hk; omega), HL3.out, fun k hk => by have := HST.out.inF k hk; omega, HST.out.nm⟩, (HC0.out.trans HST.out.chg (H := fun _ => False) (fun _ _ x => x) (fun _ _ x => x)).trans c4 (fun _ _ x => x) (fun i hi e => by omega)⟩)
end Go.Proofs.YtokooplfjibneaaGreat
