/- What must be whatever is asked (layer 13). -/
import Derived.Test.YtjgcahmnfpfalaaGreatAi
namespace Go.Proofs.YtjgcahmnfpfalaaGreat
open Go.RowKit Go.Shelf
set_option linter.unusedVariables false

theorem SR.new0 {W W1 : World} {most : Nat} {th : Int} (M1 : IsMem W1 (W.heap.size + 1) W.heap.size) (B1 : Bank W1 (fun k => k = W.heap.size) W.heap.size most 1 [] []) (C1 : Chg (fun _ => False) W W1) (S1 : W1.heap.size = W.heap.size + 2) :
    SR W (W.heap.size + 1) W.heap.size W1.heap.size th most (W1.alloc (.cells #[.iface 109 (.pointer (some ⟨W.heap.size, 0, none⟩)), .int .i64 th, .int .i64 0] 91)) 1 0 [] 0 (fun _ => False) :=
  ⟨_, _, St.new0 M1 B1 C1 S1, rfl, fun _ x => x.elim⟩
theorem SR.make {W : World} {m b v : Nat} {th : Int} {most : Nat} {w : World} {next made : Nat} {cs : List Nat} {k : Nat} {D : Nat → Prop} (h : SR W m b v th most w next made cs k D) (cam n mst : Nat) (h1 : 1 ≤ n) (h2 : n ≤ 256) (h3 : 1 ≤ mst) (h4 : mst ≤ 1099511627776) (ha : alAt most next n ≠ 0) (hm : made < 1099511627776) (hk : k < 1099511627776) :
    Calls Tryz.prog 4 #[.pointer (some ⟨v, 0, none⟩), .int .u64 (cam : Int), .int .i64 (n : Int), .int .u64 (mst : Int)] w fun e w' => e = .returned (.tuple #[.agg #[.int .u64 (cam : Int), .int .u64 (alAt most next n : Int), .int .i64 (n : Int), .int .u64 (mst : Int)], .int .i64 0]) ∧ SR W m b v th most w' (alNext most next n) (made + 1) (alN most next cs (List.replicate n 0)) (k + 1) D ∧ Kept D w w' := by
  have hl : (List.replicate n 0).length = n := by simp
  have c0 := h.alloc (.cells #[.int .u64 0, .int .u64 0, .int .i64 0, .int .u64 0] 24)
  refine (a_make _ v rfl cam n mst _ h1 h2 h3 h4 ha w (fun w1 => SR W m b v th most w1 (alNext most next n) (made + 1) (alN most next cs (List.replicate n 0)) (k + 1) (fun k => D k ∨ k = w.heap.size) ∧ Kept D w w1) ?_).mono ?_
  · have z := c0.aloc (List.replicate n 0) (w.heap.size + 1) n (by simp) (fun x hx => by rw [List.eq_of_mem_replicate hx]; omega) (by rw [hl]; omega) hm hk
    rw [hl] at z
    refine z.mono ?_
    rintro e w1 ⟨rfl, S, K⟩
    exact ⟨rfl, ⟨S, fun i hi => (K i (.inl hi)).trans (Below.heap_alloc _ _ _ (h.lt i hi))⟩, (K _ (.inr rfl)).trans (heap_alloc_new _ _)⟩
  · rintro e w2 ⟨rfl, w1, ⟨S, K⟩, C⟩
    refine ⟨rfl, (S.put C (fun i e => .inr e)).mono (fun i e => .inl e), fun i hi => (C.block i (S.lt i (.inl hi)) (fun e => ?_)).trans (K i hi)⟩
    have := h.lt i hi
    omega
set_option maxRecDepth 100000 in
set_option maxHeartbeats 2000000 in
theorem mem_13 (W : World) : Calls Tryz.prog 20 #[.agg #[.int .i64 2, .int .u64 100, .slice none 0 0, .slice none 0 0]] W fun e W' => ∃ m b, e = .returned (.tuple #[.pointer (some ⟨m, 0, none⟩), .agg #[.int .u64 1, .int .u64 2, .int .i64 2, .int .u64 100], .bool true]) ∧ IsMem W' m b ∧ (∃ F l, Bank W' F b 4096 4 [0, 1, 0, 0] l ∧ l.length = 2 ∧ (∀ k, F k → W.heap.size ≤ k) ∧ ¬ F m) ∧ Chg (fun _ => False) W W' ∧ W.heap.size ≤ m := by
  obtain ⟨w0, hw0⟩ : ∃ w0, w0 = (W.alloc (.cells #[.int .i64 2, .int .u64 100, .slice none 0 0, .slice none 0 0] 58)).alloc (.cells #[.int .u64 0, .int .u64 0, .int .i64 0, .int .u64 0] 24) := ⟨_, rfl⟩
  have R0 : w0.heap[W.heap.size]? = some (.cells #[.int .i64 2, .int .u64 100, .slice none 0 0, .slice none 0 0] 58 (0, 0)) := by rw [hw0]; exact alloc_of (heap_alloc_new _ _) _
  have S0 : Blk w0 (W.heap.size + 1) 24 [.int .u64 0, .int .u64 0, .int .i64 0, .int .u64 0] := by
    have e := heap_alloc_new (W.alloc (.cells #[.int .i64 2, .int .u64 100, .slice none 0 0, .slice none 0 0] 58)) (.cells #[.int .u64 0, .int .u64 0, .int .i64 0, .int .u64 0] 24)
    rw [World.size_alloc] at e
    rw [hw0]
    exact e
  have HC0 : Hid (Chg (fun _ => False) W w0) := by rw [hw0]; exact ((Chg.refl _ _).alloc _).alloc _
  have HZ0 : Hid (w0.heap.size = W.heap.size + 2) := by rw [hw0]; show _ = _; simp
  have HR0 := keepH R0
  have HS0 := keepH S0
  clear R0 S0
  go_enter Tryz.func20, Tryz.ntmps20
  go_upto_region 1 with fail
  rw [← hw0]
  clear hw0
  go_wp2_with fail
  refine (m_new 4096 w0 (by omega)).mono ?_
  rintro e W1 ⟨rfl, M1, B1, C1, S1⟩
  have S2 := keepH (SR.new0 (th := -1) M1 B1 C1 S1)
  have HM1 := keepH M1
  clear B1 S1 C1 M1
  go_wp2_with fail
  refine (m_view _ w0.heap.size (-1) _ HM1.out).mono ?_
  rintro e w ⟨rfl, rfl⟩
  clear HM1
  obtain ⟨w2, hw2⟩ : ∃ w2, w2 = W1.alloc (.cells #[.iface 109 (.pointer (some ⟨w0.heap.size, 0, none⟩)), .int .i64 (-1), .int .i64 0] 91) := ⟨_, rfl⟩
  rw [← hw2] at S2 ⊢
  have HS2 : Hid (w2.heap.size = W1.heap.size + 1) := by rw [hw2]; show _ = _; simp
  clear hw2
  obtain ⟨v, hv⟩ : ∃ v, v = W1.heap.size := ⟨_, rfl⟩
  rw [← hv] at S2 HS2 ⊢
  clear hv
  have A2 := keepH (S2.out.aloc [1] w2.heap.size 1 rfl (by simp) (by simp) (by omega) (by omega))
  clear S2
  go_wp2_with fail
  refine A2.out.mono ?_
  rintro e w3 ⟨rfl, S3, K3⟩
  have e3 : alAt 4096 1 [1].length = 1 := by decide
  have e3' : alN 4096 1 [] [1] = [0, 1] := by decide
  have e3n : alNext 4096 1 [1].length = 2 := by decide
  rw [e3', e3n] at S3
  rw [e3]
  have HS3 := keepH S3
  have R3 := (S3.chg.block _ (lt_of HR0.out) (fun x => x)).trans HR0.out
  have r0 : w3.cell? ⟨W.heap.size, 0, none⟩ = some (.int .i64 2) := cell_of R3 0
  have r1 : w3.cell? ⟨W.heap.size, 1, none⟩ = some (.int .u64 100) := cell_of R3 1
  have M3 := keepH (S3.make 1 2 100 (by omega) (by omega) (by omega) (by omega) (by decide) (by omega) (by omega))
  clear S3 K3 R3 A2 e3 e3' e3n
  go_wp2_with fail
  refine M3.out.mono ?_
  rintro e w4 ⟨rfl, S4, K4⟩
  have e4 : alAt 4096 2 2 = 2 := by decide
  have e4' : alN 4096 2 [0, 1] (List.replicate 2 0) = [0, 1, 0, 0] := by decide
  have e4n : alNext 4096 2 2 = 4 := by decide
  rw [e4', e4n] at S4
  rw [e4]
  have HS4 := keepH S4
  clear S4 K4 M3 e4 e4' e4n r0 r1 HS3
  obtain ⟨w5, hw5⟩ : ∃ w5, w5 = w4.alloc (.cells #[.int .u64 1, .int .u64 2, .int .i64 2, .int .u64 100] 24) := ⟨_, rfl⟩
  have B5 : w5.heap[w4.heap.size]? = some (.cells #[.int .u64 1, .int .u64 2, .int .i64 2, .int .u64 100] 24 (0, 0)) := by rw [hw5]; exact heap_alloc_new _ _
  have S5 : SR w0 (w0.heap.size + 1) w0.heap.size v (-1) 4096 w5 4 2 [0, 1, 0, 0] 2 (fun _ => False) := by rw [hw5]; exact HS4.out.put ((Chg.refl (fun _ => False) _).alloc _) (fun _ x => x.elim)
  have P5 := HS0.out.chg S5.chg (fun x => x)
  have HS5 := keepH S5
  have HP5 := keepH P5
  have b0 : w5.cell? ⟨w4.heap.size, 0, none⟩ = some (.int .u64 1) := cell_of B5 0
  have b1 : w5.cell? ⟨w4.heap.size, 1, none⟩ = some (.int .u64 2) := cell_of B5 1
  have b2 : w5.cell? ⟨w4.heap.size, 2, none⟩ = some (.int .i64 2) := cell_of B5 2
  have b3 : w5.cell? ⟨w4.heap.size, 3, none⟩ = some (.int .u64 100) := cell_of B5 3
  have HN : Hid (W.heap.size + 1 < w4.heap.size) := by
    have := lt_of HS0.out
    have := HS4.out.chg.size
    show _ < _
    omega
  go_upto_region 7 with fail
  rw [← hw5]
  clear hw5 S5 B5 P5 HS4
  have g0 : w5.cell? ⟨W.heap.size + 1, 0, none⟩ = some (.int .u64 0) := HP5.out.cell 0
  have g1 : w5.cell? ⟨W.heap.size + 1, 1, none⟩ = some (.int .u64 0) := HP5.out.cell 1
  have g2 : w5.cell? ⟨W.heap.size + 1, 2, none⟩ = some (.int .i64 0) := HP5.out.cell 2
  have g3 : w5.cell? ⟨W.heap.size + 1, 3, none⟩ = some (.int .u64 0) := HP5.out.cell 3
  obtain ⟨tb, htb⟩ : ∃ tb, tb = w4.heap.size := ⟨_, rfl⟩
  rw [← htb] at b0 b1 b2 b3 HN ⊢
  clear htb
  have f0 := HP5.out.free 0
  have f1 := (HP5.out.set 0 (.int .u64 1)).free 1
  have f2 := ((HP5.out.set 0 (.int .u64 1)).set 1 (.int .u64 2)).free 2
  have f3 := (((HP5.out.set 0 (.int .u64 1)).set 1 (.int .u64 2)).set 2 (.int .i64 2)).free 3
  obtain ⟨w6, hw6⟩ : ∃ w6, w6 = ((((w5.setCell ⟨W.heap.size + 1, 0, none⟩ (.int .u64 1)).setCell ⟨W.heap.size + 1, 1, none⟩ (.int .u64 2)).setCell ⟨W.heap.size + 1, 2, none⟩ (.int .i64 2)).setCell ⟨W.heap.size + 1, 3, none⟩ (.int .u64 100)).drew := ⟨_, rfl⟩
  have Q : Blk w6 (W.heap.size + 1) 24 [.int .u64 1, .int .u64 2, .int .i64 2, .int .u64 100] := by
    rw [hw6]
    exact (((HP5.out.set 0 (.int .u64 1)).set 1 (.int .u64 2)).set 2 (.int .i64 2)).set 3 (.int .u64 100)
  have C6 : Chg (fun k => k = W.heap.size + 1) w5 w6 := by rw [hw6]; exact ((((setP _).p (setP _)).p (setP _)).p (setP _)).pf (Chg.refl _ _).drew
  have q0 : w6.cell? ⟨W.heap.size + 1, 0, none⟩ = some (.int .u64 1) := Q.cell 0
  have q1 : w6.cell? ⟨W.heap.size + 1, 1, none⟩ = some (.int .u64 2) := Q.cell 1
  have q2 : w6.cell? ⟨W.heap.size + 1, 2, none⟩ = some (.int .i64 2) := Q.cell 2
  have q3 : w6.cell? ⟨W.heap.size + 1, 3, none⟩ = some (.int .u64 100) := Q.cell 3
  have HC6 := keepH C6
  clear Q C6
  go_region
  rw [← hw6]
  clear hw6 g0 g1 g2 g3 f0 f1 f2 f3 b0 b1 b2 b3 HP5
  go_wp2_with fail
  refine bodyPost_ret (v := .tuple #[.pointer (some ⟨w0.heap.size + 1, 0, none⟩), .agg #[.int .u64 1, .int .u64 2, .int .i64 2, .int .u64 100], .bool true]) (by simp [results, Tryz.results20, go_sem, q0, q1, q2, q3]) rfl ?_
  obtain ⟨F, l, S, L, A⟩ := HS5.out
  have z := HZ0.out
  have C := HC6.out
  have nF : ∀ k, F k → ¬ k = W.heap.size + 1 := fun k hk e => by have := S.inF k hk; omega
  refine ⟨w0.heap.size + 1, w0.heap.size, rfl, S.mem.chg C (fun e => by omega), ⟨F, l, S.bank.chg C nF, L, fun k hk => by have := S.inF k hk; omega, S.nm⟩, ?_, by omega⟩
  have T := (HC0.out.trans S.chg (H := fun k => k = W.heap.size + 1) (fun _ _ x => x.elim) (fun _ _ x => x.elim)).trans C (H := fun k => k = W.heap.size + 1) (fun _ _ x => x) (fun _ _ x => x)
  exact ⟨T.os, T.tape, T.output, T.size, fun i hi _ => T.block i hi (by omega)⟩
end Go.Proofs.YtjgcahmnfpfalaaGreat
