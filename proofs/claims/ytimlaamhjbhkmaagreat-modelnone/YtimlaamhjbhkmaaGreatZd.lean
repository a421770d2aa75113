/- Pairs looked at again; operations and answers held against each other. -/
import Derived.Test.YtimlaamhjbhkmaaGreatZc
namespace Go.Proofs.YtimlaamhjbhkmaaGreat
open Go.RowKit Go.Joins
set_option linter.unusedVariables false

set_option maxRecDepth 100000 in
set_option maxHeartbeats 1000000 in
theorem kept_pairs (g : Nat) (p : Option Addr) (c : Nat) (l : List (Nat × Nat)) (w : World) (hh : HandedP w g l) (hg : g < w.heap.size) (h : PairsAt w p l) (hn : l.length ≤ 8796093021952) :
    Calls Tryz.prog 45 #[.slice (some ⟨g, 0, none⟩) l.length (l.length + 9), .slice p l.length c] w fun e W' => e = .returned (.bool true) ∧ Chg (fun _ => False) w W' := by
  have HS := keepH (r_pairs (some ⟨g, 0, none⟩) p (l.length + 9) c l l w (hh.pairs hg h.small) h (by omega) (by omega))
  rw [decide_eq_true (show l = l from rfl)] at HS
  obtain ⟨n, hnn⟩ : ∃ n, n = l.length := ⟨_, rfl⟩
  have HH : Hid (∀ j, j < 9 → w.cell? ⟨g, (n + j) * 2, none⟩ = some (.int .u64 (2305843009213693952 + (j : Int))) ∧ w.cell? ⟨g, (n + j) * 2 + 1, none⟩ = some (.int .u64 0)) := by rw [hnn]; exact hh.mks
  rw [← hnn] at hn HS ⊢
  clear hh h hg hnn
  go_enter Tryz.func45, Tryz.ntmps45
  go_wp2_with fail
  refine HS.out.mono ?_
  rintro e w1 ⟨rfl, C1⟩
  have HM : Hid (∀ j, j < 9 → w1.cell? ⟨g, (n + j) * 2, none⟩ = some (.int .u64 (2305843009213693952 + (j : Int))) ∧ w1.cell? ⟨g, (n + j) * 2 + 1, none⟩ = some (.int .u64 0)) := fun j hj => ⟨cell_chg C1 (HH.out j hj).1 (fun x => x), cell_chg C1 (HH.out j hj).2 (fun x => x)⟩
  have HC := keepH C1
  clear C1
  go_wp2_with fail
  go_loopw [6] (fun i wr => ∃ m : Nat, m ≤ 9 ∧ i = .int .i64 ((n : Int) + (m : Int)) ∧ wr = w1) (fun i _ => n + 9 - (intOf i).toNat)
  case atStart => exact ⟨0, by omega, by simp, rfl⟩
  case round =>
    obtain ⟨m, hm, rfl, hw⟩ := hrel
    subst hw
    by_cases hlt : m < 9
    · obtain ⟨x1, x2⟩ := HM.out m hlt
      have hpn := fun w => pair_neq (2305843009213693952 + m) 0 (2305843009213693952 + m) 0 (by omega) (by omega) (by omega) (by omega) w
      simp at hpn
      have e0 : (2305843009213693952 : Int) + ((n : Int) + (m : Int)) - (n : Int) = 2305843009213693952 + (m : Int) := by omega
      have i1 : (n : Int) + (m : Int) < (n : Int) + 9 := by omega
      go_wp2_with fail
      go_roundw
      case rel => exact ⟨m + 1, by omega, by go_num, (by first | rfl | trivial)⟩
      case measure => simp [intOf]; omega
    · obtain rfl : m = 9 := by omega
      go_wp2_with fail
      go_ret
      exact ⟨by simp, HC.out⟩
theorem trod_b (b : Bool) (w : World) : ∃ m, DataW.trod (H := Unit) (fun _ => ()) Tryz.prog w 0 (fun _ => true) true m 4 [.bool b] = some (.lit (.bool b), []) :=
  ⟨1, by simp [DataW.trod, Tryz.underlying4]⟩
theorem trod_i (z : Int) (h : (Lit.int .i64 z).wf = true) (w : World) : ∃ m, DataW.trod (H := Unit) (fun _ => ()) Tryz.prog w 0 (fun _ => true) true m 3 [.int .i64 z] = some (.lit (.int .i64 z), []) :=
  ⟨1, by simp [DataW.trod, Tryz.underlying3, h]⟩
set_option maxRecDepth 100000 in
theorem ref_key (a : Bool) (b c : Int) (hb : (Lit.int .i64 b).wf = true) (hc : (Lit.int .i64 c).wf = true) (w : World) : ∃ l, keyOf Tryz.prog 33 (.agg #[.bool a, .int .i64 b, .int .i64 c]) = some l := by
  have t := shut_agg3 (enc := fun _ => ()) (P := Tryz.prog) (w := w) (base := 0) (spare := fun _ => true) (held := true) Tryz.underlying33 (by kernel_rfl) (by kernel_rfl) (trod_b a w) (trod_i b hb w) (trod_i c hc w)
  exact ⟨_, (keyOf_asKey (by kernel_rfl) (by kernel_rfl) (by kernel_rfl) t).1⟩
set_option maxRecDepth 100000 in
theorem ref_eql (a : Bool) (b c : Int) (hb : (Lit.int .i64 b).wf = true) (hc : (Lit.int .i64 c).wf = true) (w : World) :
    (binOp .eql 33 (.agg #[.bool a, .int .i64 b, .int .i64 c]) (.agg #[.bool a, .int .i64 b, .int .i64 c])).run Tryz.prog w = .ok (.bool true) w := by
  obtain ⟨l, hl⟩ := ref_key a b c hb hc w
  obtain ⟨r, hr, hi⟩ := run_equal_deep (P := Tryz.prog) w (m := 4) (by omega) (by kernel_rfl) (by kernel_rfl) hl hl
  have e : r = true := hi.2 rfl
  subst e
  simp [binOp, go_sem, hr]
set_option maxRecDepth 100000 in
set_option maxHeartbeats 4000000 in
theorem same_op {kd r6 r7 : Int} {k v od hk lo hi : Nat} {r5 : Bool} {ks : List Nat} {kpa kpb : Option Addr} {kca kcb : Nat} (w6 : (Lit.int .i64 r6).wf = true) (w7 : (Lit.int .i64 r7).wf = true) {W : World} (hA : KeysAt W kpa ks) (hB : KeysAt W kpb ks) (hl : ks.length ≤ 9223372036854775807) :
    Calls Tryz.prog 63 #[.agg #[.int .u8 kd, .int .u64 (k : Int), .int .u64 (v : Int), .int .u64 (od : Int), .int .u64 (hk : Int), .bool r5, .int .i64 r6, .int .i64 r7, .slice kpa ks.length kca, .int .u64 (lo : Int), .int .u64 (hi : Int)], .agg #[.int .u8 kd, .int .u64 (k : Int), .int .u64 (v : Int), .int .u64 (od : Int), .int .u64 (hk : Int), .bool r5, .int .i64 r6, .int .i64 r7, .slice kpb ks.length kcb, .int .u64 (lo : Int), .int .u64 (hi : Int)]] W fun e W' => e = .returned (.bool true) ∧ Chg (fun _ => False) W W' := by
  obtain ⟨w0, hw0⟩ : ∃ w0, w0 = (W.alloc (.cells #[.int .u8 kd, .int .u64 (k : Int), .int .u64 (v : Int), .int .u64 (od : Int), .int .u64 (hk : Int), .bool r5, .int .i64 r6, .int .i64 r7, .slice kpa ks.length kca, .int .u64 (lo : Int), .int .u64 (hi : Int)] 36)).alloc (.cells #[.int .u8 kd, .int .u64 (k : Int), .int .u64 (v : Int), .int .u64 (od : Int), .int .u64 (hk : Int), .bool r5, .int .i64 r6, .int .i64 r7, .slice kpb ks.length kcb, .int .u64 (lo : Int), .int .u64 (hi : Int)] 36) := ⟨_, rfl⟩
  have C0 : Chg (fun _ => False) W w0 := by rw [hw0]; exact ((Chg.refl _ _).alloc _).alloc _
  have ba : w0.heap[W.heap.size]? = some (.cells #[.int .u8 kd, .int .u64 (k : Int), .int .u64 (v : Int), .int .u64 (od : Int), .int .u64 (hk : Int), .bool r5, .int .i64 r6, .int .i64 r7, .slice kpa ks.length kca, .int .u64 (lo : Int), .int .u64 (hi : Int)] 36 (0, 0)) := by rw [hw0]; exact alloc_of (heap_alloc_new _ _) _
  have bb : w0.heap[W.heap.size + 1]? = some (.cells #[.int .u8 kd, .int .u64 (k : Int), .int .u64 (v : Int), .int .u64 (od : Int), .int .u64 (hk : Int), .bool r5, .int .i64 r6, .int .i64 r7, .slice kpb ks.length kcb, .int .u64 (lo : Int), .int .u64 (hi : Int)] 36 (0, 0)) := by
    have e := heap_alloc_new (W.alloc (.cells #[.int .u8 kd, .int .u64 (k : Int), .int .u64 (v : Int), .int .u64 (od : Int), .int .u64 (hk : Int), .bool r5, .int .i64 r6, .int .i64 r7, .slice kpa ks.length kca, .int .u64 (lo : Int), .int .u64 (hi : Int)] 36)) (.cells #[.int .u8 kd, .int .u64 (k : Int), .int .u64 (v : Int), .int .u64 (od : Int), .int .u64 (hk : Int), .bool r5, .int .i64 r6, .int .i64 r7, .slice kpb ks.length kcb, .int .u64 (lo : Int), .int .u64 (hi : Int)] 36)
    rw [World.size_alloc] at e
    rw [hw0]
    exact e
  have HC0 := keepH C0
  have HBA := keepH ba
  have HBB := keepH bb
  have HS := keepH (same_u kpa kpb kca kcb ks w0 (hA.chg C0 (fun _ _ _ x => x)) (hB.chg C0 (fun _ _ _ x => x)) hl)
  have hre := ref_eql r5 r6 r7 w6 w7
  clear hA hB w6 w7
  have a0 : w0.cell? ⟨W.heap.size, 0, none⟩ = some (.int .u8 kd) := cell_of ba 0
  have a1 : w0.cell? ⟨W.heap.size, 1, none⟩ = some (.int .u64 (k : Int)) := cell_of ba 1
  have a2 : w0.cell? ⟨W.heap.size, 2, none⟩ = some (.int .u64 (v : Int)) := cell_of ba 2
  have a3 : w0.cell? ⟨W.heap.size, 3, none⟩ = some (.int .u64 (od : Int)) := cell_of ba 3
  have a4 : w0.cell? ⟨W.heap.size, 4, none⟩ = some (.int .u64 (hk : Int)) := cell_of ba 4
  have a5 : w0.cell? ⟨W.heap.size, 5, none⟩ = some (.bool r5) := cell_of ba 5
  have a6 : w0.cell? ⟨W.heap.size, 6, none⟩ = some (.int .i64 r6) := cell_of ba 6
  have a7 : w0.cell? ⟨W.heap.size, 7, none⟩ = some (.int .i64 r7) := cell_of ba 7
  have a8 : w0.cell? ⟨W.heap.size, 8, none⟩ = some (.slice kpa ks.length kca) := cell_of ba 8
  have a9 : w0.cell? ⟨W.heap.size, 9, none⟩ = some (.int .u64 (lo : Int)) := cell_of ba 9
  have a10 : w0.cell? ⟨W.heap.size, 10, none⟩ = some (.int .u64 (hi : Int)) := cell_of ba 10
  have b0 : w0.cell? ⟨W.heap.size + 1, 0, none⟩ = some (.int .u8 kd) := cell_of bb 0
  have b1 : w0.cell? ⟨W.heap.size + 1, 1, none⟩ = some (.int .u64 (k : Int)) := cell_of bb 1
  have b2 : w0.cell? ⟨W.heap.size + 1, 2, none⟩ = some (.int .u64 (v : Int)) := cell_of bb 2
  have b3 : w0.cell? ⟨W.heap.size + 1, 3, none⟩ = some (.int .u64 (od : Int)) := cell_of bb 3
  have b4 : w0.cell? ⟨W.heap.size + 1, 4, none⟩ = some (.int .u64 (hk : Int)) := cell_of bb 4
  have b5 : w0.cell? ⟨W.heap.size + 1, 5, none⟩ = some (.bool r5) := cell_of bb 5
  have b6 : w0.cell? ⟨W.heap.size + 1, 6, none⟩ = some (.int .i64 r6) := cell_of bb 6
  have b7 : w0.cell? ⟨W.heap.size + 1, 7, none⟩ = some (.int .i64 r7) := cell_of bb 7
  have b8 : w0.cell? ⟨W.heap.size + 1, 8, none⟩ = some (.slice kpb ks.length kcb) := cell_of bb 8
  have b9 : w0.cell? ⟨W.heap.size + 1, 9, none⟩ = some (.int .u64 (lo : Int)) := cell_of bb 9
  have b10 : w0.cell? ⟨W.heap.size + 1, 10, none⟩ = some (.int .u64 (hi : Int)) := cell_of bb 10
  clear C0 ba bb
  go_enter Tryz.func63, Tryz.ntmps63
  go_upto_region 1 with fail
  rw [← hw0]
  clear hw0
  go_wp2_with fail
  refine HS.out.mono ?_
  rintro e w1 ⟨rfl, C1⟩
  have ba := (C1.block _ (lt_of HBA.out) (fun x => x)).trans HBA.out
  have bb := (C1.block _ (lt_of HBB.out) (fun x => x)).trans HBB.out
  have HC1 : Hid (Chg (fun _ => False) W w1) := HC0.out.trans C1 (fun _ _ x => x) (fun _ _ x => x)
  have p0 : w1.cell? ⟨W.heap.size, 0, none⟩ = some (.int .u8 kd) := cell_of ba 0
  have p1 : w1.cell? ⟨W.heap.size, 1, none⟩ = some (.int .u64 (k : Int)) := cell_of ba 1
  have p2 : w1.cell? ⟨W.heap.size, 2, none⟩ = some (.int .u64 (v : Int)) := cell_of ba 2
  have p3 : w1.cell? ⟨W.heap.size, 3, none⟩ = some (.int .u64 (od : Int)) := cell_of ba 3
  have p4 : w1.cell? ⟨W.heap.size, 4, none⟩ = some (.int .u64 (hk : Int)) := cell_of ba 4
  have p5 : w1.cell? ⟨W.heap.size, 5, none⟩ = some (.bool r5) := cell_of ba 5
  have p6 : w1.cell? ⟨W.heap.size, 6, none⟩ = some (.int .i64 r6) := cell_of ba 6
  have p7 : w1.cell? ⟨W.heap.size, 7, none⟩ = some (.int .i64 r7) := cell_of ba 7
  have p8 : w1.cell? ⟨W.heap.size, 8, none⟩ = some (.slice kpa ks.length kca) := cell_of ba 8
  have p9 : w1.cell? ⟨W.heap.size, 9, none⟩ = some (.int .u64 (lo : Int)) := cell_of ba 9
  have p10 : w1.cell? ⟨W.heap.size, 10, none⟩ = some (.int .u64 (hi : Int)) := cell_of ba 10
  have q0 : w1.cell? ⟨W.heap.size + 1, 0, none⟩ = some (.int .u8 kd) := cell_of bb 0
  have q1 : w1.cell? ⟨W.heap.size + 1, 1, none⟩ = some (.int .u64 (k : Int)) := cell_of bb 1
  have q2 : w1.cell? ⟨W.heap.size + 1, 2, none⟩ = some (.int .u64 (v : Int)) := cell_of bb 2
  have q3 : w1.cell? ⟨W.heap.size + 1, 3, none⟩ = some (.int .u64 (od : Int)) := cell_of bb 3
  have q4 : w1.cell? ⟨W.heap.size + 1, 4, none⟩ = some (.int .u64 (hk : Int)) := cell_of bb 4
  have q5 : w1.cell? ⟨W.heap.size + 1, 5, none⟩ = some (.bool r5) := cell_of bb 5
  have q6 : w1.cell? ⟨W.heap.size + 1, 6, none⟩ = some (.int .i64 r6) := cell_of bb 6
  have q7 : w1.cell? ⟨W.heap.size + 1, 7, none⟩ = some (.int .i64 r7) := cell_of bb 7
  have q8 : w1.cell? ⟨W.heap.size + 1, 8, none⟩ = some (.slice kpb ks.length kcb) := cell_of bb 8
  have q9 : w1.cell? ⟨W.heap.size + 1, 9, none⟩ = some (.int .u64 (lo : Int)) := cell_of bb 9
  have q10 : w1.cell? ⟨W.heap.size + 1, 10, none⟩ = some (.int .u64 (hi : Int)) := cell_of bb 10
  clear ba bb C1
  go_wp2_with fail
  go_ret
  exact ⟨by simp, HC1.out⟩
set_option maxRecDepth 100000 in
set_option maxHeartbeats 4000000 in
theorem same_ans {er : Int} {fo dn : Bool} {va ah co : Nat} {l : List (Nat × Nat)} {pa pb : Option Addr} {ca cb : Nat} {W : World} (hA : PairsAt W pa l) (hB : PairsAt W pb l) (hl : l.length ≤ 17592186044416) :
    Calls Tryz.prog 17 #[.agg #[.int .i64 er, .bool fo, .int .u64 (va : Int), .bool dn, .int .u64 (ah : Int), .slice pa l.length ca, .int .u64 (co : Int)], .agg #[.int .i64 er, .bool fo, .int .u64 (va : Int), .bool dn, .int .u64 (ah : Int), .slice pb l.length cb, .int .u64 (co : Int)]] W fun e W' => e = .returned (.bool true) ∧ Chg (fun _ => False) W W' := by
  obtain ⟨w0, hw0⟩ : ∃ w0, w0 = (W.alloc (.cells #[.int .i64 er, .bool fo, .int .u64 (va : Int), .bool dn, .int .u64 (ah : Int), .slice pa l.length ca, .int .u64 (co : Int)] 40)).alloc (.cells #[.int .i64 er, .bool fo, .int .u64 (va : Int), .bool dn, .int .u64 (ah : Int), .slice pb l.length cb, .int .u64 (co : Int)] 40) := ⟨_, rfl⟩
  have C0 : Chg (fun _ => False) W w0 := by rw [hw0]; exact ((Chg.refl _ _).alloc _).alloc _
  have ba : w0.heap[W.heap.size]? = some (.cells #[.int .i64 er, .bool fo, .int .u64 (va : Int), .bool dn, .int .u64 (ah : Int), .slice pa l.length ca, .int .u64 (co : Int)] 40 (0, 0)) := by rw [hw0]; exact alloc_of (heap_alloc_new _ _) _
  have bb : w0.heap[W.heap.size + 1]? = some (.cells #[.int .i64 er, .bool fo, .int .u64 (va : Int), .bool dn, .int .u64 (ah : Int), .slice pb l.length cb, .int .u64 (co : Int)] 40 (0, 0)) := by
    have e := heap_alloc_new (W.alloc (.cells #[.int .i64 er, .bool fo, .int .u64 (va : Int), .bool dn, .int .u64 (ah : Int), .slice pa l.length ca, .int .u64 (co : Int)] 40)) (.cells #[.int .i64 er, .bool fo, .int .u64 (va : Int), .bool dn, .int .u64 (ah : Int), .slice pb l.length cb, .int .u64 (co : Int)] 40)
    rw [World.size_alloc] at e
    rw [hw0]
    exact e
  have HC0 := keepH C0
  have HBA := keepH ba
  have HBB := keepH bb
  have HS := keepH (r_pairs pa pb ca cb l l w0 (hA.chg C0) (hB.chg C0) hl hl)
  rw [decide_eq_true (show l = l from rfl)] at HS
  clear hA hB
  have a0 : w0.cell? ⟨W.heap.size, 0, none⟩ = some (.int .i64 er) := cell_of ba 0
  have a1 : w0.cell? ⟨W.heap.size, 1, none⟩ = some (.bool fo) := cell_of ba 1
  have a2 : w0.cell? ⟨W.heap.size, 2, none⟩ = some (.int .u64 (va : Int)) := cell_of ba 2
  have a3 : w0.cell? ⟨W.heap.size, 3, none⟩ = some (.bool dn) := cell_of ba 3
  have a4 : w0.cell? ⟨W.heap.size, 4, none⟩ = some (.int .u64 (ah : Int)) := cell_of ba 4
  have a5 : w0.cell? ⟨W.heap.size, 5, none⟩ = some (.slice pa l.length ca) := cell_of ba 5
  have a6 : w0.cell? ⟨W.heap.size, 6, none⟩ = some (.int .u64 (co : Int)) := cell_of ba 6
  have b0 : w0.cell? ⟨W.heap.size + 1, 0, none⟩ = some (.int .i64 er) := cell_of bb 0
  have b1 : w0.cell? ⟨W.heap.size + 1, 1, none⟩ = some (.bool fo) := cell_of bb 1
  have b2 : w0.cell? ⟨W.heap.size + 1, 2, none⟩ = some (.int .u64 (va : Int)) := cell_of bb 2
  have b3 : w0.cell? ⟨W.heap.size + 1, 3, none⟩ = some (.bool dn) := cell_of bb 3
  have b4 : w0.cell? ⟨W.heap.size + 1, 4, none⟩ = some (.int .u64 (ah : Int)) := cell_of bb 4
  have b5 : w0.cell? ⟨W.heap.size + 1, 5, none⟩ = some (.slice pb l.length cb) := cell_of bb 5
  have b6 : w0.cell? ⟨W.heap.size + 1, 6, none⟩ = some (.int .u64 (co : Int)) := cell_of bb 6
  clear C0 ba bb
  go_enter Tryz.func17, Tryz.ntmps17
  go_upto_region 1 with fail
  rw [← hw0]
  clear hw0
  go_wp2_with fail
  refine HS.out.mono ?_
  rintro e w1 ⟨rfl, C1⟩
  have ba := (C1.block _ (lt_of HBA.out) (fun x => x)).trans HBA.out
  have bb := (C1.block _ (lt_of HBB.out) (fun x => x)).trans HBB.out
  have HC1 : Hid (Chg (fun _ => False) W w1) := HC0.out.trans C1 (fun _ _ x => x) (fun _ _ x => x)
  have p0 : w1.cell? ⟨W.heap.size, 0, none⟩ = some (.int .i64 er) := cell_of ba 0
  have p1 : w1.cell? ⟨W.heap.size, 1, none⟩ = some (.bool fo) := cell_of ba 1
  have p2 : w1.cell? ⟨W.heap.size, 2, none⟩ = some (.int .u64 (va : Int)) := cell_of ba 2
  have p3 : w1.cell? ⟨W.heap.size, 3, none⟩ = some (.bool dn) := cell_of ba 3
  have p4 : w1.cell? ⟨W.heap.size, 4, none⟩ = some (.int .u64 (ah : Int)) := cell_of ba 4
  have p5 : w1.cell? ⟨W.heap.size, 5, none⟩ = some (.slice pa l.length ca) := cell_of ba 5
  have p6 : w1.cell? ⟨W.heap.size, 6, none⟩ = some (.int .u64 (co : Int)) := cell_of ba 6
  have q0 : w1.cell? ⟨W.heap.size + 1, 0, none⟩ = some (.int .i64 er) := cell_of bb 0
  have q1 : w1.cell? ⟨W.heap.size + 1, 1, none⟩ = some (.bool fo) := cell_of bb 1
  have q2 : w1.cell? ⟨W.heap.size + 1, 2, none⟩ = some (.int .u64 (va : Int)) := cell_of bb 2
  have q3 : w1.cell? ⟨W.heap.size + 1, 3, none⟩ = some (.bool dn) := cell_of bb 3
  have q4 : w1.cell? ⟨W.heap.size + 1, 4, none⟩ = some (.int .u64 (ah : Int)) := cell_of bb 4
  have q5 : w1.cell? ⟨W.heap.size + 1, 5, none⟩ = some (.slice pb l.length cb) := cell_of bb 5
  have q6 : w1.cell? ⟨W.heap.size + 1, 6, none⟩ = some (.int .u64 (co : Int)) := cell_of bb 6
  clear ba bb C1
  go_wp2_with fail
  go_ret
  exact ⟨by simp, HC1.out⟩
end Go.Proofs.YtimlaamhjbhkmaaGreat
