/- Pairs looked at again; operations and answers held against each other. -/
import Derived.Test.YtahgaghokpicgaaGreatF27SmA
import Derived.Deep.RegionHeld3
namespace Go.Proofs.YtahgaghokpicgaaGreat
open Go.RowKit Go.Joins
set_option linter.unusedVariables false
set_option maxHeartbeats 16000000
set_option maxRecDepth 100000 in
theorem kept_pairs (g : Nat) (p : Option Addr) (c : Nat) (l : List (Nat × Nat)) (w : World) (hh : HandedP w g l) (hg : g < w.heap.size) (h : PairsAt w p l) (hn : l.length ≤ 8796093021952) :
    Calls Tryz.prog 80 #[.slice (some ⟨g, 0, none⟩) l.length (l.length + 9), .slice p l.length c] w fun e W' => e = .returned (.bool true) ∧ Chg (fun _ => False) w W' := by
 have HS := keepH (s_pairs (some ⟨g, 0, none⟩) p (l.length + 9) c l l w (hh.pairs hg h.small) h (by omega) (by omega))
 rw [decide_eq_true (show l = l from rfl)] at HS
 obtain ⟨n, hnn⟩ : ∃ n, n = l.length := ⟨_, rfl⟩
 have HH : Hid (∀ j, j < 9 → w.cell? ⟨g, (n + j) * 2, none⟩ = some (.int .u64 (2305843009213693952 + (j : Int))) ∧ w.cell? ⟨g, (n + j) * 2 + 1, none⟩ = some (.int .u64 0)) := by rw [hnn]; exact hh.mks
 rw [← hnn] at hn HS ⊢
 clear hh h hg hnn
 go_enter Tryz.func80, Tryz.ntmps80
 go_wp2_with fail
 refine HS.out.mono ?_
 rintro e w1 ⟨rfl, C1⟩
 have HM : Hid (∀ j, j < 9 → w1.cell? ⟨g, (n + j) * 2, none⟩ = some (.int .u64 (2305843009213693952 + (j : Int))) ∧ w1.cell? ⟨g, (n + j) * 2 + 1, none⟩ = some (.int .u64 0)) := fun j hj => ⟨cell_chg C1 (HH.out j hj).1 (fun x => x), cell_chg C1 (HH.out j hj).2 (fun x => x)⟩
 have HC := keepH C1
 clear C1
 go_wp2_with fail
 go_loopw [6] (fun i wr => ∃ m : Nat, m ≤ 9 ∧ i = .int .i64 ((n : Int) + (m : Int)) ∧ wr = w1) (fun i _ => n + 9 - (intOf i).toNat)
 case atStart => exact ⟨0, by omega, by simp, rfl⟩
 case round =>
  obtain ⟨m, hm, rfl, hw⟩ := hrel
  subst hw
  by_cases hlt : m < 9
  ·obtain ⟨x1, x2⟩ := HM.out m hlt
   have hpn := fun w => pair_neq (2305843009213693952 + m) 0 (2305843009213693952 + m) 0 (by omega) (by omega) (by omega) (by omega) w
   simp at hpn
   have e0 : (2305843009213693952 : Int) + ((n : Int) + (m : Int)) - (n : Int) = 2305843009213693952 + (m : Int) := by omega
   have i1 : (n : Int) + (m : Int) < (n : Int) + 9 := by omega
   go_wp2_with fail
   go_roundw
   case rel => exact ⟨m + 1, by omega, by go_num, (by first | rfl | trivial)⟩
   case measure => simp [intOf]; omega
  ·obtain rfl : m = 9 := by omega
   go_wp2_with fail
   go_ret
   exact ⟨by simp, HC.out⟩
theorem trod_b (b : Bool) (w : World) : ∃ m, DataW.trod (H := Unit) (fun _ => ()) Tryz.prog w 0 (fun _ => true) true m 4 [.bool b] = some (.lit (.bool b), []) :=
 ⟨1, by simp [DataW.trod, Tryz.underlying4]⟩
theorem trod_i (z : Int) (h : (Lit.int .i64 z).wf = true) (w : World) : ∃ m, DataW.trod (H := Unit) (fun _ => ()) Tryz.prog w 0 (fun _ => true) true m 3 [.int .i64 z] = some (.lit (.int .i64 z), []) :=
 ⟨1, by simp [DataW.trod, Tryz.underlying3, h]⟩
set_option maxRecDepth 100000 in
theorem ref_key (a : Bool) (b c : Int) (hb : (Lit.int .i64 b).wf = true) (hc : (Lit.int .i64 c).wf = true) (w : World) : ∃ l, keyOf Tryz.prog 32 (.agg #[.bool a, .int .i64 b, .int .i64 c]) = some l := by
 have t := shut_agg3 (enc := fun _ => ()) (P := Tryz.prog) (w := w) (base := 0) (spare := fun _ => true) (held := true) Tryz.underlying32 (by kernel_rfl) (by kernel_rfl) (trod_b a w) (trod_i b hb w) (trod_i c hc w)
 exact ⟨_, (keyOf_asKey (by kernel_rfl) (by kernel_rfl) (by kernel_rfl) t).1⟩
set_option maxRecDepth 100000 in
theorem ref_eql (a : Bool) (b c : Int) (hb : (Lit.int .i64 b).wf = true) (hc : (Lit.int .i64 c).wf = true) (w : World) :
    (binOp .eql 32 (.agg #[.bool a, .int .i64 b, .int .i64 c]) (.agg #[.bool a, .int .i64 b, .int .i64 c])).run Tryz.prog w = .ok (.bool true) w := by
 obtain ⟨l, hl⟩ := ref_key a b c hb hc w
 obtain ⟨r, hr, hi⟩ := run_equal_deep (P := Tryz.prog) w (m := 4) (by omega) (by kernel_rfl) (by kernel_rfl) hl hl
 have e : r = true := hi.2 rfl
 subst e
 simp [binOp, go_sem, hr]
set_option maxRecDepth 100000 in
theorem same_op {kd r6 r7 : Int} {k v od hk lo hi : Nat} {r5 : Bool} {ks : List Nat} {kpa kpb : Option Addr} {kca kcb : Nat} (w6 : (Lit.int .i64 r6).wf = true) (w7 : (Lit.int .i64 r7).wf = true) {W : World} (hA : KeysAt W kpa ks) (hB : KeysAt W kpb ks) (hl : ks.length ≤ 9223372036854775807) :
    Calls Tryz.prog 94 #[.agg #[.int .u8 kd, .int .u64 k, .int .u64 v, .int .u64 od, .int .u64 hk, .bool r5, .int .i64 r6, .int .i64 r7, .slice kpa ks.length kca, .int .u64 lo, .int .u64 hi], .agg #[.int .u8 kd, .int .u64 k, .int .u64 v, .int .u64 od, .int .u64 hk, .bool r5, .int .i64 r6, .int .i64 r7, .slice kpb ks.length kcb, .int .u64 lo, .int .u64 hi]] W fun e W' => e = .returned (.bool true) ∧ Chg (fun _ => False) W W' := by
 obtain ⟨w0, hw0⟩ : ∃ w0, w0 = (W.alloc (.cells #[.int .u8 kd, .int .u64 k, .int .u64 v, .int .u64 od, .int .u64 hk, .bool r5, .int .i64 r6, .int .i64 r7, .slice kpa ks.length kca, .int .u64 lo, .int .u64 hi] 35)).alloc (.cells #[.int .u8 kd, .int .u64 k, .int .u64 v, .int .u64 od, .int .u64 hk, .bool r5, .int .i64 r6, .int .i64 r7, .slice kpb ks.length kcb, .int .u64 lo, .int .u64 hi] 35) := ⟨_, rfl⟩
 have C0 : Chg (fun _ => False) W w0 := by rw [hw0]; exact ((Chg.refl _ _).alloc _).alloc _
 have ba : w0.heap[W.heap.size]? = some (.cells #[.int .u8 kd, .int .u64 k, .int .u64 v, .int .u64 od, .int .u64 hk, .bool r5, .int .i64 r6, .int .i64 r7, .slice kpa ks.length kca, .int .u64 lo, .int .u64 hi] 35 (0, 0)) := by rw [hw0]; exact alloc_of (heap_alloc_new _ _) _
 have bb : w0.heap[W.heap.size + 1]? = some (.cells #[.int .u8 kd, .int .u64 k, .int .u64 v, .int .u64 od, .int .u64 hk, .bool r5, .int .i64 r6, .int .i64 r7, .slice kpb ks.length kcb, .int .u64 lo, .int .u64 hi] 35 (0, 0)) := by
  rw [hw0]
  exact al2
 have HC0 := keepH C0
 have HBA := keepH ba
 have HBB := keepH bb
 have HS := keepH (same_u kpa kpb kca kcb ks w0 (hA.chg C0 (fun _ _ _ x => x)) (hB.chg C0 (fun _ _ _ x => x)) hl)
 have hre := ref_eql r5 r6 r7 w6 w7
 clear hA hB w6 w7
 have a0 : w0.cell? ⟨W.heap.size, 0, none⟩ = some (.int .u8 kd) := cell_of ba 0
 have a1 : w0.cell? ⟨W.heap.size, 1, none⟩ = some (.int .u64 k) := cell_of ba 1
 have a2 : w0.cell? ⟨W.heap.size, 2, none⟩ = some (.int .u64 v) := cell_of ba 2
 have a3 : w0.cell? ⟨W.heap.size, 3, none⟩ = some (.int .u64 od) := cell_of ba 3
 have a4 : w0.cell? ⟨W.heap.size, 4, none⟩ = some (.int .u64 hk) := cell_of ba 4
 have a5 : w0.cell? ⟨W.heap.size, 5, none⟩ = some (.bool r5) := cell_of ba 5
 have a6 : w0.cell? ⟨W.heap.size, 6, none⟩ = some (.int .i64 r6) := cell_of ba 6
 have a7 : w0.cell? ⟨W.heap.size, 7, none⟩ = some (.int .i64 r7) := cell_of ba 7
 have a8 : w0.cell? ⟨W.heap.size, 8, none⟩ = some (.slice kpa ks.length kca) := cell_of ba 8
 have a9 : w0.cell? ⟨W.heap.size, 9, none⟩ = some (.int .u64 lo) := cell_of ba 9
 have a10 : w0.cell? ⟨W.heap.size, 10, none⟩ = some (.int .u64 hi) := cell_of ba 10
 have b0 : w0.cell? ⟨W.heap.size + 1, 0, none⟩ = some (.int .u8 kd) := cell_of bb 0
 have b1 : w0.cell? ⟨W.heap.size + 1, 1, none⟩ = some (.int .u64 k) := cell_of bb 1
 have b2 : w0.cell? ⟨W.heap.size + 1, 2, none⟩ = some (.int .u64 v) := cell_of bb 2
 have b3 : w0.cell? ⟨W.heap.size + 1, 3, none⟩ = some (.int .u64 od) := cell_of bb 3
 have b4 : w0.cell? ⟨W.heap.size + 1, 4, none⟩ = some (.int .u64 hk) := cell_of bb 4
 have b5 : w0.cell? ⟨W.heap.size + 1, 5, none⟩ = some (.bool r5) := cell_of bb 5
 have b6 : w0.cell? ⟨W.heap.size + 1, 6, none⟩ = some (.int .i64 r6) := cell_of bb 6
 have b7 : w0.cell? ⟨W.heap.size + 1, 7, none⟩ = some (.int .i64 r7) := cell_of bb 7
 have b8 : w0.cell? ⟨W.heap.size + 1, 8, none⟩ = some (.slice kpb ks.length kcb) := cell_of bb 8
 have b9 : w0.cell? ⟨W.heap.size + 1, 9, none⟩ = some (.int .u64 lo) := cell_of bb 9
 have b10 : w0.cell? ⟨W.heap.size + 1, 10, none⟩ = some (.int .u64 hi) := cell_of bb 10
 clear C0 ba bb
 go_enter Tryz.func94, Tryz.ntmps94
 go_upto_region 1 with fail
 rw [← hw0]
 clear hw0
 go_wp2_with fail
 refine HS.out.mono ?_
 rintro e w1 ⟨rfl, C1⟩
 have ba := (C1.block _ (lt_of HBA.out) (fun x => x)).trans HBA.out
 have bb := (C1.block _ (lt_of HBB.out) (fun x => x)).trans HBB.out
 have HC1 : Hid (Chg (fun _ => False) W w1) := HC0.out.trans C1 (fun _ _ x => x) (fun _ _ x => x)
 have p0 : w1.cell? ⟨W.heap.size, 0, none⟩ = some (.int .u8 kd) := cell_of ba 0
 have p1 : w1.cell? ⟨W.heap.size, 1, none⟩ = some (.int .u64 k) := cell_of ba 1
 have p2 : w1.cell? ⟨W.heap.size, 2, none⟩ = some (.int .u64 v) := cell_of ba 2
 have p3 : w1.cell? ⟨W.heap.size, 3, none⟩ = some (.int .u64 od) := cell_of ba 3
 have p4 : w1.cell? ⟨W.heap.size, 4, none⟩ = some (.int .u64 hk) := cell_of ba 4
 have p5 : w1.cell? ⟨W.heap.size, 5, none⟩ = some (.bool r5) := cell_of ba 5
 have p6 : w1.cell? ⟨W.heap.size, 6, none⟩ = some (.int .i64 r6) := cell_of ba 6
 have p7 : w1.cell? ⟨W.heap.size, 7, none⟩ = some (.int .i64 r7) := cell_of ba 7
 have p8 : w1.cell? ⟨W.heap.size, 8, none⟩ = some (.slice kpa ks.length kca) := cell_of ba 8
 have p9 : w1.cell? ⟨W.heap.size, 9, none⟩ = some (.int .u64 lo) := cell_of ba 9
 have p10 : w1.cell? ⟨W.heap.size, 10, none⟩ = some (.int .u64 hi) := cell_of ba 10
 have q0 : w1.cell? ⟨W.heap.size + 1, 0, none⟩ = some (.int .u8 kd) := cell_of bb 0
 have q1 : w1.cell? ⟨W.heap.size + 1, 1, none⟩ = some (.int .u64 k) := cell_of bb 1
 have q2 : w1.cell? ⟨W.heap.size + 1, 2, none⟩ = some (.int .u64 v) := cell_of bb 2
 have q3 : w1.cell? ⟨W.heap.size + 1, 3, none⟩ = some (.int .u64 od) := cell_of bb 3
 have q4 : w1.cell? ⟨W.heap.size + 1, 4, none⟩ = some (.int .u64 hk) := cell_of bb 4
 have q5 : w1.cell? ⟨W.heap.size + 1, 5, none⟩ = some (.bool r5) := cell_of bb 5
 have q6 : w1.cell? ⟨W.heap.size + 1, 6, none⟩ = some (.int .i64 r6) := cell_of bb 6
 have q7 : w1.cell? ⟨W.heap.size + 1, 7, none⟩ = some (.int .i64 r7) := cell_of bb 7
 have q8 : w1.cell? ⟨W.heap.size + 1, 8, none⟩ = some (.slice kpb ks.length kcb) := cell_of bb 8
 have q9 : w1.cell? ⟨W.heap.size + 1, 9, none⟩ = some (.int .u64 lo) := cell_of bb 9
 have q10 : w1.cell? ⟨W.heap.size + 1, 10, none⟩ = some (.int .u64 hi) := cell_of bb 10
 clear ba bb C1
 go_wp2_with fail
 go_ret
 exact ⟨by simp, HC1.out⟩
set_option maxRecDepth 100000 in
theorem same_ans {er : Int} {fo dn : Bool} {va ah co : Nat} {l : List (Nat × Nat)} {pa pb : Option Addr} {ca cb : Nat} {W : World} (hA : PairsAt W pa l) (hB : PairsAt W pb l) (hl : l.length ≤ 17592186044416) :
    Calls Tryz.prog 29 #[.agg #[.int .i64 er, .bool fo, .int .u64 va, .bool dn, .int .u64 ah, .slice pa l.length ca, .int .u64 co], .agg #[.int .i64 er, .bool fo, .int .u64 va, .bool dn, .int .u64 ah, .slice pb l.length cb, .int .u64 co]] W fun e W' => e = .returned (.bool true) ∧ Chg (fun _ => False) W W' := by
 obtain ⟨w0, hw0⟩ : ∃ w0, w0 = (W.alloc (.cells #[.int .i64 er, .bool fo, .int .u64 va, .bool dn, .int .u64 ah, .slice pa l.length ca, .int .u64 co] 39)).alloc (.cells #[.int .i64 er, .bool fo, .int .u64 va, .bool dn, .int .u64 ah, .slice pb l.length cb, .int .u64 co] 39) := ⟨_, rfl⟩
 have C0 : Chg (fun _ => False) W w0 := by rw [hw0]; exact ((Chg.refl _ _).alloc _).alloc _
 have ba : w0.heap[W.heap.size]? = some (.cells #[.int .i64 er, .bool fo, .int .u64 va, .bool dn, .int .u64 ah, .slice pa l.length ca, .int .u64 co] 39 (0, 0)) := by rw [hw0]; exact alloc_of (heap_alloc_new _ _) _
 have bb : w0.heap[W.heap.size + 1]? = some (.cells #[.int .i64 er, .bool fo, .int .u64 va, .bool dn, .int .u64 ah, .slice pb l.length cb, .int .u64 co] 39 (0, 0)) := by
  rw [hw0]
  exact al2
 have HC0 := keepH C0
 have HBA := keepH ba
 have HBB := keepH bb
 have HS := keepH (s_pairs pa pb ca cb l l w0 (hA.chg C0) (hB.chg C0) hl hl)
 rw [decide_eq_true (show l = l from rfl)] at HS
 clear hA hB
 have a0 : w0.cell? ⟨W.heap.size, 0, none⟩ = some (.int .i64 er) := cell_of ba 0
 have a1 : w0.cell? ⟨W.heap.size, 1, none⟩ = some (.bool fo) := cell_of ba 1
 have a2 : w0.cell? ⟨W.heap.size, 2, none⟩ = some (.int .u64 va) := cell_of ba 2
 have a3 : w0.cell? ⟨W.heap.size, 3, none⟩ = some (.bool dn) := cell_of ba 3
 have a4 : w0.cell? ⟨W.heap.size, 4, none⟩ = some (.int .u64 ah) := cell_of ba 4
 have a5 : w0.cell? ⟨W.heap.size, 5, none⟩ = some (.slice pa l.length ca) := cell_of ba 5
 have a6 : w0.cell? ⟨W.heap.size, 6, none⟩ = some (.int .u64 co) := cell_of ba 6
 have b0 : w0.cell? ⟨W.heap.size + 1, 0, none⟩ = some (.int .i64 er) := cell_of bb 0
 have b1 : w0.cell? ⟨W.heap.size + 1, 1, none⟩ = some (.bool fo) := cell_of bb 1
 have b2 : w0.cell? ⟨W.heap.size + 1, 2, none⟩ = some (.int .u64 va) := cell_of bb 2
 have b3 : w0.cell? ⟨W.heap.size + 1, 3, none⟩ = some (.bool dn) := cell_of bb 3
 have b4 : w0.cell? ⟨W.heap.size + 1, 4, none⟩ = some (.int .u64 ah) := cell_of bb 4
 have b5 : w0.cell? ⟨W.heap.size + 1, 5, none⟩ = some (.slice pb l.length cb) := cell_of bb 5
 have b6 : w0.cell? ⟨W.heap.size + 1, 6, none⟩ = some (.int .u64 co) := cell_of bb 6
 clear C0 ba bb
 go_enter Tryz.func29, Tryz.ntmps29
 go_upto_region 1 with fail
 rw [← hw0]
 clear hw0
 go_wp2_with fail
 refine HS.out.mono ?_
 rintro e w1 ⟨rfl, C1⟩
 have ba := (C1.block _ (lt_of HBA.out) (fun x => x)).trans HBA.out
 have bb := (C1.block _ (lt_of HBB.out) (fun x => x)).trans HBB.out
 have HC1 : Hid (Chg (fun _ => False) W w1) := HC0.out.trans C1 (fun _ _ x => x) (fun _ _ x => x)
 have p0 : w1.cell? ⟨W.heap.size, 0, none⟩ = some (.int .i64 er) := cell_of ba 0
 have p1 : w1.cell? ⟨W.heap.size, 1, none⟩ = some (.bool fo) := cell_of ba 1
 have p2 : w1.cell? ⟨W.heap.size, 2, none⟩ = some (.int .u64 va) := cell_of ba 2
 have p3 : w1.cell? ⟨W.heap.size, 3, none⟩ = some (.bool dn) := cell_of ba 3
 have p4 : w1.cell? ⟨W.heap.size, 4, none⟩ = some (.int .u64 ah) := cell_of ba 4
 have p5 : w1.cell? ⟨W.heap.size, 5, none⟩ = some (.slice pa l.length ca) := cell_of ba 5
 have p6 : w1.cell? ⟨W.heap.size, 6, none⟩ = some (.int .u64 co) := cell_of ba 6
 have q0 : w1.cell? ⟨W.heap.size + 1, 0, none⟩ = some (.int .i64 er) := cell_of bb 0
 have q1 : w1.cell? ⟨W.heap.size + 1, 1, none⟩ = some (.bool fo) := cell_of bb 1
 have q2 : w1.cell? ⟨W.heap.size + 1, 2, none⟩ = some (.int .u64 va) := cell_of bb 2
 have q3 : w1.cell? ⟨W.heap.size + 1, 3, none⟩ = some (.bool dn) := cell_of bb 3
 have q4 : w1.cell? ⟨W.heap.size + 1, 4, none⟩ = some (.int .u64 ah) := cell_of bb 4
 have q5 : w1.cell? ⟨W.heap.size + 1, 5, none⟩ = some (.slice pb l.length cb) := cell_of bb 5
 have q6 : w1.cell? ⟨W.heap.size + 1, 6, none⟩ = some (.int .u64 co) := cell_of bb 6
 clear ba bb C1
 go_wp2_with fail
 go_ret
 exact ⟨by simp, HC1.out⟩
end Go.Proofs.YtahgaghokpicgaaGreat
namespace Go.Proofs.YtahgaghokpicgaaGreat
open Go.RowKit
set_option linter.unusedVariables false
set_option maxHeartbeats 16000000
theorem infoOp : (Tryz.prog.info? 35).map (fun i => (i.zero, i.size, i.bytes)) = some (some (.agg #[.int .u8 0, .int .u64 0, .int .u64 0, .int .u64 0, .int .u64 0, .bool false, .int .i64 0, .int .i64 0, .slice none 0 0, .int .u64 0, .int .u64 0]), 11, 104) := by kernel_rfl
structure H_op (W wr : World) (g gk : Nat) (cs : List Value) (ks : List Nat) (m : Nat) (xs : List Value) : Prop where
 row : RowS wr W.heap.size g 35 11 10 xs
 cs : ∀ (j : Nat) (u : Value), cs[j]? = some u → xs[j]? = some u
 mks : ∀ j, j < m → xs[(1 + j) * 11 + 1]? = some (.int .u64 (2305843009213693952 + (j : Int)))
 hd : Handed wr gk ks.length (fun j => ks.getD j 0)
 ne : g ≠ gk
 ge : W.heap.size ≤ g ∧ W.heap.size ≤ gk ∧ gk < wr.heap.size
 chg : Chg (fun _ => False) W wr
theorem H_op.mark {W wr : World} {g gk : Nat} {cs : List Value} {ks : List Nat} {m : Nat} {xs : List Value} (h : H_op W wr g gk cs ks m xs) (hc : cs.length = 11) (hm : m < 9) : H_op W (wr.setCells g ((1 + m) * 11) [.int .u8 0, .int .u64 (2305843009213693952 + (m : Int)), .int .u64 0, .int .u64 0, .int .u64 0, .bool false, .int .i64 0, .int .i64 0, .slice none 0 0, .int .u64 0, .int .u64 0]) g gk cs ks (m + 1) (putL xs ((1 + m) * 11) [.int .u8 0, .int .u64 (2305843009213693952 + (m : Int)), .int .u64 0, .int .u64 0, .int .u64 0, .bool false, .int .i64 0, .int .i64 0, .slice none 0 0, .int .u64 0, .int .u64 0]) := by
 have hl := h.row.len
 have hk := setsChg g ((1 + m) * 11) [.int .u8 0, .int .u64 (2305843009213693952 + (m : Int)), .int .u64 0, .int .u64 0, .int .u64 0, .bool false, .int .i64 0, .int .i64 0, .slice none 0 0, .int .u64 0, .int .u64 0] wr
 refine ⟨h.row.puts _ _ _, fun j u hj => ?_, fun j hj => ?_, h.hd.chg hk (Ne.symm h.ne), h.ne, ⟨h.ge.1, h.ge.2.1, Nat.lt_of_lt_of_le h.ge.2.2 hk.size⟩, h.chg.trans hk (fun _ _ x => x) (fun i hi e => by have := h.ge; omega)⟩
 ·have := (List.getElem?_eq_some_iff.1 hj).1
  rw [putL_out _ _ _ _ (.inl (by omega))]
  exact h.cs j u hj
 ·by_cases e : j = m
  ·subst e
   exact putL_in _ ((1 + j) * 11) xs 1 _ rfl (by simp; omega)
  ·rw [putL_out _ _ _ _ (.inl (by omega))]
   exact h.mks j (by omega)
set_option maxRecDepth 100000 in
theorem hand_op {kd r6 r7 : Int} {k v od hk lo hi : Nat} {r5 : Bool} {ks : List Nat} {kp : Option Addr} {kc : Nat} {w : World} {gi : Nat} (hin : w.heap[gi]? = some (.cells #[.int .u8 kd, .int .u64 k, .int .u64 v, .int .u64 od, .int .u64 hk, .bool r5, .int .i64 r6, .int .i64 r7, .slice kp ks.length kc, .int .u64 lo, .int .u64 hi] 35 (0, 0))) (hK : KeysAt w kp ks) (hn : ks.length ≤ 17592186043904) :
    Calls Tryz.prog 26 #[.slice (some ⟨gi, 0, none⟩) 1 1] w fun e W' => e = .returned (.slice (some ⟨w.heap.size, 0, none⟩) 1 10) ∧ ∃ gk xs, H_op w W' w.heap.size gk [.int .u8 kd, .int .u64 k, .int .u64 v, .int .u64 od, .int .u64 hk, .bool r5, .int .i64 r6, .int .i64 r7, .slice (some ⟨gk, 0, none⟩) ks.length (ks.length + 9), .int .u64 lo, .int .u64 hi] ks 9 xs := by
 obtain ⟨i0, hI0, hz0, hz1, hz2⟩ := info_parts infoOp
 have HIN := keepH hin
 have HK := keepH hK
 clear hin hK
 go_enter Tryz.func26, Tryz.ntmps26
 go_wp2_with (at_make; refine wpList_make_full _ rfl _ _ 89 rfl w.heap.size 35 i0 (.agg #[.int .u8 0, .int .u64 0, .int .u64 0, .int .u64 0, .int .u64 0, .bool false, .int .i64 0, .int .i64 0, .slice none 0 0, .int .u64 0, .int .u64 0]) 11 Tryz.underlying89 hI0 hz0 hz1 .i64 .i64 _ _ 10 rfl rfl (by omega) (by omega) (by rw [hz2]; omega) (by unfold maxLen; omega) (Nat.le_refl _) ?_; intro w1 hown1 hgrow1)
 have HR1 : Hid (∃ xs, RowS w1 w.heap.size w.heap.size 35 11 10 xs) := ⟨_, hown1⟩
 have HC1 : Hid (Chg (fun _ => False) w w1) := grown_chg hgrow1 (fun k e => by cases e)
 have HI1 := keepH ((HC1.out.block _ (lt_of HIN.out) (fun x => x)).trans HIN.out)
 clear hown1 hgrow1
 obtain ⟨xs0, hxs0⟩ := HR1.out
 have HX0 := keepH hxs0
 have HTH := keepH (hxs0.there 0 11 (by omega))
 have HX1 := keepH (hxs0.puts [.int .u8 kd, .int .u64 k, .int .u64 v, .int .u64 od, .int .u64 hk, .bool r5, .int .i64 r6, .int .i64 r7, .slice kp ks.length kc, .int .u64 lo, .int .u64 hi] 0)
 have HK1 := keepH (setsChg w.heap.size 0 [.int .u8 kd, .int .u64 k, .int .u64 v, .int .u64 od, .int .u64 hk, .bool r5, .int .i64 r6, .int .i64 r7, .slice kp ks.length kc, .int .u64 lo, .int .u64 hi] w1)
 have HLT := keepH (lt_of HIN.out)
 obtain ⟨w2, hw2⟩ : ∃ w2, w2 = w1.setCells w.heap.size 0 [.int .u8 kd, .int .u64 k, .int .u64 v, .int .u64 od, .int .u64 hk, .bool r5, .int .i64 r6, .int .i64 r7, .slice kp ks.length kc, .int .u64 lo, .int .u64 hi] := ⟨_, rfl⟩
 rw [← hw2] at HX1 HK1
 have HI2 := keepH ((HK1.out.block _ (lt_of HI1.out) (by have := HLT.out; omega)).trans HI1.out)
 have HC2 : Hid (Chg (fun _ => False) w w2) := HC1.out.trans HK1.out (fun _ _ x => x) (fun i hi e => by omega)
 have HW2 := keepH hw2
 clear hxs0 hw2
 have a0 : w1.cell? ⟨gi, 0, none⟩ = some (.int .u8 kd) := cell_of HI1.out 0
 have a1 : w1.cell? ⟨gi, 1, none⟩ = some (.int .u64 k) := cell_of HI1.out 1
 have a2 : w1.cell? ⟨gi, 2, none⟩ = some (.int .u64 v) := cell_of HI1.out 2
 have a3 : w1.cell? ⟨gi, 3, none⟩ = some (.int .u64 od) := cell_of HI1.out 3
 have a4 : w1.cell? ⟨gi, 4, none⟩ = some (.int .u64 hk) := cell_of HI1.out 4
 have a5 : w1.cell? ⟨gi, 5, none⟩ = some (.bool r5) := cell_of HI1.out 5
 have a6 : w1.cell? ⟨gi, 6, none⟩ = some (.int .i64 r6) := cell_of HI1.out 6
 have a7 : w1.cell? ⟨gi, 7, none⟩ = some (.int .i64 r7) := cell_of HI1.out 7
 have a8 : w1.cell? ⟨gi, 8, none⟩ = some (.slice kp ks.length kc) := cell_of HI1.out 8
 have a9 : w1.cell? ⟨gi, 9, none⟩ = some (.int .u64 lo) := cell_of HI1.out 9
 have a10 : w1.cell? ⟨gi, 10, none⟩ = some (.int .u64 hi) := cell_of HI1.out 10
 have b0 : w2.cell? ⟨gi, 0, none⟩ = some (.int .u8 kd) := cell_of HI2.out 0
 have b1 : w2.cell? ⟨gi, 1, none⟩ = some (.int .u64 k) := cell_of HI2.out 1
 have b2 : w2.cell? ⟨gi, 2, none⟩ = some (.int .u64 v) := cell_of HI2.out 2
 have b3 : w2.cell? ⟨gi, 3, none⟩ = some (.int .u64 od) := cell_of HI2.out 3
 have b4 : w2.cell? ⟨gi, 4, none⟩ = some (.int .u64 hk) := cell_of HI2.out 4
 have b5 : w2.cell? ⟨gi, 5, none⟩ = some (.bool r5) := cell_of HI2.out 5
 have b6 : w2.cell? ⟨gi, 6, none⟩ = some (.int .i64 r6) := cell_of HI2.out 6
 have b7 : w2.cell? ⟨gi, 7, none⟩ = some (.int .i64 r7) := cell_of HI2.out 7
 have b8 : w2.cell? ⟨gi, 8, none⟩ = some (.slice kp ks.length kc) := cell_of HI2.out 8
 have b9 : w2.cell? ⟨gi, 9, none⟩ = some (.int .u64 lo) := cell_of HI2.out 9
 have b10 : w2.cell? ⟨gi, 10, none⟩ = some (.int .u64 hi) := cell_of HI2.out 10
 have HSUB := keepH (hand_keys kp kc ks w2 (HK.out.chg HC2.out (fun _ _ _ x => x)) hn)
 refine wp_loop_rounds 2 ?_
 rw [rounds_succ]
 go_wp2_with (refine wpList_store_mid rfl 35 (.tmp 22) (.tmp 21) rfl w.heap.size 0 #[.int .u8 kd, .int .u64 k, .int .u64 v, .int .u64 od, .int .u64 hk, .bool r5, .int .i64 r6, .int .i64 r7, .slice kp ks.length kc, .int .u64 lo, .int .u64 hi] (by first | rfl | simp) rfl HTH.out (by kernel_rfl) (by kernel_rfl) ?_; rw [show w1.setCells w.heap.size 0 (#[.int .u8 kd, .int .u64 k, .int .u64 v, .int .u64 od, .int .u64 hk, .bool r5, .int .i64 r6, .int .i64 r7, .slice kp ks.length kc, .int .u64 lo, .int .u64 hi] : Array Value).toList = w2 from HW2.out.symm]; clear HW2 HTH)
 refine HSUB.out.mono ?_
 rintro e w3 ⟨gk, rfl, hg1, hg2, hhd, C3⟩
 have r3 := HX1.out.chg C3 (fun x => x)
 have c8 : ∃ u, w3.cell? ⟨w.heap.size, 8, none⟩ = some u := by
  rw [r3.cell 8 (by omega)]
  exact ⟨_, List.getElem?_eq_getElem (by have := r3.len; omega)⟩
 obtain ⟨u8, c8⟩ := c8
 have f8 : w3.frozen? ⟨w.heap.size, 8, none⟩ = false := World.ownsRow.frozenAt r3 8
 obtain ⟨w4, hw4⟩ : ∃ w4, w4 = w3.setCell ⟨w.heap.size, 8, none⟩ (.slice (some ⟨gk, 0, none⟩) ks.length (ks.length + 9)) := ⟨_, rfl⟩
 have K4 : Chg (fun i => i = w.heap.size) w3 w4 := by rw [hw4]; exact setP _
 have r4 : RowS w4 w.heap.size w.heap.size 35 11 10 ((putL xs0 0 [.int .u8 kd, .int .u64 k, .int .u64 v, .int .u64 od, .int .u64 hk, .bool r5, .int .i64 r6, .int .i64 r7, .slice kp ks.length kc, .int .u64 lo, .int .u64 hi]).set 8 (.slice (some ⟨gk, 0, none⟩) ks.length (ks.length + 9))) := by rw [hw4]; exact (World.ownsRow.stored r3 8 _).1
 have hne : w.heap.size ≠ gk := by have := HC2.out.size; have := HX1.out.lt.2; omega
 have HH : Hid (∃ xs, H_op w w4 w.heap.size gk [.int .u8 kd, .int .u64 k, .int .u64 v, .int .u64 od, .int .u64 hk, .bool r5, .int .i64 r6, .int .i64 r7, .slice (some ⟨gk, 0, none⟩) ks.length (ks.length + 9), .int .u64 lo, .int .u64 hi] ks 0 xs) := by
  have hl0 := HX0.out.len
  refine ⟨_, r4, fun j u hj => ?_, fun j hj => by omega, hhd.chg K4 (Ne.symm hne), hne, ⟨Nat.le_refl _, by have := HC2.out.size; omega, Nat.lt_of_lt_of_le hg2 K4.size⟩, (HC2.out.trans C3 (H := fun _ => False) (fun _ _ x => x) (fun _ _ x => x)).trans K4 (fun _ _ x => x) (fun i hi e => by omega)⟩
  rw [List.getElem?_set]
  match j, hj with
  | 0, hj => rw [if_neg (by omega)]; exact (Nat.zero_add 0 ▸ putL_in [.int .u8 kd, .int .u64 k, .int .u64 v, .int .u64 od, .int .u64 hk, .bool r5, .int .i64 r6, .int .i64 r7, .slice kp ks.length kc, .int .u64 lo, .int .u64 hi] 0 xs0 0 u hj (by simp; omega))
  | 1, hj => rw [if_neg (by omega)]; exact (Nat.zero_add 1 ▸ putL_in [.int .u8 kd, .int .u64 k, .int .u64 v, .int .u64 od, .int .u64 hk, .bool r5, .int .i64 r6, .int .i64 r7, .slice kp ks.length kc, .int .u64 lo, .int .u64 hi] 0 xs0 1 u hj (by simp; omega))
  | 2, hj => rw [if_neg (by omega)]; exact (Nat.zero_add 2 ▸ putL_in [.int .u8 kd, .int .u64 k, .int .u64 v, .int .u64 od, .int .u64 hk, .bool r5, .int .i64 r6, .int .i64 r7, .slice kp ks.length kc, .int .u64 lo, .int .u64 hi] 0 xs0 2 u hj (by simp; omega))
  | 3, hj => rw [if_neg (by omega)]; exact (Nat.zero_add 3 ▸ putL_in [.int .u8 kd, .int .u64 k, .int .u64 v, .int .u64 od, .int .u64 hk, .bool r5, .int .i64 r6, .int .i64 r7, .slice kp ks.length kc, .int .u64 lo, .int .u64 hi] 0 xs0 3 u hj (by simp; omega))
  | 4, hj => rw [if_neg (by omega)]; exact (Nat.zero_add 4 ▸ putL_in [.int .u8 kd, .int .u64 k, .int .u64 v, .int .u64 od, .int .u64 hk, .bool r5, .int .i64 r6, .int .i64 r7, .slice kp ks.length kc, .int .u64 lo, .int .u64 hi] 0 xs0 4 u hj (by simp; omega))
  | 5, hj => rw [if_neg (by omega)]; exact (Nat.zero_add 5 ▸ putL_in [.int .u8 kd, .int .u64 k, .int .u64 v, .int .u64 od, .int .u64 hk, .bool r5, .int .i64 r6, .int .i64 r7, .slice kp ks.length kc, .int .u64 lo, .int .u64 hi] 0 xs0 5 u hj (by simp; omega))
  | 6, hj => rw [if_neg (by omega)]; exact (Nat.zero_add 6 ▸ putL_in [.int .u8 kd, .int .u64 k, .int .u64 v, .int .u64 od, .int .u64 hk, .bool r5, .int .i64 r6, .int .i64 r7, .slice kp ks.length kc, .int .u64 lo, .int .u64 hi] 0 xs0 6 u hj (by simp; omega))
  | 7, hj => rw [if_neg (by omega)]; exact (Nat.zero_add 7 ▸ putL_in [.int .u8 kd, .int .u64 k, .int .u64 v, .int .u64 od, .int .u64 hk, .bool r5, .int .i64 r6, .int .i64 r7, .slice kp ks.length kc, .int .u64 lo, .int .u64 hi] 0 xs0 7 u hj (by simp; omega))
  | 8, hj => rw [if_pos rfl]; simp at hj; subst hj; rw [if_pos (by rw [putL_len]; omega)]
  | 9, hj => rw [if_neg (by omega)]; exact (Nat.zero_add 9 ▸ putL_in [.int .u8 kd, .int .u64 k, .int .u64 v, .int .u64 od, .int .u64 hk, .bool r5, .int .i64 r6, .int .i64 r7, .slice kp ks.length kc, .int .u64 lo, .int .u64 hi] 0 xs0 9 u hj (by simp; omega))
  | 10, hj => rw [if_neg (by omega)]; exact (Nat.zero_add 10 ▸ putL_in [.int .u8 kd, .int .u64 k, .int .u64 v, .int .u64 od, .int .u64 hk, .bool r5, .int .i64 r6, .int .i64 r7, .slice kp ks.length kc, .int .u64 lo, .int .u64 hi] 0 xs0 10 u hj (by simp; omega))
  | j + 11, hj => simp at hj
 have HW4 := keepH hw4
 clear r3 r4 K4 hne hg1 hg2 hhd C3 hw4
 go_wp2_with fail
 rw [← HW4.out]
 clear HW4
 rw [rounds_succ]
 go_wp2_with fail
 go_loopw [5] (fun s wr => ∃ m : Nat, m ≤ 9 ∧ s = .int .i64 (1 + (m : Int)) ∧ Hid (∃ xs, H_op w wr w.heap.size gk [.int .u8 kd, .int .u64 k, .int .u64 v, .int .u64 od, .int .u64 hk, .bool r5, .int .i64 r6, .int .i64 r7, .slice (some ⟨gk, 0, none⟩) ks.length (ks.length + 9), .int .u64 lo, .int .u64 hi] ks m xs)) (fun s _ => 10 - (intOf s).toNat)
 case atStart => exact ⟨0, by omega, by simp, HH⟩
 case round =>
  obtain ⟨m, hm, rfl, HM⟩ := hrel
  by_cases hlt2 : m < 9
  ·have t2 : (1 : Int) + (m : Int) < 10 := by omega
   obtain ⟨xs, hxs⟩ := HM.out
   have HTH := keepH (hxs.row.there ((1 + m) * 11) 11 (by omega))
   have HN := keepH (hxs.mark rfl hlt2)
   obtain ⟨w5, hw5⟩ : ∃ w5, w5 = wr.setCells w.heap.size ((1 + m) * 11) [.int .u8 0, .int .u64 (2305843009213693952 + (m : Int)), .int .u64 0, .int .u64 0, .int .u64 0, .bool false, .int .i64 0, .int .i64 0, .slice none 0 0, .int .u64 0, .int .u64 0] := ⟨_, rfl⟩
   rw [← hw5] at HN
   have HW5 := keepH hw5
   clear hxs hw5
   have e0 : (2305843009213693952 : Int) + (1 + (m : Int)) - 1 = 2305843009213693952 + (m : Int) := by omega
   go_wp2_with (refine wpList_store_mid rfl 35 (.tmp 50) (.tmp 49) rfl w.heap.size ((1 + m) * 11) #[.int .u8 0, .int .u64 (2305843009213693952 + (m : Int)), .int .u64 0, .int .u64 0, .int .u64 0, .bool false, .int .i64 0, .int .i64 0, .slice none 0 0, .int .u64 0, .int .u64 0] (by first | rfl | simp) (by first | rfl | simp) HTH.out (by kernel_rfl) (by kernel_rfl) ?_; rw [show wr.setCells w.heap.size ((1 + m) * 11) (#[.int .u8 0, .int .u64 (2305843009213693952 + (m : Int)), .int .u64 0, .int .u64 0, .int .u64 0, .bool false, .int .i64 0, .int .i64 0, .slice none 0 0, .int .u64 0, .int .u64 0] : Array Value).toList = w5 from HW5.out.symm]; clear HW5)
   go_roundw
   case rel => exact ⟨m + 1, by omega, by first | rfl | go_num, ⟨_, HN.out⟩⟩
   case measure => simp [intOf]; omega
  ·obtain rfl : m = 9 := by omega
   have t2 : ¬ (1 : Int) + 9 < 10 := by omega
   go_wp2_with fail
   go_ret
   obtain ⟨xs, hxs⟩ := HM.out
   exact ⟨by simp, gk, xs, hxs⟩
theorem infoAns : (Tryz.prog.info? 39).map (fun i => (i.zero, i.size, i.bytes)) = some (some (.agg #[.int .i64 0, .bool false, .int .u64 0, .bool false, .int .u64 0, .slice none 0 0, .int .u64 0]), 7, 72) := by kernel_rfl
structure H_ans (W wr : World) (g gk : Nat) (cs : List Value) (l : List (Nat × Nat)) (m : Nat) (xs : List Value) : Prop where
 row : RowS wr W.heap.size g 39 7 10 xs
 cs : ∀ (j : Nat) (u : Value), cs[j]? = some u → xs[j]? = some u
 mks : ∀ j, j < m → xs[(1 + j) * 7 + 2]? = some (.int .u64 (2305843009213693952 + (j : Int)))
 hd : HandedP wr gk l
 ne : g ≠ gk
 ge : W.heap.size ≤ g ∧ W.heap.size ≤ gk ∧ gk < wr.heap.size
 chg : Chg (fun _ => False) W wr
theorem H_ans.mark {W wr : World} {g gk : Nat} {cs : List Value} {l : List (Nat × Nat)} {m : Nat} {xs : List Value} (h : H_ans W wr g gk cs l m xs) (hc : cs.length = 7) (hm : m < 9) : H_ans W (wr.setCells g ((1 + m) * 7) [.int .i64 0, .bool false, .int .u64 (2305843009213693952 + (m : Int)), .bool false, .int .u64 0, .slice none 0 0, .int .u64 0]) g gk cs l (m + 1) (putL xs ((1 + m) * 7) [.int .i64 0, .bool false, .int .u64 (2305843009213693952 + (m : Int)), .bool false, .int .u64 0, .slice none 0 0, .int .u64 0]) := by
 have hl := h.row.len
 have hk := setsChg g ((1 + m) * 7) [.int .i64 0, .bool false, .int .u64 (2305843009213693952 + (m : Int)), .bool false, .int .u64 0, .slice none 0 0, .int .u64 0] wr
 refine ⟨h.row.puts _ _ _, fun j u hj => ?_, fun j hj => ?_, h.hd.chg hk (Ne.symm h.ne), h.ne, ⟨h.ge.1, h.ge.2.1, Nat.lt_of_lt_of_le h.ge.2.2 hk.size⟩, h.chg.trans hk (fun _ _ x => x) (fun i hi e => by have := h.ge; omega)⟩
 ·have := (List.getElem?_eq_some_iff.1 hj).1
  rw [putL_out _ _ _ _ (.inl (by omega))]
  exact h.cs j u hj
 ·by_cases e : j = m
  ·subst e
   exact putL_in _ ((1 + j) * 7) xs 2 _ rfl (by simp; omega)
  ·rw [putL_out _ _ _ _ (.inl (by omega))]
   exact h.mks j (by omega)
set_option maxRecDepth 100000 in
theorem hand_ans {er : Int} {fo dn : Bool} {va ah co : Nat} {l : List (Nat × Nat)} {kp : Option Addr} {kc : Nat} {w : World} {gi : Nat} (hin : w.heap[gi]? = some (.cells #[.int .i64 er, .bool fo, .int .u64 va, .bool dn, .int .u64 ah, .slice kp l.length kc, .int .u64 co] 39 (0, 0))) (hK : PairsAt w kp l) (hn : l.length ≤ 8796093021952) :
    Calls Tryz.prog 27 #[.slice (some ⟨gi, 0, none⟩) 1 1] w fun e W' => e = .returned (.slice (some ⟨w.heap.size, 0, none⟩) 1 10) ∧ ∃ gk xs, H_ans w W' w.heap.size gk [.int .i64 er, .bool fo, .int .u64 va, .bool dn, .int .u64 ah, .slice (some ⟨gk, 0, none⟩) l.length (l.length + 9), .int .u64 co] l 9 xs := by
 obtain ⟨i0, hI0, hz0, hz1, hz2⟩ := info_parts infoAns
 have HIN := keepH hin
 have HK := keepH hK
 clear hin hK
 go_enter Tryz.func27, Tryz.ntmps27
 go_wp2_with (at_make; refine wpList_make_full _ rfl _ _ 91 rfl w.heap.size 39 i0 (.agg #[.int .i64 0, .bool false, .int .u64 0, .bool false, .int .u64 0, .slice none 0 0, .int .u64 0]) 7 Tryz.underlying91 hI0 hz0 hz1 .i64 .i64 _ _ 10 rfl rfl (by omega) (by omega) (by rw [hz2]; omega) (by unfold maxLen; omega) (Nat.le_refl _) ?_; intro w1 hown1 hgrow1)
 have HR1 : Hid (∃ xs, RowS w1 w.heap.size w.heap.size 39 7 10 xs) := ⟨_, hown1⟩
 have HC1 : Hid (Chg (fun _ => False) w w1) := grown_chg hgrow1 (fun k e => by cases e)
 have HI1 := keepH ((HC1.out.block _ (lt_of HIN.out) (fun x => x)).trans HIN.out)
 clear hown1 hgrow1
 obtain ⟨xs0, hxs0⟩ := HR1.out
 have HX0 := keepH hxs0
 have HTH := keepH (hxs0.there 0 7 (by omega))
 have HX1 := keepH (hxs0.puts [.int .i64 er, .bool fo, .int .u64 va, .bool dn, .int .u64 ah, .slice kp l.length kc, .int .u64 co] 0)
 have HK1 := keepH (setsChg w.heap.size 0 [.int .i64 er, .bool fo, .int .u64 va, .bool dn, .int .u64 ah, .slice kp l.length kc, .int .u64 co] w1)
 have HLT := keepH (lt_of HIN.out)
 obtain ⟨w2, hw2⟩ : ∃ w2, w2 = w1.setCells w.heap.size 0 [.int .i64 er, .bool fo, .int .u64 va, .bool dn, .int .u64 ah, .slice kp l.length kc, .int .u64 co] := ⟨_, rfl⟩
 rw [← hw2] at HX1 HK1
 have HI2 := keepH ((HK1.out.block _ (lt_of HI1.out) (by have := HLT.out; omega)).trans HI1.out)
 have HC2 : Hid (Chg (fun _ => False) w w2) := HC1.out.trans HK1.out (fun _ _ x => x) (fun i hi e => by omega)
 have HW2 := keepH hw2
 clear hxs0 hw2
 have a0 : w1.cell? ⟨gi, 0, none⟩ = some (.int .i64 er) := cell_of HI1.out 0
 have a1 : w1.cell? ⟨gi, 1, none⟩ = some (.bool fo) := cell_of HI1.out 1
 have a2 : w1.cell? ⟨gi, 2, none⟩ = some (.int .u64 va) := cell_of HI1.out 2
 have a3 : w1.cell? ⟨gi, 3, none⟩ = some (.bool dn) := cell_of HI1.out 3
 have a4 : w1.cell? ⟨gi, 4, none⟩ = some (.int .u64 ah) := cell_of HI1.out 4
 have a5 : w1.cell? ⟨gi, 5, none⟩ = some (.slice kp l.length kc) := cell_of HI1.out 5
 have a6 : w1.cell? ⟨gi, 6, none⟩ = some (.int .u64 co) := cell_of HI1.out 6
 have b0 : w2.cell? ⟨gi, 0, none⟩ = some (.int .i64 er) := cell_of HI2.out 0
 have b1 : w2.cell? ⟨gi, 1, none⟩ = some (.bool fo) := cell_of HI2.out 1
 have b2 : w2.cell? ⟨gi, 2, none⟩ = some (.int .u64 va) := cell_of HI2.out 2
 have b3 : w2.cell? ⟨gi, 3, none⟩ = some (.bool dn) := cell_of HI2.out 3
 have b4 : w2.cell? ⟨gi, 4, none⟩ = some (.int .u64 ah) := cell_of HI2.out 4
 have b5 : w2.cell? ⟨gi, 5, none⟩ = some (.slice kp l.length kc) := cell_of HI2.out 5
 have b6 : w2.cell? ⟨gi, 6, none⟩ = some (.int .u64 co) := cell_of HI2.out 6
 have HSUB := keepH (hand_pairs kp kc l w2 (HK.out.chg HC2.out) hn)
 refine wp_loop_rounds 2 ?_
 rw [rounds_succ]
 go_wp2_with (refine wpList_store_mid rfl 39 (.tmp 22) (.tmp 21) rfl w.heap.size 0 #[.int .i64 er, .bool fo, .int .u64 va, .bool dn, .int .u64 ah, .slice kp l.length kc, .int .u64 co] (by first | rfl | simp) rfl HTH.out (by kernel_rfl) (by kernel_rfl) ?_; rw [show w1.setCells w.heap.size 0 (#[.int .i64 er, .bool fo, .int .u64 va, .bool dn, .int .u64 ah, .slice kp l.length kc, .int .u64 co] : Array Value).toList = w2 from HW2.out.symm]; clear HW2 HTH)
 refine HSUB.out.mono ?_
 rintro e w3 ⟨gk, rfl, hg1, hg2, hhd, C3⟩
 have r3 := HX1.out.chg C3 (fun x => x)
 have c8 : ∃ u, w3.cell? ⟨w.heap.size, 5, none⟩ = some u := by
  rw [r3.cell 5 (by omega)]
  exact ⟨_, List.getElem?_eq_getElem (by have := r3.len; omega)⟩
 obtain ⟨u8, c8⟩ := c8
 have f8 : w3.frozen? ⟨w.heap.size, 5, none⟩ = false := World.ownsRow.frozenAt r3 5
 obtain ⟨w4, hw4⟩ : ∃ w4, w4 = w3.setCell ⟨w.heap.size, 5, none⟩ (.slice (some ⟨gk, 0, none⟩) l.length (l.length + 9)) := ⟨_, rfl⟩
 have K4 : Chg (fun i => i = w.heap.size) w3 w4 := by rw [hw4]; exact setP _
 have r4 : RowS w4 w.heap.size w.heap.size 39 7 10 ((putL xs0 0 [.int .i64 er, .bool fo, .int .u64 va, .bool dn, .int .u64 ah, .slice kp l.length kc, .int .u64 co]).set 5 (.slice (some ⟨gk, 0, none⟩) l.length (l.length + 9))) := by rw [hw4]; exact (World.ownsRow.stored r3 5 _).1
 have hne : w.heap.size ≠ gk := by have := HC2.out.size; have := HX1.out.lt.2; omega
 have HH : Hid (∃ xs, H_ans w w4 w.heap.size gk [.int .i64 er, .bool fo, .int .u64 va, .bool dn, .int .u64 ah, .slice (some ⟨gk, 0, none⟩) l.length (l.length + 9), .int .u64 co] l 0 xs) := by
  have hl0 := HX0.out.len
  refine ⟨_, r4, fun j u hj => ?_, fun j hj => by omega, hhd.chg K4 (Ne.symm hne), hne, ⟨Nat.le_refl _, by have := HC2.out.size; omega, Nat.lt_of_lt_of_le hg2 K4.size⟩, (HC2.out.trans C3 (H := fun _ => False) (fun _ _ x => x) (fun _ _ x => x)).trans K4 (fun _ _ x => x) (fun i hi e => by omega)⟩
  rw [List.getElem?_set]
  match j, hj with
  | 0, hj => rw [if_neg (by omega)]; exact (Nat.zero_add 0 ▸ putL_in [.int .i64 er, .bool fo, .int .u64 va, .bool dn, .int .u64 ah, .slice kp l.length kc, .int .u64 co] 0 xs0 0 u hj (by simp; omega))
  | 1, hj => rw [if_neg (by omega)]; exact (Nat.zero_add 1 ▸ putL_in [.int .i64 er, .bool fo, .int .u64 va, .bool dn, .int .u64 ah, .slice kp l.length kc, .int .u64 co] 0 xs0 1 u hj (by simp; omega))
  | 2, hj => rw [if_neg (by omega)]; exact (Nat.zero_add 2 ▸ putL_in [.int .i64 er, .bool fo, .int .u64 va, .bool dn, .int .u64 ah, .slice kp l.length kc, .int .u64 co] 0 xs0 2 u hj (by simp; omega))
  | 3, hj => rw [if_neg (by omega)]; exact (Nat.zero_add 3 ▸ putL_in [.int .i64 er, .bool fo, .int .u64 va, .bool dn, .int .u64 ah, .slice kp l.length kc, .int .u64 co] 0 xs0 3 u hj (by simp; omega))
  | 4, hj => rw [if_neg (by omega)]; exact (Nat.zero_add 4 ▸ putL_in [.int .i64 er, .bool fo, .int .u64 va, .bool dn, .int .u64 ah, .slice kp l.length kc, .int .u64 co] 0 xs0 4 u hj (by simp; omega))
  | 5, hj => rw [if_pos rfl]; simp at hj; subst hj; rw [if_pos (by rw [putL_len]; omega)]
  | 6, hj => rw [if_neg (by omega)]; exact (Nat.zero_add 6 ▸ putL_in [.int .i64 er, .bool fo, .int .u64 va, .bool dn, .int .u64 ah, .slice kp l.length kc, .int .u64 co] 0 xs0 6 u hj (by simp; omega))
  | j + 7, hj => simp at hj
 have HW4 := keepH hw4
 clear r3 r4 K4 hne hg1 hg2 hhd C3 hw4
 go_wp2_with fail
 rw [← HW4.out]
 clear HW4
 rw [rounds_succ]
 go_wp2_with fail
 go_loopw [5] (fun s wr => ∃ m : Nat, m ≤ 9 ∧ s = .int .i64 (1 + (m : Int)) ∧ Hid (∃ xs, H_ans w wr w.heap.size gk [.int .i64 er, .bool fo, .int .u64 va, .bool dn, .int .u64 ah, .slice (some ⟨gk, 0, none⟩) l.length (l.length + 9), .int .u64 co] l m xs)) (fun s _ => 10 - (intOf s).toNat)
 case atStart => exact ⟨0, by omega, by simp, HH⟩
 case round =>
  obtain ⟨m, hm, rfl, HM⟩ := hrel
  by_cases hlt2 : m < 9
  ·have t2 : (1 : Int) + (m : Int) < 10 := by omega
   obtain ⟨xs, hxs⟩ := HM.out
   have HTH := keepH (hxs.row.there ((1 + m) * 7) 7 (by omega))
   have HN := keepH (hxs.mark rfl hlt2)
   obtain ⟨w5, hw5⟩ : ∃ w5, w5 = wr.setCells w.heap.size ((1 + m) * 7) [.int .i64 0, .bool false, .int .u64 (2305843009213693952 + (m : Int)), .bool false, .int .u64 0, .slice none 0 0, .int .u64 0] := ⟨_, rfl⟩
   rw [← hw5] at HN
   have HW5 := keepH hw5
   clear hxs hw5
   have e0 : (2305843009213693952 : Int) + (1 + (m : Int)) - 1 = 2305843009213693952 + (m : Int) := by omega
   go_wp2_with (refine wpList_store_mid rfl 39 (.tmp 50) (.tmp 49) rfl w.heap.size ((1 + m) * 7) #[.int .i64 0, .bool false, .int .u64 (2305843009213693952 + (m : Int)), .bool false, .int .u64 0, .slice none 0 0, .int .u64 0] (by first | rfl | simp) (by first | rfl | simp) HTH.out (by kernel_rfl) (by kernel_rfl) ?_; rw [show wr.setCells w.heap.size ((1 + m) * 7) (#[.int .i64 0, .bool false, .int .u64 (2305843009213693952 + (m : Int)), .bool false, .int .u64 0, .slice none 0 0, .int .u64 0] : Array Value).toList = w5 from HW5.out.symm]; clear HW5)
   go_roundw
   case rel => exact ⟨m + 1, by omega, by first | rfl | go_num, ⟨_, HN.out⟩⟩
   case measure => simp [intOf]; omega
  ·obtain rfl : m = 9 := by omega
   have t2 : ¬ (1 : Int) + 9 < 10 := by omega
   go_wp2_with fail
   go_ret
   obtain ⟨xs, hxs⟩ := HM.out
   exact ⟨by simp, gk, xs, hxs⟩
end Go.Proofs.YtahgaghokpicgaaGreat
