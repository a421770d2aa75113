/- ModelSames: the whole walk. -/
import Derived.Test.YteehbleikhfniaaMsX
namespace Go.Proofs.Yteehbleikhfniaa
open Go.RowKit
set_option linter.unusedVariables false

theorem wpList_append_run {P : Program} {w : World} {ops : Array Oper} {rest : List Oper} {o : Oper} {a : Act} {Q : Exit → Act → World → Prop} (hgd : o.guard = none) (s x : Operand) (t : TypeId)
    (ho : o.op = .call { callee := .builtin .append, args := #[s, x], argTypes := #[t, t] }) (v vx v' : Value) (w' : World) (hs : a.eval s = v) (hx : a.eval x = vx) (hr : (Builtin.append_ #[t, t] o.type #[v, vx]).run P w = .ok v' w')
    (h : wpList P ops Q rest (a.put o.dst v') w') : wpList P ops Q (o :: rest) a w := by
  refine wpList_plain hgd fun K hK => ?_
  unfold Oper.wp execOp
  simp only [ho, resolve, invoke, builtin, Sem.run_bind, Sem.run_pure, Result.andThen_ok, List.map_toArray, List.map_cons, List.map_nil, hs, hx, hr]
  exact hK _ _ h
set_option maxRecDepth 100000 in
set_option maxHeartbeats 16000000 in
theorem sames_walk (e1 e2 : Int) (f1 f2 d1 d2 : Bool) (x1 x2 h1 h2 n1 n2 : Nat) (p1 p2 : Option Addr) (c1 c2 : Nat) (l1 l2 : List (Nat × Nat)) (W : World) (hA : PairsAt W p1 l1) (hB : PairsAt W p2 l2) (hla : l1.length ≤ 8796093021952) (hlb : l2.length ≤ 8796093021952) :
    Calls Try.prog 3 #[.agg #[.int .i64 e1, .bool f1, .int .u64 (x1 : Int), .bool d1, .int .u64 (h1 : Int), .slice p1 l1.length c1, .int .u64 (n1 : Int)], .agg #[.int .i64 e2, .bool f2, .int .u64 (x2 : Int), .bool d2, .int .u64 (h2 : Int), .slice p2 l2.length c2, .int .u64 (n2 : Int)]] W fun e W' => e = .returned (.bool true) ∧ Chg (fun _ => False) W W' := by
  obtain ⟨w0, hw0⟩ : ∃ w0, w0 = (W.alloc (.cells #[.int .i64 e1, .bool f1, .int .u64 (x1 : Int), .bool d1, .int .u64 (h1 : Int), .slice p1 l1.length c1, .int .u64 (n1 : Int)] 26)).alloc (.cells #[.int .i64 e2, .bool f2, .int .u64 (x2 : Int), .bool d2, .int .u64 (h2 : Int), .slice p2 l2.length c2, .int .u64 (n2 : Int)] 26) := ⟨_, rfl⟩
  have C0 : Chg (fun _ => False) W w0 := by rw [hw0]; exact ((Chg.refl _ _).alloc _).alloc _
  have b1 : w0.heap[W.heap.size]? = some (.cells #[.int .i64 e1, .bool f1, .int .u64 (x1 : Int), .bool d1, .int .u64 (h1 : Int), .slice p1 l1.length c1, .int .u64 (n1 : Int)] 26 (0, 0)) := by rw [hw0]; exact alloc_of (heap_alloc_new _ _) _
  have b2 : w0.heap[W.heap.size + 1]? = some (.cells #[.int .i64 e2, .bool f2, .int .u64 (x2 : Int), .bool d2, .int .u64 (h2 : Int), .slice p2 l2.length c2, .int .u64 (n2 : Int)] 26 (0, 0)) := by
    have e := heap_alloc_new (W.alloc (.cells #[.int .i64 e1, .bool f1, .int .u64 (x1 : Int), .bool d1, .int .u64 (h1 : Int), .slice p1 l1.length c1, .int .u64 (n1 : Int)] 26)) (.cells #[.int .i64 e2, .bool f2, .int .u64 (x2 : Int), .bool d2, .int .u64 (h2 : Int), .slice p2 l2.length c2, .int .u64 (n2 : Int)] 26)
    rw [World.size_alloc] at e
    rw [hw0]
    exact e
  have HC0 := keepH C0
  have HB1 := keepH b1
  have HB2 := keepH b2
  have HA := keepH hA
  have HB := keepH hB
  clear C0 b1 b2 hA hB
  go_enter Try.func3, Try.ntmps3
  go_upto_region 1 with fail
  rw [← hw0]
  clear hw0
  go_wp2_with fail
  refine (live_06 _).mono ?_
  rintro e w1 ⟨rfl, C1⟩
  have B1 : w1.heap[W.heap.size]? = some (.cells #[.int .i64 e1, .bool f1, .int .u64 (x1 : Int), .bool d1, .int .u64 (h1 : Int), .slice p1 l1.length c1, .int .u64 (n1 : Int)] 26 (0, 0)) := (C1.block _ (lt_of HB1.out) (fun x => x)).trans HB1.out
  have B2 : w1.heap[W.heap.size + 1]? = some (.cells #[.int .i64 e2, .bool f2, .int .u64 (x2 : Int), .bool d2, .int .u64 (h2 : Int), .slice p2 l2.length c2, .int .u64 (n2 : Int)] 26 (0, 0)) := (C1.block _ (lt_of HB2.out) (fun x => x)).trans HB2.out
  have HC1 : Hid (Chg (fun _ => False) W w1) := HC0.out.trans C1 (fun _ _ x => x) (fun _ _ x => x)
  have r0 : w1.cell? ⟨W.heap.size, 0, none⟩ = some (.int .i64 e1) := cell_of B1 0
  have r1 : w1.cell? ⟨W.heap.size, 1, none⟩ = some (.bool f1) := cell_of B1 1
  have r2 : w1.cell? ⟨W.heap.size, 2, none⟩ = some (.int .u64 (x1 : Int)) := cell_of B1 2
  have r3 : w1.cell? ⟨W.heap.size, 3, none⟩ = some (.bool d1) := cell_of B1 3
  have r4 : w1.cell? ⟨W.heap.size, 4, none⟩ = some (.int .u64 (h1 : Int)) := cell_of B1 4
  have r5 : w1.cell? ⟨W.heap.size, 5, none⟩ = some (.slice p1 l1.length c1) := cell_of B1 5
  have r6 : w1.cell? ⟨W.heap.size, 6, none⟩ = some (.int .u64 (n1 : Int)) := cell_of B1 6
  obtain ⟨w2, hw2⟩ : ∃ w2, w2 = w1.alloc (.cells #[.int .i64 e1, .bool f1, .int .u64 (x1 : Int), .bool d1, .int .u64 (h1 : Int), .slice p1 l1.length c1, .int .u64 (n1 : Int)] 26) := ⟨_, rfl⟩
  have G2 : w2.heap[w1.heap.size]? = some (.cells #[.int .i64 e1, .bool f1, .int .u64 (x1 : Int), .bool d1, .int .u64 (h1 : Int), .slice p1 l1.length c1, .int .u64 (n1 : Int)] 26 (0, 0)) := by rw [hw2]; exact heap_alloc_new _ _
  obtain ⟨w3, hw3⟩ : ∃ w3, w3 = w2.alloc (.cells #[] 42) := ⟨_, rfl⟩
  have E3 : w3.heap[w2.heap.size]? = some (.cells #[] 42 (0, 0)) := by rw [hw3]; exact heap_alloc_new _ _
  have G3 : w3.heap[w1.heap.size]? = some (.cells #[.int .i64 e1, .bool f1, .int .u64 (x1 : Int), .bool d1, .int .u64 (h1 : Int), .slice p1 l1.length c1, .int .u64 (n1 : Int)] 26 (0, 0)) := by rw [hw3]; exact alloc_of G2 _
  have C3 : Chg (fun _ => False) w1 w3 := by rw [hw3, hw2]; exact ((Chg.refl _ _).alloc _).alloc _
  have z2 : w2.heap.size = w1.heap.size + 1 := by rw [hw2]; simp
  have PA3 : PairsAt w3 p1 l1 := (HA.out.chg HC1.out).chg C3
  have l1' := lt_of B1
  have l2' := lt_of B2
  obtain ⟨v', w4, hap, ⟨pc, cc, hv', PC4, LC4⟩, C4⟩ := copy_pairs (c := c1) PA3 E3 hla 24 (fun e => by rcases HA.out with h | ⟨_, _, h, _⟩; exact h; rw [e] at h; cases h)
  subst hv'
  have G4 : w4.heap[w1.heap.size]? = some (.cells #[.int .i64 e1, .bool f1, .int .u64 (x1 : Int), .bool d1, .int .u64 (h1 : Int), .slice p1 l1.length c1, .int .u64 (n1 : Int)] 26 (0, 0)) := (C4.block _ (lt_of G3) (by omega)).trans G3
  have B14 : w4.heap[W.heap.size]? = some (.cells #[.int .i64 e1, .bool f1, .int .u64 (x1 : Int), .bool d1, .int .u64 (h1 : Int), .slice p1 l1.length c1, .int .u64 (n1 : Int)] 26 (0, 0)) := (C4.block _ (by have := C3.size; omega) (by omega)).trans ((C3.block _ l1' (fun x => x)).trans B1)
  have B24 : w4.heap[W.heap.size + 1]? = some (.cells #[.int .i64 e2, .bool f2, .int .u64 (x2 : Int), .bool d2, .int .u64 (h2 : Int), .slice p2 l2.length c2, .int .u64 (n2 : Int)] 26 (0, 0)) := (C4.block _ (by have := C3.size; omega) (by omega)).trans ((C3.block _ l2' (fun x => x)).trans B2)
  have HC4 : Hid (Chg (fun _ => False) W w4) := (HC1.out.trans C3 (H := fun _ => False) (fun _ _ x => x) (fun _ _ x => x)).trans C4 (fun _ _ x => x) (fun i hi e => by have := HC1.out.size; omega)
  have g5 : w4.cell? ⟨w1.heap.size, 5, none⟩ = some (.slice p1 l1.length c1) := cell_of G4 5
  have k5 := free_of G4 5
  obtain ⟨gc, hgc⟩ : ∃ gc, gc = w1.heap.size := ⟨_, rfl⟩
  obtain ⟨w5, hw5⟩ : ∃ w5, w5 = w4.setCell ⟨w1.heap.size, 5, none⟩ (.slice pc l1.length cc) := ⟨_, rfl⟩
  have G5 : w5.heap[gc]? = some (.cells #[.int .i64 e1, .bool f1, .int .u64 (x1 : Int), .bool d1, .int .u64 (h1 : Int), .slice pc l1.length cc, .int .u64 (n1 : Int)] 26 (0, 0)) := by rw [hw5, hgc]; exact set_of G4 5 _
  have B15 : w5.heap[W.heap.size]? = some (.cells #[.int .i64 e1, .bool f1, .int .u64 (x1 : Int), .bool d1, .int .u64 (h1 : Int), .slice p1 l1.length c1, .int .u64 (n1 : Int)] 26 (0, 0)) := by rw [hw5]; exact (Below.heap_setCell _ _ _ _ (by show W.heap.size ≠ w1.heap.size; omega)).trans B14
  have B25 : w5.heap[W.heap.size + 1]? = some (.cells #[.int .i64 e2, .bool f2, .int .u64 (x2 : Int), .bool d2, .int .u64 (h2 : Int), .slice p2 l2.length c2, .int .u64 (n2 : Int)] 26 (0, 0)) := by rw [hw5]; exact (Below.heap_setCell _ _ _ _ (by show W.heap.size + 1 ≠ w1.heap.size; omega)).trans B24
  have C45 : Chg (fun k => k = gc) w4 w5 := by rw [hw5, hgc]; exact setP _
  have HC5 : Hid (Chg (fun _ => False) W w5) := HC4.out.trans C45 (fun _ _ x => x) (fun i hi e => by have := HC1.out.size; omega)
  have PA := HA.out.chg HC5.out
  have PB := HB.out.chg HC5.out
  have PC : PairsAt w5 pc l1 := by
    rcases PC4 with h | ⟨bk, off, rfl, hb, h⟩
    · exact .inl h
    · by_cases hl : l1 = []
      · exact .inl hl
      · have hne : bk ≠ gc := by
          have q := LC4 bk off rfl
          omega
        refine .inr ⟨bk, off, rfl, Nat.lt_of_lt_of_le hb C45.size, fun i k x hi => ?_⟩
        obtain ⟨y1, y2, y3, y4⟩ := h i k x hi
        exact ⟨y1, y2, cell_chg C45 y3 hne, cell_chg C45 y4 hne⟩
  have t5 : w3.cell? ⟨W.heap.size, 5, none⟩ = some (.slice p1 l1.length c1) := cell_of ((C3.block _ l1' (fun x => x)).trans B1) 5
  rw [hw3] at hap t5
  have HW5 := keepH hw5
  have HPA : Hid (PairsAt w5.drew p1 l1) := PA
  have HPB : Hid (PairsAt w5.drew p2 l2) := PB
  have HPC : Hid (PairsAt w5.drew pc l1) := PC
  have HG5 : Hid (w5.drew.heap[gc]? = some (.cells #[.int .i64 e1, .bool f1, .int .u64 (x1 : Int), .bool d1, .int .u64 (h1 : Int), .slice pc l1.length cc, .int .u64 (n1 : Int)] 26 (0, 0))) := G5
  have HB15 : Hid (w5.drew.heap[W.heap.size]? = some (.cells #[.int .i64 e1, .bool f1, .int .u64 (x1 : Int), .bool d1, .int .u64 (h1 : Int), .slice p1 l1.length c1, .int .u64 (n1 : Int)] 26 (0, 0))) := B15
  have HB25 : Hid (w5.drew.heap[W.heap.size + 1]? = some (.cells #[.int .i64 e2, .bool f2, .int .u64 (x2 : Int), .bool d2, .int .u64 (h2 : Int), .slice p2 l2.length c2, .int .u64 (n2 : Int)] 26 (0, 0))) := B25
  have HC5 : Hid (Chg (fun _ => False) W w5.drew) := HC5.out.drew
  have HGC := keepH hgc
  have HLA : Hid (l1.length ≤ 17592186044416 ∧ l2.length ≤ 17592186044416) := by show _ ∧ _; omega
  have HS0 : Hid (w5.cell? ⟨W.heap.size, 0, none⟩ = some (.int .i64 e1) ∧ w5.cell? ⟨W.heap.size, 1, none⟩ = some (.bool f1) ∧ w5.cell? ⟨W.heap.size, 2, none⟩ = some (.int .u64 (x1 : Int)) ∧ w5.cell? ⟨W.heap.size, 3, none⟩ = some (.bool d1) ∧ w5.cell? ⟨W.heap.size, 4, none⟩ = some (.int .u64 (h1 : Int)) ∧ w5.cell? ⟨W.heap.size, 5, none⟩ = some (.slice p1 l1.length c1) ∧ w5.cell? ⟨W.heap.size, 6, none⟩ = some (.int .u64 (n1 : Int)) ∧ w5.cell? ⟨W.heap.size + 1, 0, none⟩ = some (.int .i64 e2) ∧ w5.cell? ⟨W.heap.size + 1, 1, none⟩ = some (.bool f2) ∧ w5.cell? ⟨W.heap.size + 1, 2, none⟩ = some (.int .u64 (x2 : Int)) ∧ w5.cell? ⟨W.heap.size + 1, 3, none⟩ = some (.bool d2) ∧ w5.cell? ⟨W.heap.size + 1, 4, none⟩ = some (.int .u64 (h2 : Int)) ∧ w5.cell? ⟨W.heap.size + 1, 5, none⟩ = some (.slice p2 l2.length c2) ∧ w5.cell? ⟨W.heap.size + 1, 6, none⟩ = some (.int .u64 (n2 : Int)) ∧ w5.cell? ⟨gc, 0, none⟩ = some (.int .i64 e1) ∧ w5.cell? ⟨gc, 1, none⟩ = some (.bool f1) ∧ w5.cell? ⟨gc, 2, none⟩ = some (.int .u64 (x1 : Int)) ∧ w5.cell? ⟨gc, 3, none⟩ = some (.bool d1) ∧ w5.cell? ⟨gc, 4, none⟩ = some (.int .u64 (h1 : Int)) ∧ w5.cell? ⟨gc, 5, none⟩ = some (.slice pc l1.length cc) ∧ w5.cell? ⟨gc, 6, none⟩ = some (.int .u64 (n1 : Int))) := ⟨cell_of B15 0, cell_of B15 1, cell_of B15 2, cell_of B15 3, cell_of B15 4, cell_of B15 5, cell_of B15 6, cell_of B25 0, cell_of B25 1, cell_of B25 2, cell_of B25 3, cell_of B25 4, cell_of B25 5, cell_of B25 6, cell_of G5 0, cell_of G5 1, cell_of G5 2, cell_of G5 3, cell_of G5 4, cell_of G5 5, cell_of G5 6⟩
  have tAA : decide ((⟨e1, f1, x1, d1, h1, l1, n1⟩ : Ans) = (⟨e1, f1, x1, d1, h1, l1, n1⟩ : Ans)) = true := decide_eq_true rfl
  clear hw3 E3 G3 G2 C3 z2 PA3 l1' l2' PC4 LC4 C4 G4 B14 B24 HC4 C45 PA PB PC G5 B15 B25 hgc hw5 B1 B2 C1 HC1
  go_upto_region 4 with fail
  rw [show w1.alloc (.cells #[.int .i64 e1, .bool f1, .int .u64 (x1 : Int), .bool d1, .int .u64 (h1 : Int), .slice p1 l1.length c1, .int .u64 (n1 : Int)] 26) = w2 from hw2.symm]
  clear hw2
  have HAP := keepH hap
  clear hap
  go_upto_region 5 with (first | (at_builtin; refine wpList_append_run rfl _ _ 24 rfl _ _ _ _ rfl rfl HAP.out ?_))
  rw [show w4.setCell ⟨w1.heap.size, 5, none⟩ (.slice pc l1.length cc) = w5 from HW5.out.symm]
  rw [← HGC.out]
  clear HW5 HGC HAP t5 g5 k5 r0 r1 r2 r3 r4 r5 r6
  by_cases z : (⟨e1, f1, x1, d1, h1, l1, n1⟩ : Ans) = (⟨e2, f2, x2, d2, h2, l2, n2⟩ : Ans)
  · have tAB : decide ((⟨e1, f1, x1, d1, h1, l1, n1⟩ : Ans) = (⟨e2, f2, x2, d2, h2, l2, n2⟩ : Ans)) = true := decide_eq_true z
    have tBA : decide ((⟨e2, f2, x2, d2, h2, l2, n2⟩ : Ans) = (⟨e1, f1, x1, d1, h1, l1, n1⟩ : Ans)) = true := decide_eq_true z.symm
    clear z
    go_region_held3 (fun w' => w'.cell? ⟨W.heap.size, 0, none⟩ = some (.int .i64 e1) ∧ w'.cell? ⟨W.heap.size, 1, none⟩ = some (.bool f1) ∧ w'.cell? ⟨W.heap.size, 2, none⟩ = some (.int .u64 (x1 : Int)) ∧ w'.cell? ⟨W.heap.size, 3, none⟩ = some (.bool d1) ∧ w'.cell? ⟨W.heap.size, 4, none⟩ = some (.int .u64 (h1 : Int)) ∧ w'.cell? ⟨W.heap.size, 5, none⟩ = some (.slice p1 l1.length c1) ∧ w'.cell? ⟨W.heap.size, 6, none⟩ = some (.int .u64 (n1 : Int)) ∧ w'.cell? ⟨W.heap.size + 1, 0, none⟩ = some (.int .i64 e2) ∧ w'.cell? ⟨W.heap.size + 1, 1, none⟩ = some (.bool f2) ∧ w'.cell? ⟨W.heap.size + 1, 2, none⟩ = some (.int .u64 (x2 : Int)) ∧ w'.cell? ⟨W.heap.size + 1, 3, none⟩ = some (.bool d2) ∧ w'.cell? ⟨W.heap.size + 1, 4, none⟩ = some (.int .u64 (h2 : Int)) ∧ w'.cell? ⟨W.heap.size + 1, 5, none⟩ = some (.slice p2 l2.length c2) ∧ w'.cell? ⟨W.heap.size + 1, 6, none⟩ = some (.int .u64 (n2 : Int)) ∧ w'.cell? ⟨gc, 0, none⟩ = some (.int .i64 e1) ∧ w'.cell? ⟨gc, 1, none⟩ = some (.bool f1) ∧ w'.cell? ⟨gc, 2, none⟩ = some (.int .u64 (x1 : Int)) ∧ w'.cell? ⟨gc, 3, none⟩ = some (.bool d1) ∧ w'.cell? ⟨gc, 4, none⟩ = some (.int .u64 (h1 : Int)) ∧ w'.cell? ⟨gc, 5, none⟩ = some (.slice pc l1.length cc) ∧ w'.cell? ⟨gc, 6, none⟩ = some (.int .u64 (n1 : Int))) (exact HS0.out) (first | (go_at_call 5; refine (m_same _ _ _ _ _ _ _ _ _ _ _ _ _ _ _ _ _ _ _ (by first | exact HPA.out | exact HPB.out | exact HPC.out) (by first | exact HPA.out | exact HPB.out | exact HPC.out) (by first | exact HLA.out.1 | exact HLA.out.2) (by first | exact HLA.out.1 | exact HLA.out.2)).mono ?_; rintro e wn ⟨rfl, CN⟩; (try rw [tAB]); (try rw [tBA]); (try rw [tAA]); have HPA := keepH (HPA.out.chg CN); have HPB := keepH (HPB.out.chg CN); have HPC := keepH (HPC.out.chg CN); have HB15 := keepH ((CN.block _ (lt_of HB15.out) (fun x => x)).trans HB15.out); have HB25 := keepH ((CN.block _ (lt_of HB25.out) (fun x => x)).trans HB25.out); have HG5 := keepH ((CN.block _ (lt_of HG5.out) (fun x => x)).trans HG5.out); have HC5 : Hid (Chg (fun _ => False) W wn) := HC5.out.trans CN (fun _ _ x => x) (fun _ _ x => x); have HS0 : Hid (wn.cell? ⟨W.heap.size, 0, none⟩ = some (.int .i64 e1) ∧ wn.cell? ⟨W.heap.size, 1, none⟩ = some (.bool f1) ∧ wn.cell? ⟨W.heap.size, 2, none⟩ = some (.int .u64 (x1 : Int)) ∧ wn.cell? ⟨W.heap.size, 3, none⟩ = some (.bool d1) ∧ wn.cell? ⟨W.heap.size, 4, none⟩ = some (.int .u64 (h1 : Int)) ∧ wn.cell? ⟨W.heap.size, 5, none⟩ = some (.slice p1 l1.length c1) ∧ wn.cell? ⟨W.heap.size, 6, none⟩ = some (.int .u64 (n1 : Int)) ∧ wn.cell? ⟨W.heap.size + 1, 0, none⟩ = some (.int .i64 e2) ∧ wn.cell? ⟨W.heap.size + 1, 1, none⟩ = some (.bool f2) ∧ wn.cell? ⟨W.heap.size + 1, 2, none⟩ = some (.int .u64 (x2 : Int)) ∧ wn.cell? ⟨W.heap.size + 1, 3, none⟩ = some (.bool d2) ∧ wn.cell? ⟨W.heap.size + 1, 4, none⟩ = some (.int .u64 (h2 : Int)) ∧ wn.cell? ⟨W.heap.size + 1, 5, none⟩ = some (.slice p2 l2.length c2) ∧ wn.cell? ⟨W.heap.size + 1, 6, none⟩ = some (.int .u64 (n2 : Int)) ∧ wn.cell? ⟨gc, 0, none⟩ = some (.int .i64 e1) ∧ wn.cell? ⟨gc, 1, none⟩ = some (.bool f1) ∧ wn.cell? ⟨gc, 2, none⟩ = some (.int .u64 (x1 : Int)) ∧ wn.cell? ⟨gc, 3, none⟩ = some (.bool d1) ∧ wn.cell? ⟨gc, 4, none⟩ = some (.int .u64 (h1 : Int)) ∧ wn.cell? ⟨gc, 5, none⟩ = some (.slice pc l1.length cc) ∧ wn.cell? ⟨gc, 6, none⟩ = some (.int .u64 (n1 : Int))) := ⟨cell_of HB15.out 0, cell_of HB15.out 1, cell_of HB15.out 2, cell_of HB15.out 3, cell_of HB15.out 4, cell_of HB15.out 5, cell_of HB15.out 6, cell_of HB25.out 0, cell_of HB25.out 1, cell_of HB25.out 2, cell_of HB25.out 3, cell_of HB25.out 4, cell_of HB25.out 5, cell_of HB25.out 6, cell_of HG5.out 0, cell_of HG5.out 1, cell_of HG5.out 2, cell_of HG5.out 3, cell_of HG5.out 4, cell_of HG5.out 5, cell_of HG5.out 6⟩; clear CN) | (go_at_call 6; refine (r_same _ _ _ _ _ _ _ _ _ _ _ _ _ _ _ _ _ _ _ (by first | exact HPA.out | exact HPB.out | exact HPC.out) (by first | exact HPA.out | exact HPB.out | exact HPC.out) (by first | exact HLA.out.1 | exact HLA.out.2) (by first | exact HLA.out.1 | exact HLA.out.2)).mono ?_; rintro e wn ⟨rfl, CN⟩; (try rw [tAB]); (try rw [tBA]); (try rw [tAA]); have HPA := keepH (HPA.out.chg CN); have HPB := keepH (HPB.out.chg CN); have HPC := keepH (HPC.out.chg CN); have HB15 := keepH ((CN.block _ (lt_of HB15.out) (fun x => x)).trans HB15.out); have HB25 := keepH ((CN.block _ (lt_of HB25.out) (fun x => x)).trans HB25.out); have HG5 := keepH ((CN.block _ (lt_of HG5.out) (fun x => x)).trans HG5.out); have HC5 : Hid (Chg (fun _ => False) W wn) := HC5.out.trans CN (fun _ _ x => x) (fun _ _ x => x); have HS0 : Hid (wn.cell? ⟨W.heap.size, 0, none⟩ = some (.int .i64 e1) ∧ wn.cell? ⟨W.heap.size, 1, none⟩ = some (.bool f1) ∧ wn.cell? ⟨W.heap.size, 2, none⟩ = some (.int .u64 (x1 : Int)) ∧ wn.cell? ⟨W.heap.size, 3, none⟩ = some (.bool d1) ∧ wn.cell? ⟨W.heap.size, 4, none⟩ = some (.int .u64 (h1 : Int)) ∧ wn.cell? ⟨W.heap.size, 5, none⟩ = some (.slice p1 l1.length c1) ∧ wn.cell? ⟨W.heap.size, 6, none⟩ = some (.int .u64 (n1 : Int)) ∧ wn.cell? ⟨W.heap.size + 1, 0, none⟩ = some (.int .i64 e2) ∧ wn.cell? ⟨W.heap.size + 1, 1, none⟩ = some (.bool f2) ∧ wn.cell? ⟨W.heap.size + 1, 2, none⟩ = some (.int .u64 (x2 : Int)) ∧ wn.cell? ⟨W.heap.size + 1, 3, none⟩ = some (.bool d2) ∧ wn.cell? ⟨W.heap.size + 1, 4, none⟩ = some (.int .u64 (h2 : Int)) ∧ wn.cell? ⟨W.heap.size + 1, 5, none⟩ = some (.slice p2 l2.length c2) ∧ wn.cell? ⟨W.heap.size + 1, 6, none⟩ = some (.int .u64 (n2 : Int)) ∧ wn.cell? ⟨gc, 0, none⟩ = some (.int .i64 e1) ∧ wn.cell? ⟨gc, 1, none⟩ = some (.bool f1) ∧ wn.cell? ⟨gc, 2, none⟩ = some (.int .u64 (x1 : Int)) ∧ wn.cell? ⟨gc, 3, none⟩ = some (.bool d1) ∧ wn.cell? ⟨gc, 4, none⟩ = some (.int .u64 (h1 : Int)) ∧ wn.cell? ⟨gc, 5, none⟩ = some (.slice pc l1.length cc) ∧ wn.cell? ⟨gc, 6, none⟩ = some (.int .u64 (n1 : Int))) := ⟨cell_of HB15.out 0, cell_of HB15.out 1, cell_of HB15.out 2, cell_of HB15.out 3, cell_of HB15.out 4, cell_of HB15.out 5, cell_of HB15.out 6, cell_of HB25.out 0, cell_of HB25.out 1, cell_of HB25.out 2, cell_of HB25.out 3, cell_of HB25.out 4, cell_of HB25.out 5, cell_of HB25.out 6, cell_of HG5.out 0, cell_of HG5.out 1, cell_of HG5.out 2, cell_of HG5.out 3, cell_of HG5.out 4, cell_of HG5.out 5, cell_of HG5.out 6⟩; clear CN))
    all_goals (
      (try go_wp2_with fail)
      go_ret
      exact ⟨by simp, HC5.out⟩)
  · have tAB : decide ((⟨e1, f1, x1, d1, h1, l1, n1⟩ : Ans) = (⟨e2, f2, x2, d2, h2, l2, n2⟩ : Ans)) = false := decide_eq_false z
    have tBA : decide ((⟨e2, f2, x2, d2, h2, l2, n2⟩ : Ans) = (⟨e1, f1, x1, d1, h1, l1, n1⟩ : Ans)) = false := decide_eq_false (fun q => z q.symm)
    clear z
    go_region_held3 (fun w' => w'.cell? ⟨W.heap.size, 0, none⟩ = some (.int .i64 e1) ∧ w'.cell? ⟨W.heap.size, 1, none⟩ = some (.bool f1) ∧ w'.cell? ⟨W.heap.size, 2, none⟩ = some (.int .u64 (x1 : Int)) ∧ w'.cell? ⟨W.heap.size, 3, none⟩ = some (.bool d1) ∧ w'.cell? ⟨W.heap.size, 4, none⟩ = some (.int .u64 (h1 : Int)) ∧ w'.cell? ⟨W.heap.size, 5, none⟩ = some (.slice p1 l1.length c1) ∧ w'.cell? ⟨W.heap.size, 6, none⟩ = some (.int .u64 (n1 : Int)) ∧ w'.cell? ⟨W.heap.size + 1, 0, none⟩ = some (.int .i64 e2) ∧ w'.cell? ⟨W.heap.size + 1, 1, none⟩ = some (.bool f2) ∧ w'.cell? ⟨W.heap.size + 1, 2, none⟩ = some (.int .u64 (x2 : Int)) ∧ w'.cell? ⟨W.heap.size + 1, 3, none⟩ = some (.bool d2) ∧ w'.cell? ⟨W.heap.size + 1, 4, none⟩ = some (.int .u64 (h2 : Int)) ∧ w'.cell? ⟨W.heap.size + 1, 5, none⟩ = some (.slice p2 l2.length c2) ∧ w'.cell? ⟨W.heap.size + 1, 6, none⟩ = some (.int .u64 (n2 : Int)) ∧ w'.cell? ⟨gc, 0, none⟩ = some (.int .i64 e1) ∧ w'.cell? ⟨gc, 1, none⟩ = some (.bool f1) ∧ w'.cell? ⟨gc, 2, none⟩ = some (.int .u64 (x1 : Int)) ∧ w'.cell? ⟨gc, 3, none⟩ = some (.bool d1) ∧ w'.cell? ⟨gc, 4, none⟩ = some (.int .u64 (h1 : Int)) ∧ w'.cell? ⟨gc, 5, none⟩ = some (.slice pc l1.length cc) ∧ w'.cell? ⟨gc, 6, none⟩ = some (.int .u64 (n1 : Int))) (exact HS0.out) (first | (go_at_call 5; refine (m_same _ _ _ _ _ _ _ _ _ _ _ _ _ _ _ _ _ _ _ (by first | exact HPA.out | exact HPB.out | exact HPC.out) (by first | exact HPA.out | exact HPB.out | exact HPC.out) (by first | exact HLA.out.1 | exact HLA.out.2) (by first | exact HLA.out.1 | exact HLA.out.2)).mono ?_; rintro e wn ⟨rfl, CN⟩; (try rw [tAB]); (try rw [tBA]); (try rw [tAA]); have HPA := keepH (HPA.out.chg CN); have HPB := keepH (HPB.out.chg CN); have HPC := keepH (HPC.out.chg CN); have HB15 := keepH ((CN.block _ (lt_of HB15.out) (fun x => x)).trans HB15.out); have HB25 := keepH ((CN.block _ (lt_of HB25.out) (fun x => x)).trans HB25.out); have HG5 := keepH ((CN.block _ (lt_of HG5.out) (fun x => x)).trans HG5.out); have HC5 : Hid (Chg (fun _ => False) W wn) := HC5.out.trans CN (fun _ _ x => x) (fun _ _ x => x); have HS0 : Hid (wn.cell? ⟨W.heap.size, 0, none⟩ = some (.int .i64 e1) ∧ wn.cell? ⟨W.heap.size, 1, none⟩ = some (.bool f1) ∧ wn.cell? ⟨W.heap.size, 2, none⟩ = some (.int .u64 (x1 : Int)) ∧ wn.cell? ⟨W.heap.size, 3, none⟩ = some (.bool d1) ∧ wn.cell? ⟨W.heap.size, 4, none⟩ = some (.int .u64 (h1 : Int)) ∧ wn.cell? ⟨W.heap.size, 5, none⟩ = some (.slice p1 l1.length c1) ∧ wn.cell? ⟨W.heap.size, 6, none⟩ = some (.int .u64 (n1 : Int)) ∧ wn.cell? ⟨W.heap.size + 1, 0, none⟩ = some (.int .i64 e2) ∧ wn.cell? ⟨W.heap.size + 1, 1, none⟩ = some (.bool f2) ∧ wn.cell? ⟨W.heap.size + 1, 2, none⟩ = some (.int .u64 (x2 : Int)) ∧ wn.cell? ⟨W.heap.size + 1, 3, none⟩ = some (.bool d2) ∧ wn.cell? ⟨W.heap.size + 1, 4, none⟩ = some (.int .u64 (h2 : Int)) ∧ wn.cell? ⟨W.heap.size + 1, 5, none⟩ = some (.slice p2 l2.length c2) ∧ wn.cell? ⟨W.heap.size + 1, 6, none⟩ = some (.int .u64 (n2 : Int)) ∧ wn.cell? ⟨gc, 0, none⟩ = some (.int .i64 e1) ∧ wn.cell? ⟨gc, 1, none⟩ = some (.bool f1) ∧ wn.cell? ⟨gc, 2, none⟩ = some (.int .u64 (x1 : Int)) ∧ wn.cell? ⟨gc, 3, none⟩ = some (.bool d1) ∧ wn.cell? ⟨gc, 4, none⟩ = some (.int .u64 (h1 : Int)) ∧ wn.cell? ⟨gc, 5, none⟩ = some (.slice pc l1.length cc) ∧ wn.cell? ⟨gc, 6, none⟩ = some (.int .u64 (n1 : Int))) := ⟨cell_of HB15.out 0, cell_of HB15.out 1, cell_of HB15.out 2, cell_of HB15.out 3, cell_of HB15.out 4, cell_of HB15.out 5, cell_of HB15.out 6, cell_of HB25.out 0, cell_of HB25.out 1, cell_of HB25.out 2, cell_of HB25.out 3, cell_of HB25.out 4, cell_of HB25.out 5, cell_of HB25.out 6, cell_of HG5.out 0, cell_of HG5.out 1, cell_of HG5.out 2, cell_of HG5.out 3, cell_of HG5.out 4, cell_of HG5.out 5, cell_of HG5.out 6⟩; clear CN) | (go_at_call 6; refine (r_same _ _ _ _ _ _ _ _ _ _ _ _ _ _ _ _ _ _ _ (by first | exact HPA.out | exact HPB.out | exact HPC.out) (by first | exact HPA.out | exact HPB.out | exact HPC.out) (by first | exact HLA.out.1 | exact HLA.out.2) (by first | exact HLA.out.1 | exact HLA.out.2)).mono ?_; rintro e wn ⟨rfl, CN⟩; (try rw [tAB]); (try rw [tBA]); (try rw [tAA]); have HPA := keepH (HPA.out.chg CN); have HPB := keepH (HPB.out.chg CN); have HPC := keepH (HPC.out.chg CN); have HB15 := keepH ((CN.block _ (lt_of HB15.out) (fun x => x)).trans HB15.out); have HB25 := keepH ((CN.block _ (lt_of HB25.out) (fun x => x)).trans HB25.out); have HG5 := keepH ((CN.block _ (lt_of HG5.out) (fun x => x)).trans HG5.out); have HC5 : Hid (Chg (fun _ => False) W wn) := HC5.out.trans CN (fun _ _ x => x) (fun _ _ x => x); have HS0 : Hid (wn.cell? ⟨W.heap.size, 0, none⟩ = some (.int .i64 e1) ∧ wn.cell? ⟨W.heap.size, 1, none⟩ = some (.bool f1) ∧ wn.cell? ⟨W.heap.size, 2, none⟩ = some (.int .u64 (x1 : Int)) ∧ wn.cell? ⟨W.heap.size, 3, none⟩ = some (.bool d1) ∧ wn.cell? ⟨W.heap.size, 4, none⟩ = some (.int .u64 (h1 : Int)) ∧ wn.cell? ⟨W.heap.size, 5, none⟩ = some (.slice p1 l1.length c1) ∧ wn.cell? ⟨W.heap.size, 6, none⟩ = some (.int .u64 (n1 : Int)) ∧ wn.cell? ⟨W.heap.size + 1, 0, none⟩ = some (.int .i64 e2) ∧ wn.cell? ⟨W.heap.size + 1, 1, none⟩ = some (.bool f2) ∧ wn.cell? ⟨W.heap.size + 1, 2, none⟩ = some (.int .u64 (x2 : Int)) ∧ wn.cell? ⟨W.heap.size + 1, 3, none⟩ = some (.bool d2) ∧ wn.cell? ⟨W.heap.size + 1, 4, none⟩ = some (.int .u64 (h2 : Int)) ∧ wn.cell? ⟨W.heap.size + 1, 5, none⟩ = some (.slice p2 l2.length c2) ∧ wn.cell? ⟨W.heap.size + 1, 6, none⟩ = some (.int .u64 (n2 : Int)) ∧ wn.cell? ⟨gc, 0, none⟩ = some (.int .i64 e1) ∧ wn.cell? ⟨gc, 1, none⟩ = some (.bool f1) ∧ wn.cell? ⟨gc, 2, none⟩ = some (.int .u64 (x1 : Int)) ∧ wn.cell? ⟨gc, 3, none⟩ = some (.bool d1) ∧ wn.cell? ⟨gc, 4, none⟩ = some (.int .u64 (h1 : Int)) ∧ wn.cell? ⟨gc, 5, none⟩ = some (.slice pc l1.length cc) ∧ wn.cell? ⟨gc, 6, none⟩ = some (.int .u64 (n1 : Int))) := ⟨cell_of HB15.out 0, cell_of HB15.out 1, cell_of HB15.out 2, cell_of HB15.out 3, cell_of HB15.out 4, cell_of HB15.out 5, cell_of HB15.out 6, cell_of HB25.out 0, cell_of HB25.out 1, cell_of HB25.out 2, cell_of HB25.out 3, cell_of HB25.out 4, cell_of HB25.out 5, cell_of HB25.out 6, cell_of HG5.out 0, cell_of HG5.out 1, cell_of HG5.out 2, cell_of HG5.out 3, cell_of HG5.out 4, cell_of HG5.out 5, cell_of HG5.out 6⟩; clear CN))
    all_goals (
      (try go_wp2_with fail)
      go_ret
      exact ⟨by simp, HC5.out⟩)
end Go.Proofs.Yteehbleikhfniaa
