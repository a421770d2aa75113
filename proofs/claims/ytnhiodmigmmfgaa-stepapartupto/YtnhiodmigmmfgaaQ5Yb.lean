/- A plan's proc: one step of it. -/
import Derived.Test.YtnhiodmigmmfgaaQ4Ya
import Derived.Deep.Cut
import Derived.Deep.CutBlock
import Derived.Deep.DeepCutAuto
import Derived.BigRegion
namespace Go.Proofs.Ytnhiodmigmmfgaa
open Go.RowKit Go.Shelf
set_option linter.unusedVariables false

theorem drewN_chgY (W : World) (q : Nat) : Chg (fun _ => False) W (W.drewN q) := ⟨rfl, rfl, rfl, Nat.le_refl _, fun _ _ _ => rfl⟩
theorem infoU64y : (Try.prog.info? 30).map (fun i => (i.zero, i.size, i.bytes)) = some (some (.int .u64 0), 1, 8) := by kernel_rfl
theorem appR {W : World} {v : Value} {xs l : List Nat} {p : Option Addr} {c : Nat} (hv : W.ownsRow 0 30 1 v xs.length (xs.map u64V)) (h : Reads W p l) (h63 : xs.length + l.length ≤ 2199023255552) (ty : TypeId) :
    ∃ v' W', (Builtin.append_ #[31, 31] ty #[v, .slice p l.length c]).run Try.prog W = .ok v' W' ∧ W'.ownsRow 0 30 1 v' (xs ++ l).length ((xs ++ l).map u64V) ∧ W.grownBy W' v.ownBlock ∧ (v'.ownBlock = v.ownBlock ∨ v'.ownBlock = some W.heap.size) := by
  obtain ⟨i0, hi, hz0, hz1, hz2⟩ := info_parts infoU64y
  rcases h with rfl | ⟨ad, rfl, hc⟩
  · refine ⟨v, W, ?_, by simpa using hv, ⟨rfl, rfl, rfl, Nat.le_refl _, fun _ _ _ => rfl⟩, .inl rfl⟩
    rcases hv.2 with ⟨rfl, h0⟩ | ⟨g, cap, cur, rfl, _, _, hnc, _⟩
    · exact run_append_empty (P := Try.prog) W 31 ty 30 i0 Try.underlying31 hi p c
    · cases p <;> simp [Builtin.append_, run_underlying Try.underlying31, sizeOf, typeInfo, hi, Builtin.lenOf, Builtin.firstCells, loadCells, loadCellsFrom, storeCells, hnc]
  · obtain ⟨v', w', hr, h2, h3, h4, h5⟩ := run_append_own_at (P := Try.prog) W 0 31 ty 30 i0 (.int .u64 0) 1 8 Try.underlying31 hi hz0 hz1 hz2 rfl (by decide) v xs.length (xs.map u64V) hv ad l.length c (l.map u64V) (by simp) hc (by intro u hu; obtain ⟨x, _, rfl⟩ := List.mem_map.1 hu; rfl) (by unfold maxLen; omega) (by omega) (Nat.zero_le _)
    exact ⟨v', w', hr, by simpa using h2, h3, h5⟩
theorem step_append_run {P : Program} {ops : Array Oper} {o : Oper} {a : Act} {w : World} {K : Act → World → Prop} {Q : Exit → Act → World → Prop} {E : Prop}
    (hgd : o.guard = none) (s x : Operand) (t : TypeId) (ho : o.op = Op.call { callee := Callee.builtin Builtin.append, args := #[s, x], argTypes := #[t, t] }) (v y v' : Value) (w' : World) (hs : a.eval s = v) (hx : a.eval x = y)
    (hr : (Builtin.append_ #[t, t] o.type #[v, y]).run P w = .ok v' w') (h : K (a.put o.dst v') w') :
    if Region.wanted o (yielded ops a.tmps) = true then Oper.wp P o a w K Q else E := by
  have hw : Region.wanted o (yielded ops a.tmps) = true := by simp [Region.wanted, hgd]
  rw [if_pos hw]
  unfold Oper.wp execOp
  simp only [ho, resolve, invoke, builtin, Sem.run_bind, Sem.run_pure, Result.andThen_ok, List.map_toArray, List.map_cons, List.map_nil, hs, hx, hr]
  exact h
theorem row_emptyY {W : World} {g : Nat} (hg : W.heap[g]? = some (.cells #[] 30 (0, 0))) : W.ownsRow 0 30 1 (.slice (some ⟨g, 0, none⟩) 0 0) ([] : List Nat).length (([] : List Nat).map u64V) :=
  ⟨rfl, .inr ⟨g, 0, #[], rfl, Nat.zero_le _, hg, Nat.le_refl _, by unfold maxLen; omega, rfl, rfl⟩⟩
/-- What is told is laid behind what was told. -/
structure GotR (X Y4 w5 : World) (F D F' : Nat → Prop) (b v most next : Nat) (th : Int) (made : Nat) (cs : List Nat) (t : List Acc) (pb : Nat) (sl : Value) (at_ : Int) (v' : Value) (n : Nat) (got : List Nat) : Prop where
  cell : ∃ gv, w5.cell? ⟨pb, 2, none⟩ = some gv
  free : w5.frozen? ⟨pb, 2, none⟩ = false
  sls : ∃ g c, v' = .slice (some ⟨g, 0, none⟩) n c
  own : AS X (w5.setCell ⟨pb, 2, none⟩ v') F D F' (fun k => k = pb ∨ v'.ownBlock = some k) b v most next th made cs t
  blk : (w5.setCell ⟨pb, 2, none⟩ v').heap[pb]? = some (.cells #[sl, .int .i64 at_, v'] 49 (0, 0))
  row : (w5.setCell ⟨pb, 2, none⟩ v').ownsRow 0 30 1 v' got.length (got.map u64V)
theorem got_end {X Y4 w5 : World} {F D F' : Nat → Prop} {b v most next : Nat} {th : Int} {made : Nat} {cs : List Nat} {t : List Acc} {pb : Nat} {sl gv v' : Value} {at_ : Int} {got : List Nat} {r : Nat} {o : Obj}
    (A : AS X Y4 F D F' D b v most next th made cs t) (hpb : Y4.heap[pb]? = some (.cells #[sl, .int .i64 at_, gv] 49 (0, 0))) (hrow : Y4.ownsRow 0 30 1 gv got.length (got.map u64V)) (hD : ∀ k, D k ↔ k = pb ∨ gv.ownBlock = some k)
    (h1 : w5.ownsRow 0 30 1 v' (got.length + 1) (got.map u64V ++ [.int .u64 (r : Int)])) (h2 : (Y4.alloc o).grownBy w5 gv.ownBlock) (h3 : v'.ownBlock = gv.ownBlock ∨ v'.ownBlock = some (Y4.alloc o).heap.size) : GotR X Y4 w5 F D F' b v most next th made cs t pb sl at_ v' (got.length + 1) (got ++ [r]) := by
  have ne : gv.ownBlock ≠ some pb := fun e => by
    rcases hrow.2 with ⟨rfl, _⟩ | ⟨g, cap, cur, rfl, _, hg, _⟩
    · simp [Value.ownBlock] at e
    · obtain rfl : g = pb := by simpa [Value.ownBlock] using e
      rw [hpb] at hg
      simp at hg
  have h5 : w5.heap[pb]? = some (.cells #[sl, .int .i64 at_, gv] 49 (0, 0)) := (h2.block pb (by rw [World.size_alloc]; have := lt_of hpb; omega) (fun e => ne e.symm)).trans ((Below.heap_alloc _ _ pb (lt_of hpb)).trans hpb)
  have c5 : Chg D Y4 w5 := ((Chg.refl D Y4).alloc o).trans ((Chg.refl (fun k => gv.ownBlock = some k) _).grown h2 (fun k e _ => e)) (fun _ _ x => x) (fun k _ e => (hD k).2 (.inr e))
  have c6 : Chg D Y4 (w5.setCell ⟨pb, 2, none⟩ v') := c5.setCell (fun _ => (hD pb).2 (.inl rfl)) _
  have ne' : v'.ownBlock ≠ some pb := fun e => by
    rcases h3 with q | q
    · exact ne (q ▸ e)
    · rw [q] at e; injection e with e; rw [World.size_alloc] at e; have := lt_of hpb; omega
  have row' : (w5.setCell ⟨pb, 2, none⟩ v').ownsRow 0 30 1 v' (got.length + 1) (got.map u64V ++ [.int .u64 (r : Int)]) := row_kept h1 (fun k e => Below.heap_setCell _ _ _ k (fun q => ne' (by rw [e, q])))
  have blk' : (w5.setCell ⟨pb, 2, none⟩ v').heap[pb]? = some (.cells #[sl, .int .i64 at_, v'] 49 (0, 0)) := by rw [set_of h5 2 v']; rfl
  refine ⟨⟨gv, cell_of h5 2⟩, free_of h5 2, ?_, A.own c6 (fun k e => ?_) (fun k e => ?_), blk', ?_⟩
  · rcases h1.2 with ⟨_, h0⟩ | ⟨g, cap, _, e, _⟩
    · omega
    · exact ⟨g, cap, e⟩
  · rcases e with e | e
    · exact .inl ((hD k).2 (.inl e))
    · rcases h3 with q | q
      · exact .inl ((hD k).2 (.inr (q ▸ e)))
      · rw [q] at e; injection e with e; rw [World.size_alloc] at e; exact .inr (by omega)
  · rcases e with e | e
    · rw [e]; exact lt_of blk'
    · exact row_lt row' k e
  · rw [List.length_append, List.map_append]; exact row'
theorem AS.drewN {X0 X : World} {F0 D0 F D : Nat → Prop} {b v most next : Nat} {th : Int} {made : Nat} {cs : List Nat} {t : List Acc} (h : AS X0 X F0 D0 F D b v most next th made cs t) (q : Nat) : AS X0 (X.drewN q) F0 D0 F D b v most next th made cs t := h.put ((Chg.refl D X).trans (drewN_chgY X q) (fun _ _ x => x) (fun _ _ x => x.elim))
set_option maxRecDepth 100000 in
set_option maxHeartbeats 8000000 in
theorem pl_k0 {X : World} {F D : Nat → Prop} {b v most next : Nat} {th : Int} {made : Nat} {cs : List Nat} {t : List Acc} (A : AS X X F D F D b v most next th made cs t) {B pb lc at_ : Nat} {lp : Option Addr} {L : List DoP} {got : List Nat} (hP : PlAt X D pb lp L.length lc at_ got) (hL : DosAt X B lp L) (hB : B ≤ X.heap.size) (hBD : ∀ k, D k → B ≤ k) (hBF : ∀ k, F k → B ≤ k) (hBv : B ≤ v) {d : DoP} (hd : L[at_]? = some d) (hk : isA d = false) (hg : got.length ≤ 1099511627776) (h1 : made < 1099511627776) (h2 : t.length < 1099511627776) (hll : L.length ≤ 1099511627776) :
    Calls Try.prog 64 #[.pointer (some ⟨pb, 0, none⟩), .pointer (some ⟨v, 0, none⟩)] X fun e Y => e = .returned (.bool (decide (L.length ≤ at_ + 1))) ∧ ∃ F' D' made', AS X Y F D F' D' b v most (mkM most ⟨next, cs⟩ d).next th made' (mkM most ⟨next, cs⟩ d).cs (t ++ mkT th most ⟨next, cs⟩ d) ∧ made' ≤ made + 1 ∧ PlAt Y D' pb lp L.length lc (at_ + 1) (got ++ mkG most ⟨next, cs⟩ d) := by
  obtain ⟨i0, hi, hz0, hz1, hz2⟩ := info_parts infoU64y
  obtain ⟨ho, bk, off, vp, vc, rfl, hbk, e0, e1, e2, e3, e4, hr, hp⟩ := hL at_ d hd
  obtain ⟨gv, hpb, hrow, hD⟩ := hP.ex
  have hlt : at_ < L.length := (List.getElem?_eq_some_iff.1 hd).1
  obtain ⟨kd, ad, a, bb, vals⟩ := d
  simp only at hk e0 e1 e2 e3 e4 hr hp
  have nA : isA ⟨kd, ad, a, bb, vals⟩ = false := hk
  have nn : ¬ (1 ≤ kd ∧ kd ≤ 5) := by simpa [isA] using hk
  have z1 : (kd == 1) = false := by simp; omega
  have z2 : (kd == 2) = false := by simp; omega
  have z3 : (kd == 3) = false := by simp; omega
  have z4 : (kd == 4) = false := by simp; omega
  have z5 : (kd == 5) = false := by simp; omega
  have HO := keepH ho
  have c0 : X.cell? ⟨pb, 0, none⟩ = some (.slice (some ⟨bk, off, none⟩) L.length lc) := cell_of hpb 0
  have c1 : X.cell? ⟨pb, 1, none⟩ = some (.int .i64 (at_ : Int)) := cell_of hpb 1
  have t1 : (at_ : Int) < (L.length : Int) := by omega
  have t2 : decide (at_ < L.length) = true := decide_eq_true hlt
  go_enter Try.func64, Try.ntmps64
  go_upto_region 1 with fail
  go_quiet (fail)
  obtain ⟨X1, hX1⟩ : ∃ X1, X1 = X.drewN nq := ⟨_, rfl⟩
  rw [← hX1]
  have HL1 : ∀ k : Nat, X1.heap[k]? = X.heap[k]? := fun k => by rw [hX1]; rfl
  have hs1 : X1.heap.size = X.heap.size := by rw [hX1]; rfl
  have q0 : ∀ {w : World}, (∀ k : Nat, k < X.heap.size → w.heap[k]? = X.heap[k]?) → w.cell? ⟨pb, 0, none⟩ = some (.slice (some ⟨bk, off, none⟩) L.length lc) ∧ w.cell? ⟨pb, 1, none⟩ = some (.int .i64 (at_ : Int)) ∧ w.cell? ⟨bk, off + at_ * 5, none⟩ = some (.int .u8 kd) ∧ w.cell? ⟨bk, off + at_ * 5 + 1, none⟩ = some (.int .u64 (ad : Int)) ∧ w.cell? ⟨bk, off + at_ * 5 + 2, none⟩ = some (.int .u64 (a : Int)) ∧ w.cell? ⟨bk, off + at_ * 5 + 3, none⟩ = some (.int .u64 (bb : Int)) ∧ w.cell? ⟨bk, off + at_ * 5 + 4, none⟩ = some (.slice vp vals.length vc) := fun h => by
    have lb : bk < X.heap.size := by omega
    have lp : pb < X.heap.size := lt_of hpb
    exact ⟨cell_low h lp c0, cell_low h lp c1, cell_low h lb e0, cell_low h lb e1, cell_low h lb e2, cell_low h lb e3, cell_low h lb e4⟩
  have qa : ∀ (o : Obj) (k : Nat), k < X.heap.size → (X1.alloc o).heap[k]? = X.heap[k]? := fun o k hk => by rw [← HL1 k]; exact Below.heap_alloc _ _ k (by omega)
  obtain ⟨m0, m1, n0, n1, n2, n3, n4⟩ := q0 (fun k _ => HL1 k)
  have k0 : ∀ o, (X1.alloc o).cell? ⟨pb, 0, none⟩ = some (.slice (some ⟨bk, off, none⟩) L.length lc) := fun o => (q0 (qa o)).1
  have k1 : ∀ o, (X1.alloc o).cell? ⟨pb, 1, none⟩ = some (.int .i64 (at_ : Int)) := fun o => (q0 (qa o)).2.1
  have o0 : ∀ o, (X1.alloc o).cell? ⟨bk, off + at_ * 5, none⟩ = some (.int .u8 kd) := fun o => (q0 (qa o)).2.2.1
  have o1 : ∀ o, (X1.alloc o).cell? ⟨bk, off + at_ * 5 + 1, none⟩ = some (.int .u64 (ad : Int)) := fun o => (q0 (qa o)).2.2.2.1
  have o2 : ∀ o, (X1.alloc o).cell? ⟨bk, off + at_ * 5 + 2, none⟩ = some (.int .u64 (a : Int)) := fun o => (q0 (qa o)).2.2.2.2.1
  have o3 : ∀ o, (X1.alloc o).cell? ⟨bk, off + at_ * 5 + 3, none⟩ = some (.int .u64 (bb : Int)) := fun o => (q0 (qa o)).2.2.2.2.2.1
  have o4 : ∀ o, (X1.alloc o).cell? ⟨bk, off + at_ * 5 + 4, none⟩ = some (.slice vp vals.length vc) := fun o => (q0 (qa o)).2.2.2.2.2.2
  have HC1 : Hid (Chg (fun _ => False) X X1) := by rw [hX1]; exact drewN_chgY X nq
  clear hX1 q0 qa
  go_upto_region 2 with fail
  go_big_region
  obtain ⟨X2, hX2⟩ : ∃ X2, X2 = (X1.alloc (.cells #[.int .u8 kd, .int .u64 (ad : Int), .int .u64 (a : Int), .int .u64 (bb : Int), .slice vp vals.length vc] 33)).drew := ⟨_, rfl⟩
  rw [← hX2]
  have hbx : X2.heap[X.heap.size]? = some (.cells #[.int .u8 kd, .int .u64 (ad : Int), .int .u64 (a : Int), .int .u64 (bb : Int), .slice vp vals.length vc] 33 (0, 0)) := by rw [hX2, ← hs1]; exact heap_alloc_new _ _
  have hC2 : Chg (fun _ => False) X X2 := by rw [hX2]; exact (HC1.out.alloc _).drew
  have hpb2 : X2.heap[pb]? = some (.cells #[.slice (some ⟨bk, off, none⟩) L.length lc, .int .i64 (at_ : Int), gv] 49 (0, 0)) := (hC2.block pb (lt_of hpb) (fun x => x)).trans hpb
  have f1 : X2.frozen? ⟨pb, 1, none⟩ = false := free_of hpb2 1
  have g1 : X2.cell? ⟨pb, 1, none⟩ = some (.int .i64 (at_ : Int)) := cell_of hpb2 1
  obtain ⟨X3, hX3⟩ : ∃ X3, X3 = X2.setCell ⟨pb, 1, none⟩ (.int .i64 ((at_ : Int) + 1)) := ⟨_, rfl⟩
  have hpb3 : X3.heap[pb]? = some (.cells #[.slice (some ⟨bk, off, none⟩) L.length lc, .int .i64 ((at_ : Int) + 1), gv] 49 (0, 0)) := by rw [hX3, set_of hpb2 1 _]; rfl
  have hC3 : Chg D X X3 := by rw [hX3]; exact (hC2.mono (fun _ _ x => x.elim)).setCell (fun _ => (hD pb).2 (.inl rfl)) _
  have hbx3 : X3.heap[X.heap.size]? = some (.cells #[.int .u8 kd, .int .u64 (ad : Int), .int .u64 (a : Int), .int .u64 (bb : Int), .slice vp vals.length vc] 33 (0, 0)) := by
    have hne : X.heap.size ≠ pb := by have := lt_of hpb; omega
    rw [hX3]
    exact (Below.heap_setCell _ _ _ _ hne).trans hbx
  have hne3 : gv.ownBlock ≠ some pb := fun e => by
    rcases hrow.2 with ⟨rfl, _⟩ | ⟨g, cap, cur, rfl, _, hg, _⟩
    · simp [Value.ownBlock] at e
    · obtain rfl : g = pb := by simpa [Value.ownBlock] using e
      rw [hpb] at hg
      simp at hg
  have hrow3 : X3.ownsRow 0 30 1 gv got.length (got.map u64V) := row_kept hrow (fun k e => by
    have : k ≠ pb := fun q => hne3 (by rw [e, q])
    rw [hX3]
    exact (Below.heap_setCell _ _ _ k this).trans (hC2.block k (row_lt hrow k e) (fun x => x)))
  have HA3 := keepH (A.put hC3)
  have HBX := keepH hbx3
  have HPB := keepH hpb3
  have HRW := keepH hrow3
  have HDD := keepH hD
  have HLT : Hid (∀ k, k < B → X3.heap[k]? = X.heap[k]?) := fun k hk => hC3.block k (by omega) (fun e => by have := hBD k e; omega)
  have HSX : Hid (X.heap.size ≤ X3.heap.size) := hC3.size
  obtain ⟨bx, hbxn⟩ : ∃ bx, bx = X.heap.size := ⟨_, rfl⟩
  have HBN : Hid (X.heap.size ≤ bx) := by show _ ≤ _; omega
  rw [← hbxn] at HBX ⊢
  clear m0 m1 n0 n1 n2 n3 n4 k0 k1 o0 o1 o2 o3 o4 c0 c1 e0 e1 e2 e3 e4 hX2 hbx hC2 hpb2 hpb3 hC3 hbx3 hne3 hrow3 HL1 HC1 hs1 hbxn
  go_upto_region 4 with fail
  rw [← hX3]
  clear hX3 g1 f1
  have b0 : X3.cell? ⟨bx, 0, none⟩ = some (.int .u8 kd) := cell_of HBX.out 0
  have v0 : X3.cell? ⟨pb, 0, none⟩ = some (.slice (some ⟨bk, off, none⟩) L.length lc) := cell_of HPB.out 0
  have v1 : X3.cell? ⟨pb, 1, none⟩ = some (.int .i64 ((at_ : Int) + 1)) := cell_of HPB.out 1
  by_cases hend : L.length ≤ at_ + 1
  · have y1 : (L.length : Int) ≤ (at_ : Int) + 1 := by omega
    have y2 : decide (L.length ≤ at_ + 1) = true := decide_eq_true hend
    go_upto_region 19 with fail
    go_quiet (fail)
    (try go_wp2_with fail)
    go_ret
    refine ⟨by simp [hend], ?_⟩
    have eM := mkM_idle (most := most) (m := ⟨next, cs⟩) nA
    unfold mkT mkG
    rw [eM, nA]
    simp only [Bool.false_eq_true, if_false, List.append_nil]
    exact ⟨F, D, made, HA3.out.drewN _, by omega, ⟨gv, HPB.out, row_kept HRW.out (fun k _ => rfl), HDD.out⟩⟩
  · have y1 : ¬ (L.length : Int) ≤ (at_ : Int) + 1 := by omega
    have y2 : decide (L.length ≤ at_ + 1) = false := decide_eq_false hend
    go_upto_region 19 with fail
    go_quiet (fail)
    (try go_wp2_with fail)
    go_ret
    refine ⟨by simp, ?_⟩
    have eM := mkM_idle (most := most) (m := ⟨next, cs⟩) nA
    unfold mkT mkG
    rw [eM, nA]
    simp only [Bool.false_eq_true, if_false, List.append_nil]
    exact ⟨F, D, made, HA3.out.drewN _, by omega, ⟨gv, HPB.out, row_kept HRW.out (fun k _ => rfl), HDD.out⟩⟩
set_option maxRecDepth 100000 in
set_option maxHeartbeats 8000000 in
theorem pl_k2 {X : World} {F D : Nat → Prop} {b v most next : Nat} {th : Int} {made : Nat} {cs : List Nat} {t : List Acc} (A : AS X X F D F D b v most next th made cs t) {B pb lc at_ : Nat} {lp : Option Addr} {L : List DoP} {got : List Nat} (hP : PlAt X D pb lp L.length lc at_ got) (hL : DosAt X B lp L) (hB : B ≤ X.heap.size) (hBD : ∀ k, D k → B ≤ k) (hBF : ∀ k, F k → B ≤ k) (hBv : B ≤ v) {d : DoP} (hd : L[at_]? = some d) (hk : d.kd = 2) (hg : got.length ≤ 1099511627776) (h1 : made < 1099511627776) (h2 : t.length < 1099511627776) (hll : L.length ≤ 1099511627776) :
    Calls Try.prog 64 #[.pointer (some ⟨pb, 0, none⟩), .pointer (some ⟨v, 0, none⟩)] X fun e Y => e = .returned (.bool (decide (L.length ≤ at_ + 1))) ∧ ∃ F' D' made', AS X Y F D F' D' b v most (mkM most ⟨next, cs⟩ d).next th made' (mkM most ⟨next, cs⟩ d).cs (t ++ mkT th most ⟨next, cs⟩ d) ∧ made' ≤ made + 1 ∧ PlAt Y D' pb lp L.length lc (at_ + 1) (got ++ mkG most ⟨next, cs⟩ d) := by
  obtain ⟨i0, hi, hz0, hz1, hz2⟩ := info_parts infoU64y
  obtain ⟨ho, bk, off, vp, vc, rfl, hbk, e0, e1, e2, e3, e4, hr, hp⟩ := hL at_ d hd
  obtain ⟨gv, hpb, hrow, hD⟩ := hP.ex
  have hlt : at_ < L.length := (List.getElem?_eq_some_iff.1 hd).1
  obtain ⟨kd, ad, a, bb, vals⟩ := d
  simp only at hk e0 e1 e2 e3 e4 hr hp
  subst hk
  have HO := keepH ho
  have c0 : X.cell? ⟨pb, 0, none⟩ = some (.slice (some ⟨bk, off, none⟩) L.length lc) := cell_of hpb 0
  have c1 : X.cell? ⟨pb, 1, none⟩ = some (.int .i64 (at_ : Int)) := cell_of hpb 1
  have t1 : (at_ : Int) < (L.length : Int) := by omega
  have t2 : decide (at_ < L.length) = true := decide_eq_true hlt
  go_enter Try.func64, Try.ntmps64
  go_upto_region 1 with fail
  go_quiet (fail)
  obtain ⟨X1, hX1⟩ : ∃ X1, X1 = X.drewN nq := ⟨_, rfl⟩
  rw [← hX1]
  have HL1 : ∀ k : Nat, X1.heap[k]? = X.heap[k]? := fun k => by rw [hX1]; rfl
  have hs1 : X1.heap.size = X.heap.size := by rw [hX1]; rfl
  have q0 : ∀ {w : World}, (∀ k : Nat, k < X.heap.size → w.heap[k]? = X.heap[k]?) → w.cell? ⟨pb, 0, none⟩ = some (.slice (some ⟨bk, off, none⟩) L.length lc) ∧ w.cell? ⟨pb, 1, none⟩ = some (.int .i64 (at_ : Int)) ∧ w.cell? ⟨bk, off + at_ * 5, none⟩ = some (.int .u8 2) ∧ w.cell? ⟨bk, off + at_ * 5 + 1, none⟩ = some (.int .u64 (ad : Int)) ∧ w.cell? ⟨bk, off + at_ * 5 + 2, none⟩ = some (.int .u64 (a : Int)) ∧ w.cell? ⟨bk, off + at_ * 5 + 3, none⟩ = some (.int .u64 (bb : Int)) ∧ w.cell? ⟨bk, off + at_ * 5 + 4, none⟩ = some (.slice vp vals.length vc) := fun h => by
    have lb : bk < X.heap.size := by omega
    have lp : pb < X.heap.size := lt_of hpb
    exact ⟨cell_low h lp c0, cell_low h lp c1, cell_low h lb e0, cell_low h lb e1, cell_low h lb e2, cell_low h lb e3, cell_low h lb e4⟩
  have qa : ∀ (o : Obj) (k : Nat), k < X.heap.size → (X1.alloc o).heap[k]? = X.heap[k]? := fun o k hk => by rw [← HL1 k]; exact Below.heap_alloc _ _ k (by omega)
  obtain ⟨m0, m1, n0, n1, n2, n3, n4⟩ := q0 (fun k _ => HL1 k)
  have k0 : ∀ o, (X1.alloc o).cell? ⟨pb, 0, none⟩ = some (.slice (some ⟨bk, off, none⟩) L.length lc) := fun o => (q0 (qa o)).1
  have k1 : ∀ o, (X1.alloc o).cell? ⟨pb, 1, none⟩ = some (.int .i64 (at_ : Int)) := fun o => (q0 (qa o)).2.1
  have o0 : ∀ o, (X1.alloc o).cell? ⟨bk, off + at_ * 5, none⟩ = some (.int .u8 2) := fun o => (q0 (qa o)).2.2.1
  have o1 : ∀ o, (X1.alloc o).cell? ⟨bk, off + at_ * 5 + 1, none⟩ = some (.int .u64 (ad : Int)) := fun o => (q0 (qa o)).2.2.2.1
  have o2 : ∀ o, (X1.alloc o).cell? ⟨bk, off + at_ * 5 + 2, none⟩ = some (.int .u64 (a : Int)) := fun o => (q0 (qa o)).2.2.2.2.1
  have o3 : ∀ o, (X1.alloc o).cell? ⟨bk, off + at_ * 5 + 3, none⟩ = some (.int .u64 (bb : Int)) := fun o => (q0 (qa o)).2.2.2.2.2.1
  have o4 : ∀ o, (X1.alloc o).cell? ⟨bk, off + at_ * 5 + 4, none⟩ = some (.slice vp vals.length vc) := fun o => (q0 (qa o)).2.2.2.2.2.2
  have HC1 : Hid (Chg (fun _ => False) X X1) := by rw [hX1]; exact drewN_chgY X nq
  clear hX1 q0 qa
  go_upto_region 2 with fail
  go_big_region
  obtain ⟨X2, hX2⟩ : ∃ X2, X2 = (X1.alloc (.cells #[.int .u8 2, .int .u64 (ad : Int), .int .u64 (a : Int), .int .u64 (bb : Int), .slice vp vals.length vc] 33)).drew := ⟨_, rfl⟩
  rw [← hX2]
  have hbx : X2.heap[X.heap.size]? = some (.cells #[.int .u8 2, .int .u64 (ad : Int), .int .u64 (a : Int), .int .u64 (bb : Int), .slice vp vals.length vc] 33 (0, 0)) := by rw [hX2, ← hs1]; exact heap_alloc_new _ _
  have hC2 : Chg (fun _ => False) X X2 := by rw [hX2]; exact (HC1.out.alloc _).drew
  have hpb2 : X2.heap[pb]? = some (.cells #[.slice (some ⟨bk, off, none⟩) L.length lc, .int .i64 (at_ : Int), gv] 49 (0, 0)) := (hC2.block pb (lt_of hpb) (fun x => x)).trans hpb
  have f1 : X2.frozen? ⟨pb, 1, none⟩ = false := free_of hpb2 1
  have g1 : X2.cell? ⟨pb, 1, none⟩ = some (.int .i64 (at_ : Int)) := cell_of hpb2 1
  obtain ⟨X3, hX3⟩ : ∃ X3, X3 = X2.setCell ⟨pb, 1, none⟩ (.int .i64 ((at_ : Int) + 1)) := ⟨_, rfl⟩
  have hpb3 : X3.heap[pb]? = some (.cells #[.slice (some ⟨bk, off, none⟩) L.length lc, .int .i64 ((at_ : Int) + 1), gv] 49 (0, 0)) := by rw [hX3, set_of hpb2 1 _]; rfl
  have hC3 : Chg D X X3 := by rw [hX3]; exact (hC2.mono (fun _ _ x => x.elim)).setCell (fun _ => (hD pb).2 (.inl rfl)) _
  have hbx3 : X3.heap[X.heap.size]? = some (.cells #[.int .u8 2, .int .u64 (ad : Int), .int .u64 (a : Int), .int .u64 (bb : Int), .slice vp vals.length vc] 33 (0, 0)) := by
    have hne : X.heap.size ≠ pb := by have := lt_of hpb; omega
    rw [hX3]
    exact (Below.heap_setCell _ _ _ _ hne).trans hbx
  have hne3 : gv.ownBlock ≠ some pb := fun e => by
    rcases hrow.2 with ⟨rfl, _⟩ | ⟨g, cap, cur, rfl, _, hg, _⟩
    · simp [Value.ownBlock] at e
    · obtain rfl : g = pb := by simpa [Value.ownBlock] using e
      rw [hpb] at hg
      simp at hg
  have hrow3 : X3.ownsRow 0 30 1 gv got.length (got.map u64V) := row_kept hrow (fun k e => by
    have : k ≠ pb := fun q => hne3 (by rw [e, q])
    rw [hX3]
    exact (Below.heap_setCell _ _ _ k this).trans (hC2.block k (row_lt hrow k e) (fun x => x)))
  have HA3 := keepH (A.put hC3)
  have HBX := keepH hbx3
  have HPB := keepH hpb3
  have HRW := keepH hrow3
  have HDD := keepH hD
  have HLT : Hid (∀ k, k < B → X3.heap[k]? = X.heap[k]?) := fun k hk => hC3.block k (by omega) (fun e => by have := hBD k e; omega)
  have HSX : Hid (X.heap.size ≤ X3.heap.size) := hC3.size
  obtain ⟨bx, hbxn⟩ : ∃ bx, bx = X.heap.size := ⟨_, rfl⟩
  have HBN : Hid (X.heap.size ≤ bx) := by show _ ≤ _; omega
  rw [← hbxn] at HBX ⊢
  clear m0 m1 n0 n1 n2 n3 n4 k0 k1 o0 o1 o2 o3 o4 c0 c1 e0 e1 e2 e3 e4 hX2 hbx hC2 hpb2 hpb3 hC3 hbx3 hne3 hrow3 HL1 HC1 hs1 hbxn
  go_upto_region 4 with fail
  rw [← hX3]
  clear hX3 g1 f1
  have b0 : X3.cell? ⟨bx, 0, none⟩ = some (.int .u8 2) := cell_of HBX.out 0
  have b1 : X3.cell? ⟨bx, 1, none⟩ = some (.int .u64 (ad : Int)) := cell_of HBX.out 1
  have b2 : X3.cell? ⟨bx, 2, none⟩ = some (.int .u64 (a : Int)) := cell_of HBX.out 2
  have b3 : X3.cell? ⟨bx, 3, none⟩ = some (.int .u64 (bb : Int)) := cell_of HBX.out 3
  have HC4 := keepH (AS.store HA3.out ad a HO.out.ad HO.out.a (by omega) (by omega))
  go_wp2_with fail
  refine HC4.out.mono ?_
  rintro e Y4 ⟨rfl, F4, A4, hk4⟩
  have hpb4 : Y4.heap[pb]? = some (.cells #[.slice (some ⟨bk, off, none⟩) L.length lc, .int .i64 ((at_ : Int) + 1), gv] 49 (0, 0)) := (hk4 pb ((HDD.out pb).2 (.inl rfl))).trans HPB.out
  have hrow4 : Y4.ownsRow 0 30 1 gv got.length (got.map u64V) := row_kept HRW.out (fun k e => hk4 k ((HDD.out k).2 (.inr e)))
  have c2 : Y4.cell? ⟨pb, 2, none⟩ = some gv := cell_of hpb4 2
  have HA4 := keepH A4
  have HPB4 := keepH hpb4
  have HR4 := keepH hrow4
  clear A4 hk4 hpb4 hrow4 b0 b1 b2 b3
  go_wp2_with (at_builtin; refine wpList_append_own_at _ rfl _ _ 31 rfl 0 30 i0 (.int .u64 0) 1 8 Try.underlying31 hi hz0 hz1 hz2 rfl (by decide) _ _ _ rfl (HR4.out.alloc _) ⟨_, 0, none⟩ 1 1 [.int .u64 0] rfl rfl (cells_new _ _ rfl _ _) (by intro u hu; simp at hu; subst hu; rfl) (by unfold maxLen; omega) (by omega) (Nat.zero_le _) ?_; intro v5 w5 r1 r2 r3 r4; have HR := keepH (got_end (r := 0) HA4.out HPB4.out HR4.out HDD.out r1 r2 r4); clear r1 r2 r3 r4; obtain ⟨g5, c5', hv5⟩ := HR.out.sls; obtain ⟨gg, hcell⟩ := HR.out.cell; have hfr := HR.out.free; subst hv5)
  obtain ⟨Y6, hY6⟩ : ∃ Y6, Y6 = w5.setCell ⟨pb, 2, none⟩ (.slice (some ⟨g5, 0, none⟩) (got.length + 1) c5') := ⟨_, rfl⟩
  have HR6a := keepH HR.out.own
  have HR6b := keepH HR.out.blk
  have HR6c := keepH HR.out.row
  rw [← hY6] at HR6a HR6b HR6c
  have v0 : Y6.cell? ⟨pb, 0, none⟩ = some (.slice (some ⟨bk, off, none⟩) L.length lc) := cell_of HR6b.out 0
  have v1 : Y6.cell? ⟨pb, 1, none⟩ = some (.int .i64 ((at_ : Int) + 1)) := cell_of HR6b.out 1
  by_cases hend : L.length ≤ at_ + 1
  · have y1 : (L.length : Int) ≤ (at_ : Int) + 1 := by omega
    have y2 : decide (L.length ≤ at_ + 1) = true := decide_eq_true hend
    go_upto_region 19 with fail
    rw [← hY6]; clear hY6 hcell hfr
    go_quiet (fail)
    (try go_wp2_with fail)
    go_ret
    refine ⟨by simp [hend], ?_⟩
    unfold mkT mkG mkM mkR mkA
    simp only [isA]
    simp only [Int.reduceEq, Int.reduceLE, decide_true, Bool.and_self, if_true, if_false]
    exact ⟨F4, _, made + 1, HR6a.out.drewN _, by omega, ⟨_, HR6b.out, row_kept HR6c.out (fun k _ => rfl), fun k => Iff.rfl⟩⟩
  · have y1 : ¬ (L.length : Int) ≤ (at_ : Int) + 1 := by omega
    have y2 : decide (L.length ≤ at_ + 1) = false := decide_eq_false hend
    go_upto_region 19 with fail
    rw [← hY6]; clear hY6 hcell hfr
    go_quiet (fail)
    (try go_wp2_with fail)
    go_ret
    refine ⟨by simp, ?_⟩
    unfold mkT mkG mkM mkR mkA
    simp only [isA]
    simp only [Int.reduceEq, Int.reduceLE, decide_true, Bool.and_self, if_true, if_false]
    exact ⟨F4, _, made + 1, HR6a.out.drewN _, by omega, ⟨_, HR6b.out, row_kept HR6c.out (fun k _ => rfl), fun k => Iff.rfl⟩⟩
set_option maxRecDepth 100000 in
set_option maxHeartbeats 8000000 in
theorem pl_k3 {X : World} {F D : Nat → Prop} {b v most next : Nat} {th : Int} {made : Nat} {cs : List Nat} {t : List Acc} (A : AS X X F D F D b v most next th made cs t) {B pb lc at_ : Nat} {lp : Option Addr} {L : List DoP} {got : List Nat} (hP : PlAt X D pb lp L.length lc at_ got) (hL : DosAt X B lp L) (hB : B ≤ X.heap.size) (hBD : ∀ k, D k → B ≤ k) (hBF : ∀ k, F k → B ≤ k) (hBv : B ≤ v) {d : DoP} (hd : L[at_]? = some d) (hk : d.kd = 3) (hg : got.length ≤ 1099511627776) (h1 : made < 1099511627776) (h2 : t.length < 1099511627776) (hll : L.length ≤ 1099511627776) :
    Calls Try.prog 64 #[.pointer (some ⟨pb, 0, none⟩), .pointer (some ⟨v, 0, none⟩)] X fun e Y => e = .returned (.bool (decide (L.length ≤ at_ + 1))) ∧ ∃ F' D' made', AS X Y F D F' D' b v most (mkM most ⟨next, cs⟩ d).next th made' (mkM most ⟨next, cs⟩ d).cs (t ++ mkT th most ⟨next, cs⟩ d) ∧ made' ≤ made + 1 ∧ PlAt Y D' pb lp L.length lc (at_ + 1) (got ++ mkG most ⟨next, cs⟩ d) := by
  obtain ⟨i0, hi, hz0, hz1, hz2⟩ := info_parts infoU64y
  obtain ⟨ho, bk, off, vp, vc, rfl, hbk, e0, e1, e2, e3, e4, hr, hp⟩ := hL at_ d hd
  obtain ⟨gv, hpb, hrow, hD⟩ := hP.ex
  have hlt : at_ < L.length := (List.getElem?_eq_some_iff.1 hd).1
  obtain ⟨kd, ad, a, bb, vals⟩ := d
  simp only at hk e0 e1 e2 e3 e4 hr hp
  subst hk
  have HO := keepH ho
  have c0 : X.cell? ⟨pb, 0, none⟩ = some (.slice (some ⟨bk, off, none⟩) L.length lc) := cell_of hpb 0
  have c1 : X.cell? ⟨pb, 1, none⟩ = some (.int .i64 (at_ : Int)) := cell_of hpb 1
  have t1 : (at_ : Int) < (L.length : Int) := by omega
  have t2 : decide (at_ < L.length) = true := decide_eq_true hlt
  go_enter Try.func64, Try.ntmps64
  go_upto_region 1 with fail
  go_quiet (fail)
  obtain ⟨X1, hX1⟩ : ∃ X1, X1 = X.drewN nq := ⟨_, rfl⟩
  rw [← hX1]
  have HL1 : ∀ k : Nat, X1.heap[k]? = X.heap[k]? := fun k => by rw [hX1]; rfl
  have hs1 : X1.heap.size = X.heap.size := by rw [hX1]; rfl
  have q0 : ∀ {w : World}, (∀ k : Nat, k < X.heap.size → w.heap[k]? = X.heap[k]?) → w.cell? ⟨pb, 0, none⟩ = some (.slice (some ⟨bk, off, none⟩) L.length lc) ∧ w.cell? ⟨pb, 1, none⟩ = some (.int .i64 (at_ : Int)) ∧ w.cell? ⟨bk, off + at_ * 5, none⟩ = some (.int .u8 3) ∧ w.cell? ⟨bk, off + at_ * 5 + 1, none⟩ = some (.int .u64 (ad : Int)) ∧ w.cell? ⟨bk, off + at_ * 5 + 2, none⟩ = some (.int .u64 (a : Int)) ∧ w.cell? ⟨bk, off + at_ * 5 + 3, none⟩ = some (.int .u64 (bb : Int)) ∧ w.cell? ⟨bk, off + at_ * 5 + 4, none⟩ = some (.slice vp vals.length vc) := fun h => by
    have lb : bk < X.heap.size := by omega
    have lp : pb < X.heap.size := lt_of hpb
    exact ⟨cell_low h lp c0, cell_low h lp c1, cell_low h lb e0, cell_low h lb e1, cell_low h lb e2, cell_low h lb e3, cell_low h lb e4⟩
  have qa : ∀ (o : Obj) (k : Nat), k < X.heap.size → (X1.alloc o).heap[k]? = X.heap[k]? := fun o k hk => by rw [← HL1 k]; exact Below.heap_alloc _ _ k (by omega)
  obtain ⟨m0, m1, n0, n1, n2, n3, n4⟩ := q0 (fun k _ => HL1 k)
  have k0 : ∀ o, (X1.alloc o).cell? ⟨pb, 0, none⟩ = some (.slice (some ⟨bk, off, none⟩) L.length lc) := fun o => (q0 (qa o)).1
  have k1 : ∀ o, (X1.alloc o).cell? ⟨pb, 1, none⟩ = some (.int .i64 (at_ : Int)) := fun o => (q0 (qa o)).2.1
  have o0 : ∀ o, (X1.alloc o).cell? ⟨bk, off + at_ * 5, none⟩ = some (.int .u8 3) := fun o => (q0 (qa o)).2.2.1
  have o1 : ∀ o, (X1.alloc o).cell? ⟨bk, off + at_ * 5 + 1, none⟩ = some (.int .u64 (ad : Int)) := fun o => (q0 (qa o)).2.2.2.1
  have o2 : ∀ o, (X1.alloc o).cell? ⟨bk, off + at_ * 5 + 2, none⟩ = some (.int .u64 (a : Int)) := fun o => (q0 (qa o)).2.2.2.2.1
  have o3 : ∀ o, (X1.alloc o).cell? ⟨bk, off + at_ * 5 + 3, none⟩ = some (.int .u64 (bb : Int)) := fun o => (q0 (qa o)).2.2.2.2.2.1
  have o4 : ∀ o, (X1.alloc o).cell? ⟨bk, off + at_ * 5 + 4, none⟩ = some (.slice vp vals.length vc) := fun o => (q0 (qa o)).2.2.2.2.2.2
  have HC1 : Hid (Chg (fun _ => False) X X1) := by rw [hX1]; exact drewN_chgY X nq
  clear hX1 q0 qa
  go_upto_region 2 with fail
  go_big_region
  obtain ⟨X2, hX2⟩ : ∃ X2, X2 = (X1.alloc (.cells #[.int .u8 3, .int .u64 (ad : Int), .int .u64 (a : Int), .int .u64 (bb : Int), .slice vp vals.length vc] 33)).drew := ⟨_, rfl⟩
  rw [← hX2]
  have hbx : X2.heap[X.heap.size]? = some (.cells #[.int .u8 3, .int .u64 (ad : Int), .int .u64 (a : Int), .int .u64 (bb : Int), .slice vp vals.length vc] 33 (0, 0)) := by rw [hX2, ← hs1]; exact heap_alloc_new _ _
  have hC2 : Chg (fun _ => False) X X2 := by rw [hX2]; exact (HC1.out.alloc _).drew
  have hpb2 : X2.heap[pb]? = some (.cells #[.slice (some ⟨bk, off, none⟩) L.length lc, .int .i64 (at_ : Int), gv] 49 (0, 0)) := (hC2.block pb (lt_of hpb) (fun x => x)).trans hpb
  have f1 : X2.frozen? ⟨pb, 1, none⟩ = false := free_of hpb2 1
  have g1 : X2.cell? ⟨pb, 1, none⟩ = some (.int .i64 (at_ : Int)) := cell_of hpb2 1
  obtain ⟨X3, hX3⟩ : ∃ X3, X3 = X2.setCell ⟨pb, 1, none⟩ (.int .i64 ((at_ : Int) + 1)) := ⟨_, rfl⟩
  have hpb3 : X3.heap[pb]? = some (.cells #[.slice (some ⟨bk, off, none⟩) L.length lc, .int .i64 ((at_ : Int) + 1), gv] 49 (0, 0)) := by rw [hX3, set_of hpb2 1 _]; rfl
  have hC3 : Chg D X X3 := by rw [hX3]; exact (hC2.mono (fun _ _ x => x.elim)).setCell (fun _ => (hD pb).2 (.inl rfl)) _
  have hbx3 : X3.heap[X.heap.size]? = some (.cells #[.int .u8 3, .int .u64 (ad : Int), .int .u64 (a : Int), .int .u64 (bb : Int), .slice vp vals.length vc] 33 (0, 0)) := by
    have hne : X.heap.size ≠ pb := by have := lt_of hpb; omega
    rw [hX3]
    exact (Below.heap_setCell _ _ _ _ hne).trans hbx
  have hne3 : gv.ownBlock ≠ some pb := fun e => by
    rcases hrow.2 with ⟨rfl, _⟩ | ⟨g, cap, cur, rfl, _, hg, _⟩
    · simp [Value.ownBlock] at e
    · obtain rfl : g = pb := by simpa [Value.ownBlock] using e
      rw [hpb] at hg
      simp at hg
  have hrow3 : X3.ownsRow 0 30 1 gv got.length (got.map u64V) := row_kept hrow (fun k e => by
    have : k ≠ pb := fun q => hne3 (by rw [e, q])
    rw [hX3]
    exact (Below.heap_setCell _ _ _ k this).trans (hC2.block k (row_lt hrow k e) (fun x => x)))
  have HA3 := keepH (A.put hC3)
  have HBX := keepH hbx3
  have HPB := keepH hpb3
  have HRW := keepH hrow3
  have HDD := keepH hD
  have HLT : Hid (∀ k, k < B → X3.heap[k]? = X.heap[k]?) := fun k hk => hC3.block k (by omega) (fun e => by have := hBD k e; omega)
  have HSX : Hid (X.heap.size ≤ X3.heap.size) := hC3.size
  obtain ⟨bx, hbxn⟩ : ∃ bx, bx = X.heap.size := ⟨_, rfl⟩
  have HBN : Hid (X.heap.size ≤ bx) := by show _ ≤ _; omega
  rw [← hbxn] at HBX ⊢
  clear m0 m1 n0 n1 n2 n3 n4 k0 k1 o0 o1 o2 o3 o4 c0 c1 e0 e1 e2 e3 e4 hX2 hbx hC2 hpb2 hpb3 hC3 hbx3 hne3 hrow3 HL1 HC1 hs1 hbxn
  go_upto_region 4 with fail
  rw [← hX3]
  clear hX3 g1 f1
  have b0 : X3.cell? ⟨bx, 0, none⟩ = some (.int .u8 3) := cell_of HBX.out 0
  have b1 : X3.cell? ⟨bx, 1, none⟩ = some (.int .u64 (ad : Int)) := cell_of HBX.out 1
  have b2 : X3.cell? ⟨bx, 2, none⟩ = some (.int .u64 (a : Int)) := cell_of HBX.out 2
  have b3 : X3.cell? ⟨bx, 3, none⟩ = some (.int .u64 (bb : Int)) := cell_of HBX.out 3
  cases hc : casOk most cs ad a with
  | true =>
    have HC4 := keepH (AS.cas HA3.out ad a bb HO.out.ad HO.out.b (by omega) (by omega))
    rw [hc] at HC4
    have HCC := keepH hc
    clear hc
    go_wp2_with fail
    refine HC4.out.mono ?_
    rintro e Y4 ⟨rfl, F4, A4, hk4⟩
    have hpb4 : Y4.heap[pb]? = some (.cells #[.slice (some ⟨bk, off, none⟩) L.length lc, .int .i64 ((at_ : Int) + 1), gv] 49 (0, 0)) := (hk4 pb ((HDD.out pb).2 (.inl rfl))).trans HPB.out
    have hrow4 : Y4.ownsRow 0 30 1 gv got.length (got.map u64V) := row_kept HRW.out (fun k e => hk4 k ((HDD.out k).2 (.inr e)))
    have c2 : Y4.cell? ⟨pb, 2, none⟩ = some gv := cell_of hpb4 2
    have HA4 := keepH A4
    have HPB4 := keepH hpb4
    have HR4 := keepH hrow4
    clear A4 hk4 hpb4 hrow4 b0 b1 b2 b3
    go_wp2_with (at_builtin; refine wpList_append_own_at _ rfl _ _ 31 rfl 0 30 i0 (.int .u64 0) 1 8 Try.underlying31 hi hz0 hz1 hz2 rfl (by decide) _ _ _ rfl (HR4.out.alloc _) ⟨_, 0, none⟩ 1 1 [.int .u64 1] rfl rfl (cells_new _ _ rfl _ _) (by intro u hu; simp at hu; subst hu; rfl) (by unfold maxLen; omega) (by omega) (Nat.zero_le _) ?_; intro v5 w5 r1 r2 r3 r4; have HR := keepH (got_end (r := 1) HA4.out HPB4.out HR4.out HDD.out r1 r2 r4); clear r1 r2 r3 r4; obtain ⟨g5, c5', hv5⟩ := HR.out.sls; obtain ⟨gg, hcell⟩ := HR.out.cell; have hfr := HR.out.free; subst hv5)
    obtain ⟨Y6, hY6⟩ : ∃ Y6, Y6 = w5.setCell ⟨pb, 2, none⟩ (.slice (some ⟨g5, 0, none⟩) (got.length + 1) c5') := ⟨_, rfl⟩
    have HR6a := keepH HR.out.own
    have HR6b := keepH HR.out.blk
    have HR6c := keepH HR.out.row
    rw [← hY6] at HR6a HR6b HR6c
    have v0 : Y6.cell? ⟨pb, 0, none⟩ = some (.slice (some ⟨bk, off, none⟩) L.length lc) := cell_of HR6b.out 0
    have v1 : Y6.cell? ⟨pb, 1, none⟩ = some (.int .i64 ((at_ : Int) + 1)) := cell_of HR6b.out 1
    by_cases hend : L.length ≤ at_ + 1
    · have y1 : (L.length : Int) ≤ (at_ : Int) + 1 := by omega
      have y2 : decide (L.length ≤ at_ + 1) = true := decide_eq_true hend
      go_upto_region 19 with fail
      rw [← hY6]; clear hY6 hcell hfr
      go_quiet (fail)
      (try go_wp2_with fail)
      go_ret
      refine ⟨by simp [hend], ?_⟩
      unfold mkT mkG mkM mkR mkA
      simp only [isA]
      simp only [Int.reduceEq, Int.reduceLE, decide_true, Bool.and_self, if_true, if_false, HCC.out]
      exact ⟨F4, _, made + 1, HR6a.out.drewN _, by omega, ⟨_, HR6b.out, row_kept HR6c.out (fun k _ => rfl), fun k => Iff.rfl⟩⟩
    · have y1 : ¬ (L.length : Int) ≤ (at_ : Int) + 1 := by omega
      have y2 : decide (L.length ≤ at_ + 1) = false := decide_eq_false hend
      go_upto_region 19 with fail
      rw [← hY6]; clear hY6 hcell hfr
      go_quiet (fail)
      (try go_wp2_with fail)
      go_ret
      refine ⟨by simp, ?_⟩
      unfold mkT mkG mkM mkR mkA
      simp only [isA]
      simp only [Int.reduceEq, Int.reduceLE, decide_true, Bool.and_self, if_true, if_false, HCC.out]
      exact ⟨F4, _, made + 1, HR6a.out.drewN _, by omega, ⟨_, HR6b.out, row_kept HR6c.out (fun k _ => rfl), fun k => Iff.rfl⟩⟩
  | false =>
    have HC4 := keepH (AS.cas HA3.out ad a bb HO.out.ad HO.out.b (by omega) (by omega))
    rw [hc] at HC4
    have HCC := keepH hc
    clear hc
    go_wp2_with fail
    refine HC4.out.mono ?_
    rintro e Y4 ⟨rfl, F4, A4, hk4⟩
    have hpb4 : Y4.heap[pb]? = some (.cells #[.slice (some ⟨bk, off, none⟩) L.length lc, .int .i64 ((at_ : Int) + 1), gv] 49 (0, 0)) := (hk4 pb ((HDD.out pb).2 (.inl rfl))).trans HPB.out
    have hrow4 : Y4.ownsRow 0 30 1 gv got.length (got.map u64V) := row_kept HRW.out (fun k e => hk4 k ((HDD.out k).2 (.inr e)))
    have c2 : Y4.cell? ⟨pb, 2, none⟩ = some gv := cell_of hpb4 2
    have HA4 := keepH A4
    have HPB4 := keepH hpb4
    have HR4 := keepH hrow4
    clear A4 hk4 hpb4 hrow4 b0 b1 b2 b3
    go_wp2_with (at_builtin; refine wpList_append_own_at _ rfl _ _ 31 rfl 0 30 i0 (.int .u64 0) 1 8 Try.underlying31 hi hz0 hz1 hz2 rfl (by decide) _ _ _ rfl (HR4.out.alloc _) ⟨_, 0, none⟩ 1 1 [.int .u64 0] rfl rfl (cells_new _ _ rfl _ _) (by intro u hu; simp at hu; subst hu; rfl) (by unfold maxLen; omega) (by omega) (Nat.zero_le _) ?_; intro v5 w5 r1 r2 r3 r4; have HR := keepH (got_end (r := 0) HA4.out HPB4.out HR4.out HDD.out r1 r2 r4); clear r1 r2 r3 r4; obtain ⟨g5, c5', hv5⟩ := HR.out.sls; obtain ⟨gg, hcell⟩ := HR.out.cell; have hfr := HR.out.free; subst hv5)
    obtain ⟨Y6, hY6⟩ : ∃ Y6, Y6 = w5.setCell ⟨pb, 2, none⟩ (.slice (some ⟨g5, 0, none⟩) (got.length + 1) c5') := ⟨_, rfl⟩
    have HR6a := keepH HR.out.own
    have HR6b := keepH HR.out.blk
    have HR6c := keepH HR.out.row
    rw [← hY6] at HR6a HR6b HR6c
    have v0 : Y6.cell? ⟨pb, 0, none⟩ = some (.slice (some ⟨bk, off, none⟩) L.length lc) := cell_of HR6b.out 0
    have v1 : Y6.cell? ⟨pb, 1, none⟩ = some (.int .i64 ((at_ : Int) + 1)) := cell_of HR6b.out 1
    by_cases hend : L.length ≤ at_ + 1
    · have y1 : (L.length : Int) ≤ (at_ : Int) + 1 := by omega
      have y2 : decide (L.length ≤ at_ + 1) = true := decide_eq_true hend
      go_upto_region 19 with fail
      rw [← hY6]; clear hY6 hcell hfr
      go_quiet (fail)
      (try go_wp2_with fail)
      go_ret
      refine ⟨by simp [hend], ?_⟩
      unfold mkT mkG mkM mkR mkA
      simp only [isA]
      simp only [Int.reduceEq, Int.reduceLE, decide_true, Bool.and_self, if_true, if_false, HCC.out]
      exact ⟨F4, _, made + 1, HR6a.out.drewN _, by omega, ⟨_, HR6b.out, row_kept HR6c.out (fun k _ => rfl), fun k => Iff.rfl⟩⟩
    · have y1 : ¬ (L.length : Int) ≤ (at_ : Int) + 1 := by omega
      have y2 : decide (L.length ≤ at_ + 1) = false := decide_eq_false hend
      go_upto_region 19 with fail
      rw [← hY6]; clear hY6 hcell hfr
      go_quiet (fail)
      (try go_wp2_with fail)
      go_ret
      refine ⟨by simp, ?_⟩
      unfold mkT mkG mkM mkR mkA
      simp only [isA]
      simp only [Int.reduceEq, Int.reduceLE, decide_true, Bool.and_self, if_true, if_false, HCC.out]
      exact ⟨F4, _, made + 1, HR6a.out.drewN _, by omega, ⟨_, HR6b.out, row_kept HR6c.out (fun k _ => rfl), fun k => Iff.rfl⟩⟩
end Go.Proofs.Ytnhiodmigmmfgaa
