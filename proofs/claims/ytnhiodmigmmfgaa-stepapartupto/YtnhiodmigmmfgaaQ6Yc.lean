/- A plan's proc: one step of it: Load, Add, Alloc. -/
import Derived.Test.YtnhiodmigmmfgaaQ5Yb
namespace Go.Proofs.Ytnhiodmigmmfgaa
open Go.RowKit Go.Shelf
set_option linter.unusedVariables false

theorem AS.wide {X X4 : World} {F D : Nat → Prop} {b v most next : Nat} {th : Int} {made : Nat} {cs : List Nat} {t : List Acc} (A : AS X X4 F D F D b v most next th made cs t) {bx : Nat} {o : Obj} (hb : X4.heap[bx]? = some o) (hn : X.heap.size ≤ bx) (hF : ∀ k, F k → k < X.heap.size) (hv : v < X.heap.size) : AS X X4 F D F (fun k => D k ∨ k = bx) b v most next th made cs t :=
  ⟨A.bank, A.view, A.nv, fun k e => e.elim (A.dis k) (fun q => by subst q; exact ⟨fun x => by have := hF k x; omega, by omega, (Array.getElem?_eq_some_iff.1 hb).1⟩), A.chg, A.newF, fun k e => e.elim (A.newD k) (fun q => by subst q; exact .inr hn)⟩
theorem slice_of_row {W : World} {v : Value} {l : List Nat} (h : W.ownsRow 0 30 1 v l.length (l.map u64V)) : ∃ p c, v = .slice p l.length c ∧ Reads W p l ∧ ∀ ad, p = some ad → v.ownBlock = some ad.block := by
  rcases h.2 with ⟨rfl, h0⟩ | ⟨g, cap, cur, rfl, _, hg, h1, h2, h3, h4⟩
  · exact ⟨none, 0, by rw [h0], .inl (List.eq_nil_of_length_eq_zero h0), fun ad e => by cases e⟩
  · refine ⟨some ⟨g, 0, none⟩, cap, rfl, .inr ⟨⟨g, 0, none⟩, rfl, fun j u hj => ?_⟩, fun ad e => by injection e with e; rw [← e]; rfl⟩
    have hl := (List.getElem?_eq_some_iff.1 hj).1
    rw [List.length_map] at hl
    have e : (⟨g, 0, none⟩ : Addr).add j = ⟨g, j, none⟩ := by unfold Addr.add; split <;> simp_all
    rw [e, cell_of hg]
    rw [← h4, List.getElem?_take_of_lt (by omega)] at hj
    simpa using hj
set_option maxRecDepth 100000 in
set_option maxHeartbeats 16000000 in
theorem pl_k1 {X : World} {F D : Nat → Prop} {b v most next : Nat} {th : Int} {made : Nat} {cs : List Nat} {t : List Acc} (A : AS X X F D F D b v most next th made cs t) {B pb lc at_ : Nat} {lp : Option Addr} {L : List DoP} {got : List Nat} (hP : PlAt X D pb lp L.length lc at_ got) (hL : DosAt X B lp L) (hB : B ≤ X.heap.size) (hBD : ∀ k, D k → B ≤ k) (hBF : ∀ k, F k → B ≤ k) (hBv : B ≤ v) {d : DoP} (hd : L[at_]? = some d) (hk : d.kd = 1) (hg : got.length ≤ 1099511627776) (h1 : made < 1099511627776) (h2 : t.length < 1099511627776) (hll : L.length ≤ 1099511627776) :
    Calls Try.prog 64 #[.pointer (some ⟨pb, 0, none⟩), .pointer (some ⟨v, 0, none⟩)] X fun e Y => e = .returned (.bool (decide (L.length ≤ at_ + 1))) ∧ ∃ F' D' made', AS X Y F D F' D' b v most (mkM most ⟨next, cs⟩ d).next th made' (mkM most ⟨next, cs⟩ d).cs (t ++ mkT th most ⟨next, cs⟩ d) ∧ made' ≤ made + 1 ∧ PlAt Y D' pb lp L.length lc (at_ + 1) (got ++ mkG most ⟨next, cs⟩ d) := by
  obtain ⟨i0, hi, hz0, hz1, hz2⟩ := info_parts infoU64y
  obtain ⟨ho, bk, off, vp, vc, rfl, hbk, e0, e1, e2, e3, e4, hr, hp⟩ := hL at_ d hd
  obtain ⟨gv, hpb, hrow, hD⟩ := hP.ex
  have hlt : at_ < L.length := (List.getElem?_eq_some_iff.1 hd).1
  obtain ⟨kd, ad, a, bb, vals⟩ := d
  simp only at hk e0 e1 e2 e3 e4 hr hp
  subst hk
  have HO := keepH ho
  have c0 : X.cell? ⟨pb, 0, none⟩ = some (.slice (some ⟨bk, off, none⟩) L.length lc) := cell_of hpb 0
  have c1 : X.cell? ⟨pb, 1, none⟩ = some (.int .i64 (at_ : Int)) := cell_of hpb 1
  have t1 : (at_ : Int) < (L.length : Int) := by omega
  have t2 : decide (at_ < L.length) = true := decide_eq_true hlt
  go_enter Try.func64, Try.ntmps64
  go_upto_region 1 with fail
  go_quiet (fail)
  obtain ⟨X1, hX1⟩ : ∃ X1, X1 = X.drewN nq := ⟨_, rfl⟩
  rw [← hX1]
  have HL1 : ∀ k : Nat, X1.heap[k]? = X.heap[k]? := fun k => by rw [hX1]; rfl
  have hs1 : X1.heap.size = X.heap.size := by rw [hX1]; rfl
  have q0 : ∀ {w : World}, (∀ k : Nat, k < X.heap.size → w.heap[k]? = X.heap[k]?) → w.cell? ⟨pb, 0, none⟩ = some (.slice (some ⟨bk, off, none⟩) L.length lc) ∧ w.cell? ⟨pb, 1, none⟩ = some (.int .i64 (at_ : Int)) ∧ w.cell? ⟨bk, off + at_ * 5, none⟩ = some (.int .u8 1) ∧ w.cell? ⟨bk, off + at_ * 5 + 1, none⟩ = some (.int .u64 (ad : Int)) ∧ w.cell? ⟨bk, off + at_ * 5 + 2, none⟩ = some (.int .u64 (a : Int)) ∧ w.cell? ⟨bk, off + at_ * 5 + 3, none⟩ = some (.int .u64 (bb : Int)) ∧ w.cell? ⟨bk, off + at_ * 5 + 4, none⟩ = some (.slice vp vals.length vc) := fun h => by
    have lb : bk < X.heap.size := by omega
    have lp : pb < X.heap.size := lt_of hpb
    exact ⟨cell_low h lp c0, cell_low h lp c1, cell_low h lb e0, cell_low h lb e1, cell_low h lb e2, cell_low h lb e3, cell_low h lb e4⟩
  have qa : ∀ (o : Obj) (k : Nat), k < X.heap.size → (X1.alloc o).heap[k]? = X.heap[k]? := fun o k hk => by rw [← HL1 k]; exact Below.heap_alloc _ _ k (by omega)
  obtain ⟨m0, m1, n0, n1, n2, n3, n4⟩ := q0 (fun k _ => HL1 k)
  have k0 : ∀ o, (X1.alloc o).cell? ⟨pb, 0, none⟩ = some (.slice (some ⟨bk, off, none⟩) L.length lc) := fun o => (q0 (qa o)).1
  have k1 : ∀ o, (X1.alloc o).cell? ⟨pb, 1, none⟩ = some (.int .i64 (at_ : Int)) := fun o => (q0 (qa o)).2.1
  have o0 : ∀ o, (X1.alloc o).cell? ⟨bk, off + at_ * 5, none⟩ = some (.int .u8 1) := fun o => (q0 (qa o)).2.2.1
  have o1 : ∀ o, (X1.alloc o).cell? ⟨bk, off + at_ * 5 + 1, none⟩ = some (.int .u64 (ad : Int)) := fun o => (q0 (qa o)).2.2.2.1
  have o2 : ∀ o, (X1.alloc o).cell? ⟨bk, off + at_ * 5 + 2, none⟩ = some (.int .u64 (a : Int)) := fun o => (q0 (qa o)).2.2.2.2.1
  have o3 : ∀ o, (X1.alloc o).cell? ⟨bk, off + at_ * 5 + 3, none⟩ = some (.int .u64 (bb : Int)) := fun o => (q0 (qa o)).2.2.2.2.2.1
  have o4 : ∀ o, (X1.alloc o).cell? ⟨bk, off + at_ * 5 + 4, none⟩ = some (.slice vp vals.length vc) := fun o => (q0 (qa o)).2.2.2.2.2.2
  have HC1 : Hid (Chg (fun _ => False) X X1) := by rw [hX1]; exact drewN_chgY X nq
  clear hX1 q0 qa
  go_upto_region 2 with fail
  go_big_region
  obtain ⟨X2, hX2⟩ : ∃ X2, X2 = (X1.alloc (.cells #[.int .u8 1, .int .u64 (ad : Int), .int .u64 (a : Int), .int .u64 (bb : Int), .slice vp vals.length vc] 33)).drew := ⟨_, rfl⟩
  rw [← hX2]
  have hbx : X2.heap[X.heap.size]? = some (.cells #[.int .u8 1, .int .u64 (ad : Int), .int .u64 (a : Int), .int .u64 (bb : Int), .slice vp vals.length vc] 33 (0, 0)) := by rw [hX2, ← hs1]; exact heap_alloc_new _ _
  have hC2 : Chg (fun _ => False) X X2 := by rw [hX2]; exact (HC1.out.alloc _).drew
  have hpb2 : X2.heap[pb]? = some (.cells #[.slice (some ⟨bk, off, none⟩) L.length lc, .int .i64 (at_ : Int), gv] 49 (0, 0)) := (hC2.block pb (lt_of hpb) (fun x => x)).trans hpb
  have f1 : X2.frozen? ⟨pb, 1, none⟩ = false := free_of hpb2 1
  have g1 : X2.cell? ⟨pb, 1, none⟩ = some (.int .i64 (at_ : Int)) := cell_of hpb2 1
  obtain ⟨X3, hX3⟩ : ∃ X3, X3 = X2.setCell ⟨pb, 1, none⟩ (.int .i64 ((at_ : Int) + 1)) := ⟨_, rfl⟩
  have hpb3 : X3.heap[pb]? = some (.cells #[.slice (some ⟨bk, off, none⟩) L.length lc, .int .i64 ((at_ : Int) + 1), gv] 49 (0, 0)) := by rw [hX3, set_of hpb2 1 _]; rfl
  have hC3 : Chg D X X3 := by rw [hX3]; exact (hC2.mono (fun _ _ x => x.elim)).setCell (fun _ => (hD pb).2 (.inl rfl)) _
  have hbx3 : X3.heap[X.heap.size]? = some (.cells #[.int .u8 1, .int .u64 (ad : Int), .int .u64 (a : Int), .int .u64 (bb : Int), .slice vp vals.length vc] 33 (0, 0)) := by
    have hne : X.heap.size ≠ pb := by have := lt_of hpb; omega
    rw [hX3]
    exact (Below.heap_setCell _ _ _ _ hne).trans hbx
  have hne3 : gv.ownBlock ≠ some pb := fun e => by
    rcases hrow.2 with ⟨rfl, _⟩ | ⟨g, cap, cur, rfl, _, hg, _⟩
    · simp [Value.ownBlock] at e
    · obtain rfl : g = pb := by simpa [Value.ownBlock] using e
      rw [hpb] at hg
      simp at hg
  have hrow3 : X3.ownsRow 0 30 1 gv got.length (got.map u64V) := row_kept hrow (fun k e => by
    have : k ≠ pb := fun q => hne3 (by rw [e, q])
    rw [hX3]
    exact (Below.heap_setCell _ _ _ k this).trans (hC2.block k (row_lt hrow k e) (fun x => x)))
  have HA3 := keepH (A.put hC3)
  have HBX := keepH hbx3
  have HPB := keepH hpb3
  have HRW := keepH hrow3
  have HDD := keepH hD
  have HLT : Hid (∀ k, k < B → X3.heap[k]? = X.heap[k]?) := fun k hk => hC3.block k (by omega) (fun e => by have := hBD k e; omega)
  have HSX : Hid (X.heap.size ≤ X3.heap.size) := hC3.size
  obtain ⟨bx, hbxn⟩ : ∃ bx, bx = X.heap.size := ⟨_, rfl⟩
  have HBN : Hid (X.heap.size ≤ bx) := by show _ ≤ _; omega
  rw [← hbxn] at HBX ⊢
  clear m0 m1 n0 n1 n2 n3 n4 k0 k1 o0 o1 o2 o3 o4 c0 c1 e0 e1 e2 e3 e4 hX2 hbx hC2 hpb2 hpb3 hC3 hbx3 hne3 hrow3 HL1 HC1 hs1 hbxn
  go_upto_region 4 with fail
  rw [← hX3]
  clear hX3 g1 f1
  have b0 : X3.cell? ⟨bx, 0, none⟩ = some (.int .u8 1) := cell_of HBX.out 0
  have hxlt : ∀ k, gv.ownBlock = some k → k < X.heap.size := fun k e => row_lt hrow k e
  have hplt : pb < X.heap.size := lt_of hpb
  have hFlt : ∀ k, F k → k < X.heap.size := fun k e => by obtain ⟨l, hbk, _⟩ := A.bank; exact hbk.ltF k e
  have hvlt : v < X.heap.size := A.view.lt
  obtain ⟨X4, hX4⟩ : ∃ X4, X4 = X3.drew := ⟨_, rfl⟩
  have hbx4 : X4.heap[bx]? = some (.cells #[.int .u8 1, .int .u64 (ad : Int), .int .u64 (a : Int), .int .u64 (bb : Int), .slice vp vals.length vc] 33 (0, 0)) := by rw [hX4]; exact HBX.out
  have hpbx : X4.heap[pb]? = some (.cells #[.slice (some ⟨bk, off, none⟩) L.length lc, .int .i64 ((at_ : Int) + 1), gv] 49 (0, 0)) := by rw [hX4]; exact HPB.out
  have hrwx : X4.ownsRow 0 30 1 gv got.length (got.map u64V) := by rw [hX4]; exact row_kept HRW.out (fun k _ => rfl)
  have hsx : X.heap.size ≤ X4.heap.size := by rw [hX4]; exact HSX.out
  have hlo4 : ∀ k, k < B → X4.heap[k]? = X.heap[k]? := by rw [hX4]; exact HLT.out
  have A4x : AS X X4 F D F D b v most next th made cs t := by rw [hX4]; exact HA3.out.put ((Chg.refl D X3).drew)
  have AW0 : AS X X4 F D F (fun k => D k ∨ k = bx) b v most next th made cs t := AS.wide A4x hbx4 HBN.out hFlt hvlt
  have HAW := keepH AW0
  have HBX4 := keepH hbx4
  have HPBX := keepH hpbx
  have HRWX := keepH hrwx
  have HLO := keepH hlo4
  have HRD := keepH hr
  have HPL := keepH hp
  have gx : X4.cell? ⟨pb, 2, none⟩ = some gv := cell_of hpbx 2
  have HSM : Hid (∀ k, gv.ownBlock = some k → k ≠ bx) := fun k e q => by have := hxlt k e; have := HBN.out; omega
  have HPN : Hid (pb ≠ bx) := by have := HBN.out; show pb ≠ bx; omega
  have HC := keepH (AS.load HAW.out ad HO.out.ad (by omega) (by omega))
  have HFL : Hid ((∀ k, F k → k < X.heap.size) ∧ v < X.heap.size ∧ X.heap.size ≤ X4.heap.size) := ⟨hFlt, hvlt, hsx⟩
  clear AW0 A4x hpbx hrwx hlo4 hsx hxlt hplt hFlt hvlt hr hp
  go_upto_region 6 with fail
  refine wp_region_held_drew (S := fun w => w.cell? ⟨bx, 1, none⟩ = some (.int .u64 (ad : Int))) (by kernel_rfl) (by rw [← hX4]; exact cell_of hbx4 1) ?_
  rw [← hX4]
  clear hX4 b0
  intro hHeld
  refine wpAnyH_take (i := 0) (v := ?_) rfl (by kernel_rfl) (by kernel_rfl) (by kernel_rfl) (fun _ _ _ h => h) (Or.inl ⟨by rfl, ?_⟩) hHeld ?_
  rotate_left
  · intro w hSw
    (try dsimp only at hSw)
    go_simp
    try with_reducible rfl
  (try simp only [Act.put, List.getElem_toArray, List.getElem_cons_zero]); (try simp only [List.setIfInBounds_toArray]); (repeat (first | simp only [List.set_cons_succ] | simp only [List.set_cons_zero]))
  refine wpAnyH_take (i := 1) (v := ?_) rfl (by kernel_rfl) (by kernel_rfl) (by kernel_rfl) (fun _ _ _ h => h) (Or.inl ⟨by rfl, ?_⟩) hHeld ?_
  rotate_left
  · intro w hSw
    (try dsimp only at hSw)
    go_simp
    try with_reducible rfl
  (try simp only [Act.put, List.getElem_toArray, List.getElem_cons_succ, List.getElem_cons_zero]); (try simp only [List.setIfInBounds_toArray]); (repeat (first | simp only [List.set_cons_succ] | simp only [List.set_cons_zero]))
  refine wpAnyH_take (i := 2) (v := ?_) rfl (by kernel_rfl) (by kernel_rfl) (by kernel_rfl) (fun _ _ _ h => h) (Or.inl ⟨by rfl, ?_⟩) hHeld ?_
  rotate_left
  · intro w hSw
    (try dsimp only at hSw)
    go_simp
    try with_reducible rfl
  (try simp only [Act.put, List.getElem_toArray, List.getElem_cons_succ, List.getElem_cons_zero]); (try simp only [List.setIfInBounds_toArray]); (repeat (first | simp only [List.set_cons_succ] | simp only [List.set_cons_zero]))
  refine wpAnyH_take (i := 3) (v := ?_) rfl (by kernel_rfl) (by kernel_rfl) (by kernel_rfl) (fun _ _ _ h => h) (Or.inl ⟨by rfl, ?_⟩) hHeld ?_
  rotate_left
  · intro w hSw
    (try dsimp only at hSw)
    go_simp
    try with_reducible rfl
  (try simp only [Act.put, List.getElem_toArray, List.getElem_cons_succ, List.getElem_cons_zero]); (try simp only [List.setIfInBounds_toArray]); (repeat (first | simp only [List.set_cons_succ] | simp only [List.set_cons_zero]))
  refine wpAnyH_take (i := 5) (v := ?_) rfl (by kernel_rfl) (by kernel_rfl) (by kernel_rfl) (fun _ _ _ h => h) (Or.inl ⟨by rfl, ?_⟩) hHeld ?_
  rotate_left
  · intro w hSw
    (try dsimp only at hSw)
    go_simp
    try with_reducible rfl
  (try simp only [Act.put, List.getElem_toArray, List.getElem_cons_succ, List.getElem_cons_zero]); (try simp only [List.setIfInBounds_toArray]); (repeat (first | simp only [List.set_cons_succ] | simp only [List.set_cons_zero]))
  refine wpAnyH_take (i := 6) (v := ?_) rfl (by kernel_rfl) (by kernel_rfl) (by kernel_rfl) (fun _ _ _ h => h) (Or.inl ⟨by rfl, ?_⟩) hHeld ?_
  rotate_left
  · intro w hSw
    (try dsimp only at hSw)
    go_simp
    try with_reducible rfl
  (try simp only [Act.put, List.getElem_toArray, List.getElem_cons_succ, List.getElem_cons_zero]); (try simp only [List.setIfInBounds_toArray]); (repeat (first | simp only [List.set_cons_succ] | simp only [List.set_cons_zero]))
  refine wpAnyH_take (i := 7) (v := ?_) rfl (by kernel_rfl) (by kernel_rfl) (by kernel_rfl) (fun _ _ _ h => h) (Or.inl ⟨by rfl, ?_⟩) hHeld ?_
  rotate_left
  · intro w hSw
    (try dsimp only at hSw)
    go_simp
    try with_reducible rfl
  (try simp only [Act.put, List.getElem_toArray, List.getElem_cons_succ, List.getElem_cons_zero]); (try simp only [List.setIfInBounds_toArray]); (repeat (first | simp only [List.set_cons_succ] | simp only [List.set_cons_zero]))
  refine wpAnyH_ready (rs := [4, 8]) (by kernel_rfl) (by simp) ?_
  refine (AllReadyH.cons rfl (fun KK hKK => ?_) (AllReadyH.cons rfl (fun KK hKK => ?_) AllReadyH.nil))
  · go_simp
    refine hKK.out _ _ ?_ (fun hHeld => ?_)
    · exact cell_of HBX4.out 1
    clear hKK KK
    (try simp only [Act.put, List.getElem_toArray, List.getElem_cons_succ, List.getElem_cons_zero]); (try simp only [List.setIfInBounds_toArray]); (repeat (first | simp only [List.set_cons_succ] | simp only [List.set_cons_zero]))
    refine wpAnyH_ready (rs := [8]) (by kernel_rfl) (by simp) ?_
    refine (AllReadyH.cons rfl (fun KK hKK => ?_) AllReadyH.nil)
    go_simp
    go_at_call 65
    refine HC.out.mono ?_
    rintro e Y4 ⟨rfl, F4, A4, hk4⟩
    have A4d := A4.less (D' := D) (fun k e => .inl e)
    have hpb4 : Y4.heap[pb]? = some (.cells #[.slice (some ⟨bk, off, none⟩) L.length lc, .int .i64 ((at_ : Int) + 1), gv] 49 (0, 0)) := (hk4 pb (.inl ((HDD.out pb).2 (.inl rfl)))).trans HPBX.out
    have hrow4 : Y4.ownsRow 0 30 1 gv got.length (got.map u64V) := row_kept HRWX.out (fun k e => hk4 k (.inl ((HDD.out k).2 (.inr e))))
    have hbx4 : Y4.heap[bx]? = some (.cells #[.int .u8 1, .int .u64 (ad : Int), .int .u64 (a : Int), .int .u64 (bb : Int), .slice vp vals.length vc] 33 (0, 0)) := (hk4 bx (.inr rfl)).trans HBX4.out
    have gy : Y4.cell? ⟨pb, 2, none⟩ = some gv := cell_of hpb4 2
    have gya : ∀ o, (Y4.alloc o).cell? ⟨pb, 2, none⟩ = some gv := fun o => cell_of ((Below.heap_alloc _ _ pb (lt_of hpb4)).trans hpb4) 2
    have HA4 := keepH A4d
    have HPB4 := keepH hpb4
    have HR4 := keepH hrow4
    have HBY := keepH hbx4
    clear A4 A4d hk4 hpb4 hrow4 hbx4 HC
    (try go_wp2_with fail)
    refine hKK.out _ _ ?_ (fun hHeld => ?_)
    · exact cell_of HBY.out 1
    clear hKK KK
    (try simp only [Act.put, List.getElem_toArray, List.getElem_cons_succ, List.getElem_cons_zero]); (try simp only [List.setIfInBounds_toArray]); (repeat (first | simp only [List.set_cons_succ] | simp only [List.set_cons_zero]))
    refine wpAnyH_ready (rs := [9]) (by kernel_rfl) (by simp) ?_
    refine (AllReadyH.cons rfl (fun KK hKK => ?_) AllReadyH.nil)
    go_simp
    refine hKK.out _ _ ?_ (fun hHeld => ?_)
    · exact cell_of ((Below.heap_alloc _ _ bx (lt_of HBY.out)).trans HBY.out) 1
    clear hKK KK
    (try simp only [Act.put, List.getElem_toArray, List.getElem_cons_succ, List.getElem_cons_zero]); (try simp only [List.setIfInBounds_toArray]); (repeat (first | simp only [List.set_cons_succ] | simp only [List.set_cons_zero]))
    refine wpAnyH_ready (rs := [10]) (by kernel_rfl) (by simp) ?_
    refine (AllReadyH.cons rfl (fun KK hKK => ?_) AllReadyH.nil)
    refine step_append_base rfl (.tmp 42) (.tmp 47) 31 rfl 0 30 i0 (.int .u64 0) 1 8 Try.underlying31 hi hz0 hz1 hz2 rfl (by decide) gv got.length _ rfl (HR4.out.alloc _) ⟨Y4.heap.size, 0, none⟩ 1 1 [.int .u64 ((cellN cs ad : Nat) : Int)] rfl rfl (cells_new _ _ rfl _ _) (by intro u hu; simp at hu; subst hu; rfl) (by unfold maxLen; omega) (by omega) (Nat.zero_le _) ?_
    intro v5 w5 r1 r2 r4
    have HR := keepH (got_end (r := cellN cs ad) HA4.out HPB4.out HR4.out HDD.out r1 r2 r4)
    have hb5 : w5.heap[bx]? = some (.cells #[.int .u8 1, .int .u64 (ad : Int), .int .u64 (a : Int), .int .u64 (bb : Int), .slice vp vals.length vc] 33 (0, 0)) := (r2.block bx (by rw [World.size_alloc]; have := lt_of HBY.out; omega) (fun e => HSM.out bx e.symm rfl)).trans ((Below.heap_alloc _ _ bx (lt_of HBY.out)).trans HBY.out)
    have HB5 := keepH hb5
    clear r1 r2 r4 hb5
    obtain ⟨g5, c5q, hv5⟩ := HR.out.sls
    obtain ⟨gg, hcell⟩ := HR.out.cell
    have hfr := HR.out.free
    subst hv5
    refine hKK.out _ _ ?_ (fun hHeld => ?_)
    · exact cell_of HB5.out 1
    clear hKK KK
    (try simp only [Act.put, List.getElem_toArray, List.getElem_cons_succ, List.getElem_cons_zero]); (try simp only [List.setIfInBounds_toArray]); (repeat (first | simp only [List.set_cons_succ] | simp only [List.set_cons_zero]))
    refine wpAnyH_take (i := 11) (v := ?_) rfl (by kernel_rfl) (by kernel_rfl) (by kernel_rfl) (fun _ _ _ h => h) (Or.inl ⟨by rfl, ?_⟩) hHeld ?_
    rotate_left
    · intro w hSw
      (try dsimp only at hSw)
      go_simp
      try with_reducible rfl
    (try simp only [Act.put, List.getElem_toArray, List.getElem_cons_succ, List.getElem_cons_zero]); (try simp only [List.setIfInBounds_toArray]); (repeat (first | simp only [List.set_cons_succ] | simp only [List.set_cons_zero]))
    refine wpAnyH_take (i := 12) (v := ?_) rfl (by kernel_rfl) (by kernel_rfl) (by kernel_rfl) (fun _ _ _ h => h) (Or.inl ⟨by rfl, ?_⟩) hHeld ?_
    rotate_left
    · intro w hSw
      (try dsimp only at hSw)
      go_simp
      try with_reducible rfl
    (try simp only [Act.put, List.getElem_toArray, List.getElem_cons_succ, List.getElem_cons_zero]); (try simp only [List.setIfInBounds_toArray]); (repeat (first | simp only [List.set_cons_succ] | simp only [List.set_cons_zero]))
    refine wpAnyH_ready (rs := [13]) (by kernel_rfl) (by simp) ?_
    refine (AllReadyH.cons rfl (fun KK hKK => ?_) AllReadyH.nil)
    go_simp
    refine hKK.out _ _ ?_ (fun hHeld => ?_)
    · exact cell_of ((Below.heap_setCell _ _ _ bx (fun q => HPN.out q.symm)).trans HB5.out) 1
    clear hKK KK
    (try simp only [Act.put, List.getElem_toArray, List.getElem_cons_succ, List.getElem_cons_zero]); (try simp only [List.setIfInBounds_toArray]); (repeat (first | simp only [List.set_cons_succ] | simp only [List.set_cons_zero]))
    refine wpAnyH_done (by kernel_rfl) ?_ _
    go_simp
    have HR6a := keepH HR.out.own
    have HR6b := keepH HR.out.blk
    have HR6c := keepH HR.out.row
    obtain ⟨Y6, hY6⟩ : ∃ Y6, Y6 = w5.setCell ⟨pb, 2, none⟩ (.slice (some ⟨g5, 0, none⟩) (got.length + 1) c5q) := ⟨_, rfl⟩
    rw [← hY6] at HR6a HR6b HR6c
    clear hcell hfr
    have v0 : Y6.cell? ⟨pb, 0, none⟩ = some (.slice (some ⟨bk, off, none⟩) L.length lc) := cell_of HR6b.out 0
    have v1 : Y6.cell? ⟨pb, 1, none⟩ = some (.int .i64 ((at_ : Int) + 1)) := cell_of HR6b.out 1
    by_cases hend : L.length ≤ at_ + 1
    · have y1 : (L.length : Int) ≤ (at_ : Int) + 1 := by omega
      have y2 : decide (L.length ≤ at_ + 1) = true := decide_eq_true hend
      go_upto_region 19 with fail
      rw [← hY6]; clear hY6
      go_quiet (fail)
      (try go_wp2_with fail)
      go_ret
      refine ⟨by simp [hend], ?_⟩
      unfold mkT mkG mkM mkR mkA
      simp only [isA]
      simp only [Int.reduceEq, Int.reduceLE, decide_true, Bool.and_self, if_true, if_false]
      exact ⟨F4, _, made + 1, HR6a.out.drewN _, by omega, ⟨_, HR6b.out, row_kept HR6c.out (fun k _ => rfl), fun k => Iff.rfl⟩⟩
    · have y1 : ¬ (L.length : Int) ≤ (at_ : Int) + 1 := by omega
      have y2 : decide (L.length ≤ at_ + 1) = false := decide_eq_false hend
      go_upto_region 19 with fail
      rw [← hY6]; clear hY6
      go_quiet (fail)
      (try go_wp2_with fail)
      go_ret
      refine ⟨by simp, ?_⟩
      unfold mkT mkG mkM mkR mkA
      simp only [isA]
      simp only [Int.reduceEq, Int.reduceLE, decide_true, Bool.and_self, if_true, if_false]
      exact ⟨F4, _, made + 1, HR6a.out.drewN _, by omega, ⟨_, HR6b.out, row_kept HR6c.out (fun k _ => rfl), fun k => Iff.rfl⟩⟩
  · go_simp
    go_at_call 65
    refine HC.out.mono ?_
    rintro e Y4 ⟨rfl, F4, A4, hk4⟩
    have A4d := A4.less (D' := D) (fun k e => .inl e)
    have hpb4 : Y4.heap[pb]? = some (.cells #[.slice (some ⟨bk, off, none⟩) L.length lc, .int .i64 ((at_ : Int) + 1), gv] 49 (0, 0)) := (hk4 pb (.inl ((HDD.out pb).2 (.inl rfl)))).trans HPBX.out
    have hrow4 : Y4.ownsRow 0 30 1 gv got.length (got.map u64V) := row_kept HRWX.out (fun k e => hk4 k (.inl ((HDD.out k).2 (.inr e))))
    have hbx4 : Y4.heap[bx]? = some (.cells #[.int .u8 1, .int .u64 (ad : Int), .int .u64 (a : Int), .int .u64 (bb : Int), .slice vp vals.length vc] 33 (0, 0)) := (hk4 bx (.inr rfl)).trans HBX4.out
    have gy : Y4.cell? ⟨pb, 2, none⟩ = some gv := cell_of hpb4 2
    have gya : ∀ o, (Y4.alloc o).cell? ⟨pb, 2, none⟩ = some gv := fun o => cell_of ((Below.heap_alloc _ _ pb (lt_of hpb4)).trans hpb4) 2
    have HA4 := keepH A4d
    have HPB4 := keepH hpb4
    have HR4 := keepH hrow4
    have HBY := keepH hbx4
    clear A4 A4d hk4 hpb4 hrow4 hbx4 HC
    (try go_wp2_with fail)
    refine hKK.out _ _ ?_ (fun hHeld => ?_)
    · exact cell_of HBY.out 1
    clear hKK KK
    (try simp only [Act.put, List.getElem_toArray, List.getElem_cons_succ, List.getElem_cons_zero]); (try simp only [List.setIfInBounds_toArray]); (repeat (first | simp only [List.set_cons_succ] | simp only [List.set_cons_zero]))
    refine wpAnyH_ready (rs := [4, 9]) (by kernel_rfl) (by simp) ?_
    refine (AllReadyH.cons rfl (fun KK hKK => ?_) (AllReadyH.cons rfl (fun KK hKK => ?_) AllReadyH.nil))
    · go_simp
      refine hKK.out _ _ ?_ (fun hHeld => ?_)
      · exact cell_of HBY.out 1
      clear hKK KK
      (try simp only [Act.put, List.getElem_toArray, List.getElem_cons_succ, List.getElem_cons_zero]); (try simp only [List.setIfInBounds_toArray]); (repeat (first | simp only [List.set_cons_succ] | simp only [List.set_cons_zero]))
      refine wpAnyH_ready (rs := [9]) (by kernel_rfl) (by simp) ?_
      refine (AllReadyH.cons rfl (fun KK hKK => ?_) AllReadyH.nil)
      go_simp
      refine hKK.out _ _ ?_ (fun hHeld => ?_)
      · exact cell_of ((Below.heap_alloc _ _ bx (lt_of HBY.out)).trans HBY.out) 1
      clear hKK KK
      (try simp only [Act.put, List.getElem_toArray, List.getElem_cons_succ, List.getElem_cons_zero]); (try simp only [List.setIfInBounds_toArray]); (repeat (first | simp only [List.set_cons_succ] | simp only [List.set_cons_zero]))
      refine wpAnyH_ready (rs := [10]) (by kernel_rfl) (by simp) ?_
      refine (AllReadyH.cons rfl (fun KK hKK => ?_) AllReadyH.nil)
      refine step_append_base rfl (.tmp 42) (.tmp 47) 31 rfl 0 30 i0 (.int .u64 0) 1 8 Try.underlying31 hi hz0 hz1 hz2 rfl (by decide) gv got.length _ rfl (HR4.out.alloc _) ⟨Y4.heap.size, 0, none⟩ 1 1 [.int .u64 ((cellN cs ad : Nat) : Int)] rfl rfl (cells_new _ _ rfl _ _) (by intro u hu; simp at hu; subst hu; rfl) (by unfold maxLen; omega) (by omega) (Nat.zero_le _) ?_
      intro v5 w5 r1 r2 r4
      have HR := keepH (got_end (r := cellN cs ad) HA4.out HPB4.out HR4.out HDD.out r1 r2 r4)
      have hb5 : w5.heap[bx]? = some (.cells #[.int .u8 1, .int .u64 (ad : Int), .int .u64 (a : Int), .int .u64 (bb : Int), .slice vp vals.length vc] 33 (0, 0)) := (r2.block bx (by rw [World.size_alloc]; have := lt_of HBY.out; omega) (fun e => HSM.out bx e.symm rfl)).trans ((Below.heap_alloc _ _ bx (lt_of HBY.out)).trans HBY.out)
      have HB5 := keepH hb5
      clear r1 r2 r4 hb5
      obtain ⟨g5, c5q, hv5⟩ := HR.out.sls
      obtain ⟨gg, hcell⟩ := HR.out.cell
      have hfr := HR.out.free
      subst hv5
      refine hKK.out _ _ ?_ (fun hHeld => ?_)
      · exact cell_of HB5.out 1
      clear hKK KK
      (try simp only [Act.put, List.getElem_toArray, List.getElem_cons_succ, List.getElem_cons_zero]); (try simp only [List.setIfInBounds_toArray]); (repeat (first | simp only [List.set_cons_succ] | simp only [List.set_cons_zero]))
      refine wpAnyH_take (i := 11) (v := ?_) rfl (by kernel_rfl) (by kernel_rfl) (by kernel_rfl) (fun _ _ _ h => h) (Or.inl ⟨by rfl, ?_⟩) hHeld ?_
      rotate_left
      · intro w hSw
        (try dsimp only at hSw)
        go_simp
        try with_reducible rfl
      (try simp only [Act.put, List.getElem_toArray, List.getElem_cons_succ, List.getElem_cons_zero]); (try simp only [List.setIfInBounds_toArray]); (repeat (first | simp only [List.set_cons_succ] | simp only [List.set_cons_zero]))
      refine wpAnyH_take (i := 12) (v := ?_) rfl (by kernel_rfl) (by kernel_rfl) (by kernel_rfl) (fun _ _ _ h => h) (Or.inl ⟨by rfl, ?_⟩) hHeld ?_
      rotate_left
      · intro w hSw
        (try dsimp only at hSw)
        go_simp
        try with_reducible rfl
      (try simp only [Act.put, List.getElem_toArray, List.getElem_cons_succ, List.getElem_cons_zero]); (try simp only [List.setIfInBounds_toArray]); (repeat (first | simp only [List.set_cons_succ] | simp only [List.set_cons_zero]))
      refine wpAnyH_ready (rs := [13]) (by kernel_rfl) (by simp) ?_
      refine (AllReadyH.cons rfl (fun KK hKK => ?_) AllReadyH.nil)
      go_simp
      refine hKK.out _ _ ?_ (fun hHeld => ?_)
      · exact cell_of ((Below.heap_setCell _ _ _ bx (fun q => HPN.out q.symm)).trans HB5.out) 1
      clear hKK KK
      (try simp only [Act.put, List.getElem_toArray, List.getElem_cons_succ, List.getElem_cons_zero]); (try simp only [List.setIfInBounds_toArray]); (repeat (first | simp only [List.set_cons_succ] | simp only [List.set_cons_zero]))
      refine wpAnyH_done (by kernel_rfl) ?_ _
      go_simp
      have HR6a := keepH HR.out.own
      have HR6b := keepH HR.out.blk
      have HR6c := keepH HR.out.row
      obtain ⟨Y6, hY6⟩ : ∃ Y6, Y6 = w5.setCell ⟨pb, 2, none⟩ (.slice (some ⟨g5, 0, none⟩) (got.length + 1) c5q) := ⟨_, rfl⟩
      rw [← hY6] at HR6a HR6b HR6c
      clear hcell hfr
      have v0 : Y6.cell? ⟨pb, 0, none⟩ = some (.slice (some ⟨bk, off, none⟩) L.length lc) := cell_of HR6b.out 0
      have v1 : Y6.cell? ⟨pb, 1, none⟩ = some (.int .i64 ((at_ : Int) + 1)) := cell_of HR6b.out 1
      by_cases hend : L.length ≤ at_ + 1
      · have y1 : (L.length : Int) ≤ (at_ : Int) + 1 := by omega
        have y2 : decide (L.length ≤ at_ + 1) = true := decide_eq_true hend
        go_upto_region 19 with fail
        rw [← hY6]; clear hY6
        go_quiet (fail)
        (try go_wp2_with fail)
        go_ret
        refine ⟨by simp [hend], ?_⟩
        unfold mkT mkG mkM mkR mkA
        simp only [isA]
        simp only [Int.reduceEq, Int.reduceLE, decide_true, Bool.and_self, if_true, if_false]
        exact ⟨F4, _, made + 1, HR6a.out.drewN _, by omega, ⟨_, HR6b.out, row_kept HR6c.out (fun k _ => rfl), fun k => Iff.rfl⟩⟩
      · have y1 : ¬ (L.length : Int) ≤ (at_ : Int) + 1 := by omega
        have y2 : decide (L.length ≤ at_ + 1) = false := decide_eq_false hend
        go_upto_region 19 with fail
        rw [← hY6]; clear hY6
        go_quiet (fail)
        (try go_wp2_with fail)
        go_ret
        refine ⟨by simp, ?_⟩
        unfold mkT mkG mkM mkR mkA
        simp only [isA]
        simp only [Int.reduceEq, Int.reduceLE, decide_true, Bool.and_self, if_true, if_false]
        exact ⟨F4, _, made + 1, HR6a.out.drewN _, by omega, ⟨_, HR6b.out, row_kept HR6c.out (fun k _ => rfl), fun k => Iff.rfl⟩⟩
    · go_simp
      refine hKK.out _ _ ?_ (fun hHeld => ?_)
      · exact cell_of ((Below.heap_alloc _ _ bx (lt_of HBY.out)).trans HBY.out) 1
      clear hKK KK
      (try simp only [Act.put, List.getElem_toArray, List.getElem_cons_succ, List.getElem_cons_zero]); (try simp only [List.setIfInBounds_toArray]); (repeat (first | simp only [List.set_cons_succ] | simp only [List.set_cons_zero]))
      refine wpAnyH_ready (rs := [4]) (by kernel_rfl) (by simp) ?_
      refine (AllReadyH.cons rfl (fun KK hKK => ?_) AllReadyH.nil)
      go_simp
      refine hKK.out _ _ ?_ (fun hHeld => ?_)
      · exact cell_of ((Below.heap_alloc _ _ bx (lt_of HBY.out)).trans HBY.out) 1
      clear hKK KK
      (try simp only [Act.put, List.getElem_toArray, List.getElem_cons_succ, List.getElem_cons_zero]); (try simp only [List.setIfInBounds_toArray]); (repeat (first | simp only [List.set_cons_succ] | simp only [List.set_cons_zero]))
      refine wpAnyH_ready (rs := [10]) (by kernel_rfl) (by simp) ?_
      refine (AllReadyH.cons rfl (fun KK hKK => ?_) AllReadyH.nil)
      refine step_append_base rfl (.tmp 42) (.tmp 47) 31 rfl 0 30 i0 (.int .u64 0) 1 8 Try.underlying31 hi hz0 hz1 hz2 rfl (by decide) gv got.length _ rfl (HR4.out.alloc _) ⟨Y4.heap.size, 0, none⟩ 1 1 [.int .u64 ((cellN cs ad : Nat) : Int)] rfl rfl (cells_new _ _ rfl _ _) (by intro u hu; simp at hu; subst hu; rfl) (by unfold maxLen; omega) (by omega) (Nat.zero_le _) ?_
      intro v5 w5 r1 r2 r4
      have HR := keepH (got_end (r := cellN cs ad) HA4.out HPB4.out HR4.out HDD.out r1 r2 r4)
      have hb5 : w5.heap[bx]? = some (.cells #[.int .u8 1, .int .u64 (ad : Int), .int .u64 (a : Int), .int .u64 (bb : Int), .slice vp vals.length vc] 33 (0, 0)) := (r2.block bx (by rw [World.size_alloc]; have := lt_of HBY.out; omega) (fun e => HSM.out bx e.symm rfl)).trans ((Below.heap_alloc _ _ bx (lt_of HBY.out)).trans HBY.out)
      have HB5 := keepH hb5
      clear r1 r2 r4 hb5
      obtain ⟨g5, c5q, hv5⟩ := HR.out.sls
      obtain ⟨gg, hcell⟩ := HR.out.cell
      have hfr := HR.out.free
      subst hv5
      refine hKK.out _ _ ?_ (fun hHeld => ?_)
      · exact cell_of HB5.out 1
      clear hKK KK
      (try simp only [Act.put, List.getElem_toArray, List.getElem_cons_succ, List.getElem_cons_zero]); (try simp only [List.setIfInBounds_toArray]); (repeat (first | simp only [List.set_cons_succ] | simp only [List.set_cons_zero]))
      refine wpAnyH_take (i := 11) (v := ?_) rfl (by kernel_rfl) (by kernel_rfl) (by kernel_rfl) (fun _ _ _ h => h) (Or.inl ⟨by rfl, ?_⟩) hHeld ?_
      rotate_left
      · intro w hSw
        (try dsimp only at hSw)
        go_simp
        try with_reducible rfl
      (try simp only [Act.put, List.getElem_toArray, List.getElem_cons_succ, List.getElem_cons_zero]); (try simp only [List.setIfInBounds_toArray]); (repeat (first | simp only [List.set_cons_succ] | simp only [List.set_cons_zero]))
      refine wpAnyH_take (i := 12) (v := ?_) rfl (by kernel_rfl) (by kernel_rfl) (by kernel_rfl) (fun _ _ _ h => h) (Or.inl ⟨by rfl, ?_⟩) hHeld ?_
      rotate_left
      · intro w hSw
        (try dsimp only at hSw)
        go_simp
        try with_reducible rfl
      (try simp only [Act.put, List.getElem_toArray, List.getElem_cons_succ, List.getElem_cons_zero]); (try simp only [List.setIfInBounds_toArray]); (repeat (first | simp only [List.set_cons_succ] | simp only [List.set_cons_zero]))
      refine wpAnyH_ready (rs := [13]) (by kernel_rfl) (by simp) ?_
      refine (AllReadyH.cons rfl (fun KK hKK => ?_) AllReadyH.nil)
      go_simp
      refine hKK.out _ _ ?_ (fun hHeld => ?_)
      · exact cell_of ((Below.heap_setCell _ _ _ bx (fun q => HPN.out q.symm)).trans HB5.out) 1
      clear hKK KK
      (try simp only [Act.put, List.getElem_toArray, List.getElem_cons_succ, List.getElem_cons_zero]); (try simp only [List.setIfInBounds_toArray]); (repeat (first | simp only [List.set_cons_succ] | simp only [List.set_cons_zero]))
      refine wpAnyH_done (by kernel_rfl) ?_ _
      go_simp
      have HR6a := keepH HR.out.own
      have HR6b := keepH HR.out.blk
      have HR6c := keepH HR.out.row
      obtain ⟨Y6, hY6⟩ : ∃ Y6, Y6 = w5.setCell ⟨pb, 2, none⟩ (.slice (some ⟨g5, 0, none⟩) (got.length + 1) c5q) := ⟨_, rfl⟩
      rw [← hY6] at HR6a HR6b HR6c
      clear hcell hfr
      have v0 : Y6.cell? ⟨pb, 0, none⟩ = some (.slice (some ⟨bk, off, none⟩) L.length lc) := cell_of HR6b.out 0
      have v1 : Y6.cell? ⟨pb, 1, none⟩ = some (.int .i64 ((at_ : Int) + 1)) := cell_of HR6b.out 1
      by_cases hend : L.length ≤ at_ + 1
      · have y1 : (L.length : Int) ≤ (at_ : Int) + 1 := by omega
        have y2 : decide (L.length ≤ at_ + 1) = true := decide_eq_true hend
        go_upto_region 19 with fail
        rw [← hY6]; clear hY6
        go_quiet (fail)
        (try go_wp2_with fail)
        go_ret
        refine ⟨by simp [hend], ?_⟩
        unfold mkT mkG mkM mkR mkA
        simp only [isA]
        simp only [Int.reduceEq, Int.reduceLE, decide_true, Bool.and_self, if_true, if_false]
        exact ⟨F4, _, made + 1, HR6a.out.drewN _, by omega, ⟨_, HR6b.out, row_kept HR6c.out (fun k _ => rfl), fun k => Iff.rfl⟩⟩
      · have y1 : ¬ (L.length : Int) ≤ (at_ : Int) + 1 := by omega
        have y2 : decide (L.length ≤ at_ + 1) = false := decide_eq_false hend
        go_upto_region 19 with fail
        rw [← hY6]; clear hY6
        go_quiet (fail)
        (try go_wp2_with fail)
        go_ret
        refine ⟨by simp, ?_⟩
        unfold mkT mkG mkM mkR mkA
        simp only [isA]
        simp only [Int.reduceEq, Int.reduceLE, decide_true, Bool.and_self, if_true, if_false]
        exact ⟨F4, _, made + 1, HR6a.out.drewN _, by omega, ⟨_, HR6b.out, row_kept HR6c.out (fun k _ => rfl), fun k => Iff.rfl⟩⟩
set_option maxRecDepth 100000 in
set_option maxHeartbeats 16000000 in
theorem pl_k4 {X : World} {F D : Nat → Prop} {b v most next : Nat} {th : Int} {made : Nat} {cs : List Nat} {t : List Acc} (A : AS X X F D F D b v most next th made cs t) {B pb lc at_ : Nat} {lp : Option Addr} {L : List DoP} {got : List Nat} (hP : PlAt X D pb lp L.length lc at_ got) (hL : DosAt X B lp L) (hB : B ≤ X.heap.size) (hBD : ∀ k, D k → B ≤ k) (hBF : ∀ k, F k → B ≤ k) (hBv : B ≤ v) {d : DoP} (hd : L[at_]? = some d) (hk : d.kd = 4) (hg : got.length ≤ 1099511627776) (h1 : made < 1099511627776) (h2 : t.length < 1099511627776) (hll : L.length ≤ 1099511627776) :
    Calls Try.prog 64 #[.pointer (some ⟨pb, 0, none⟩), .pointer (some ⟨v, 0, none⟩)] X fun e Y => e = .returned (.bool (decide (L.length ≤ at_ + 1))) ∧ ∃ F' D' made', AS X Y F D F' D' b v most (mkM most ⟨next, cs⟩ d).next th made' (mkM most ⟨next, cs⟩ d).cs (t ++ mkT th most ⟨next, cs⟩ d) ∧ made' ≤ made + 1 ∧ PlAt Y D' pb lp L.length lc (at_ + 1) (got ++ mkG most ⟨next, cs⟩ d) := by
  obtain ⟨i0, hi, hz0, hz1, hz2⟩ := info_parts infoU64y
  obtain ⟨ho, bk, off, vp, vc, rfl, hbk, e0, e1, e2, e3, e4, hr, hp⟩ := hL at_ d hd
  obtain ⟨gv, hpb, hrow, hD⟩ := hP.ex
  have hlt : at_ < L.length := (List.getElem?_eq_some_iff.1 hd).1
  obtain ⟨kd, ad, a, bb, vals⟩ := d
  simp only at hk e0 e1 e2 e3 e4 hr hp
  subst hk
  have HO := keepH ho
  have c0 : X.cell? ⟨pb, 0, none⟩ = some (.slice (some ⟨bk, off, none⟩) L.length lc) := cell_of hpb 0
  have c1 : X.cell? ⟨pb, 1, none⟩ = some (.int .i64 (at_ : Int)) := cell_of hpb 1
  have t1 : (at_ : Int) < (L.length : Int) := by omega
  have t2 : decide (at_ < L.length) = true := decide_eq_true hlt
  go_enter Try.func64, Try.ntmps64
  go_upto_region 1 with fail
  go_quiet (fail)
  obtain ⟨X1, hX1⟩ : ∃ X1, X1 = X.drewN nq := ⟨_, rfl⟩
  rw [← hX1]
  have HL1 : ∀ k : Nat, X1.heap[k]? = X.heap[k]? := fun k => by rw [hX1]; rfl
  have hs1 : X1.heap.size = X.heap.size := by rw [hX1]; rfl
  have q0 : ∀ {w : World}, (∀ k : Nat, k < X.heap.size → w.heap[k]? = X.heap[k]?) → w.cell? ⟨pb, 0, none⟩ = some (.slice (some ⟨bk, off, none⟩) L.length lc) ∧ w.cell? ⟨pb, 1, none⟩ = some (.int .i64 (at_ : Int)) ∧ w.cell? ⟨bk, off + at_ * 5, none⟩ = some (.int .u8 4) ∧ w.cell? ⟨bk, off + at_ * 5 + 1, none⟩ = some (.int .u64 (ad : Int)) ∧ w.cell? ⟨bk, off + at_ * 5 + 2, none⟩ = some (.int .u64 (a : Int)) ∧ w.cell? ⟨bk, off + at_ * 5 + 3, none⟩ = some (.int .u64 (bb : Int)) ∧ w.cell? ⟨bk, off + at_ * 5 + 4, none⟩ = some (.slice vp vals.length vc) := fun h => by
    have lb : bk < X.heap.size := by omega
    have lp : pb < X.heap.size := lt_of hpb
    exact ⟨cell_low h lp c0, cell_low h lp c1, cell_low h lb e0, cell_low h lb e1, cell_low h lb e2, cell_low h lb e3, cell_low h lb e4⟩
  have qa : ∀ (o : Obj) (k : Nat), k < X.heap.size → (X1.alloc o).heap[k]? = X.heap[k]? := fun o k hk => by rw [← HL1 k]; exact Below.heap_alloc _ _ k (by omega)
  obtain ⟨m0, m1, n0, n1, n2, n3, n4⟩ := q0 (fun k _ => HL1 k)
  have k0 : ∀ o, (X1.alloc o).cell? ⟨pb, 0, none⟩ = some (.slice (some ⟨bk, off, none⟩) L.length lc) := fun o => (q0 (qa o)).1
  have k1 : ∀ o, (X1.alloc o).cell? ⟨pb, 1, none⟩ = some (.int .i64 (at_ : Int)) := fun o => (q0 (qa o)).2.1
  have o0 : ∀ o, (X1.alloc o).cell? ⟨bk, off + at_ * 5, none⟩ = some (.int .u8 4) := fun o => (q0 (qa o)).2.2.1
  have o1 : ∀ o, (X1.alloc o).cell? ⟨bk, off + at_ * 5 + 1, none⟩ = some (.int .u64 (ad : Int)) := fun o => (q0 (qa o)).2.2.2.1
  have o2 : ∀ o, (X1.alloc o).cell? ⟨bk, off + at_ * 5 + 2, none⟩ = some (.int .u64 (a : Int)) := fun o => (q0 (qa o)).2.2.2.2.1
  have o3 : ∀ o, (X1.alloc o).cell? ⟨bk, off + at_ * 5 + 3, none⟩ = some (.int .u64 (bb : Int)) := fun o => (q0 (qa o)).2.2.2.2.2.1
  have o4 : ∀ o, (X1.alloc o).cell? ⟨bk, off + at_ * 5 + 4, none⟩ = some (.slice vp vals.length vc) := fun o => (q0 (qa o)).2.2.2.2.2.2
  have HC1 : Hid (Chg (fun _ => False) X X1) := by rw [hX1]; exact drewN_chgY X nq
  clear hX1 q0 qa
  go_upto_region 2 with fail
  go_big_region
  obtain ⟨X2, hX2⟩ : ∃ X2, X2 = (X1.alloc (.cells #[.int .u8 4, .int .u64 (ad : Int), .int .u64 (a : Int), .int .u64 (bb : Int), .slice vp vals.length vc] 33)).drew := ⟨_, rfl⟩
  rw [← hX2]
  have hbx : X2.heap[X.heap.size]? = some (.cells #[.int .u8 4, .int .u64 (ad : Int), .int .u64 (a : Int), .int .u64 (bb : Int), .slice vp vals.length vc] 33 (0, 0)) := by rw [hX2, ← hs1]; exact heap_alloc_new _ _
  have hC2 : Chg (fun _ => False) X X2 := by rw [hX2]; exact (HC1.out.alloc _).drew
  have hpb2 : X2.heap[pb]? = some (.cells #[.slice (some ⟨bk, off, none⟩) L.length lc, .int .i64 (at_ : Int), gv] 49 (0, 0)) := (hC2.block pb (lt_of hpb) (fun x => x)).trans hpb
  have f1 : X2.frozen? ⟨pb, 1, none⟩ = false := free_of hpb2 1
  have g1 : X2.cell? ⟨pb, 1, none⟩ = some (.int .i64 (at_ : Int)) := cell_of hpb2 1
  obtain ⟨X3, hX3⟩ : ∃ X3, X3 = X2.setCell ⟨pb, 1, none⟩ (.int .i64 ((at_ : Int) + 1)) := ⟨_, rfl⟩
  have hpb3 : X3.heap[pb]? = some (.cells #[.slice (some ⟨bk, off, none⟩) L.length lc, .int .i64 ((at_ : Int) + 1), gv] 49 (0, 0)) := by rw [hX3, set_of hpb2 1 _]; rfl
  have hC3 : Chg D X X3 := by rw [hX3]; exact (hC2.mono (fun _ _ x => x.elim)).setCell (fun _ => (hD pb).2 (.inl rfl)) _
  have hbx3 : X3.heap[X.heap.size]? = some (.cells #[.int .u8 4, .int .u64 (ad : Int), .int .u64 (a : Int), .int .u64 (bb : Int), .slice vp vals.length vc] 33 (0, 0)) := by
    have hne : X.heap.size ≠ pb := by have := lt_of hpb; omega
    rw [hX3]
    exact (Below.heap_setCell _ _ _ _ hne).trans hbx
  have hne3 : gv.ownBlock ≠ some pb := fun e => by
    rcases hrow.2 with ⟨rfl, _⟩ | ⟨g, cap, cur, rfl, _, hg, _⟩
    · simp [Value.ownBlock] at e
    · obtain rfl : g = pb := by simpa [Value.ownBlock] using e
      rw [hpb] at hg
      simp at hg
  have hrow3 : X3.ownsRow 0 30 1 gv got.length (got.map u64V) := row_kept hrow (fun k e => by
    have : k ≠ pb := fun q => hne3 (by rw [e, q])
    rw [hX3]
    exact (Below.heap_setCell _ _ _ k this).trans (hC2.block k (row_lt hrow k e) (fun x => x)))
  have HA3 := keepH (A.put hC3)
  have HBX := keepH hbx3
  have HPB := keepH hpb3
  have HRW := keepH hrow3
  have HDD := keepH hD
  have HLT : Hid (∀ k, k < B → X3.heap[k]? = X.heap[k]?) := fun k hk => hC3.block k (by omega) (fun e => by have := hBD k e; omega)
  have HSX : Hid (X.heap.size ≤ X3.heap.size) := hC3.size
  obtain ⟨bx, hbxn⟩ : ∃ bx, bx = X.heap.size := ⟨_, rfl⟩
  have HBN : Hid (X.heap.size ≤ bx) := by show _ ≤ _; omega
  rw [← hbxn] at HBX ⊢
  clear m0 m1 n0 n1 n2 n3 n4 k0 k1 o0 o1 o2 o3 o4 c0 c1 e0 e1 e2 e3 e4 hX2 hbx hC2 hpb2 hpb3 hC3 hbx3 hne3 hrow3 HL1 HC1 hs1 hbxn
  go_upto_region 4 with fail
  rw [← hX3]
  clear hX3 g1 f1
  have b0 : X3.cell? ⟨bx, 0, none⟩ = some (.int .u8 4) := cell_of HBX.out 0
  have hxlt : ∀ k, gv.ownBlock = some k → k < X.heap.size := fun k e => row_lt hrow k e
  have hplt : pb < X.heap.size := lt_of hpb
  have hFlt : ∀ k, F k → k < X.heap.size := fun k e => by obtain ⟨l, hbk, _⟩ := A.bank; exact hbk.ltF k e
  have hvlt : v < X.heap.size := A.view.lt
  obtain ⟨X4, hX4⟩ : ∃ X4, X4 = X3.drew := ⟨_, rfl⟩
  have hbx4 : X4.heap[bx]? = some (.cells #[.int .u8 4, .int .u64 (ad : Int), .int .u64 (a : Int), .int .u64 (bb : Int), .slice vp vals.length vc] 33 (0, 0)) := by rw [hX4]; exact HBX.out
  have hpbx : X4.heap[pb]? = some (.cells #[.slice (some ⟨bk, off, none⟩) L.length lc, .int .i64 ((at_ : Int) + 1), gv] 49 (0, 0)) := by rw [hX4]; exact HPB.out
  have hrwx : X4.ownsRow 0 30 1 gv got.length (got.map u64V) := by rw [hX4]; exact row_kept HRW.out (fun k _ => rfl)
  have hsx : X.heap.size ≤ X4.heap.size := by rw [hX4]; exact HSX.out
  have hlo4 : ∀ k, k < B → X4.heap[k]? = X.heap[k]? := by rw [hX4]; exact HLT.out
  have A4x : AS X X4 F D F D b v most next th made cs t := by rw [hX4]; exact HA3.out.put ((Chg.refl D X3).drew)
  have AW0 : AS X X4 F D F (fun k => D k ∨ k = bx) b v most next th made cs t := AS.wide A4x hbx4 HBN.out hFlt hvlt
  have HAW := keepH AW0
  have HBX4 := keepH hbx4
  have HPBX := keepH hpbx
  have HRWX := keepH hrwx
  have HLO := keepH hlo4
  have HRD := keepH hr
  have HPL := keepH hp
  have gx : X4.cell? ⟨pb, 2, none⟩ = some gv := cell_of hpbx 2
  have HSM : Hid (∀ k, gv.ownBlock = some k → k ≠ bx) := fun k e q => by have := hxlt k e; have := HBN.out; omega
  have HPN : Hid (pb ≠ bx) := by have := HBN.out; show pb ≠ bx; omega
  have HC := keepH (AS.add HAW.out ad a HO.out.ad (by omega) (by omega))
  have HFL : Hid ((∀ k, F k → k < X.heap.size) ∧ v < X.heap.size ∧ X.heap.size ≤ X4.heap.size) := ⟨hFlt, hvlt, hsx⟩
  clear AW0 A4x hpbx hrwx hlo4 hsx hxlt hplt hFlt hvlt hr hp
  go_upto_region 16 with fail
  refine wp_region_held_drew (S := fun w => w.cell? ⟨bx, 1, none⟩ = some (.int .u64 (ad : Int)) ∧ w.cell? ⟨bx, 2, none⟩ = some (.int .u64 (a : Int))) (by kernel_rfl) (by rw [← hX4]; exact ⟨cell_of hbx4 1, cell_of hbx4 2⟩) ?_
  rw [← hX4]
  clear hX4 b0
  intro hHeld
  refine wpAnyH_take (i := 0) (v := ?_) rfl (by kernel_rfl) (by kernel_rfl) (by kernel_rfl) (fun _ _ _ h => h) (Or.inl ⟨by rfl, ?_⟩) hHeld ?_
  rotate_left
  · intro w hSw
    (try dsimp only at hSw)
    go_simp
    try with_reducible rfl
  (try simp only [Act.put, List.getElem_toArray, List.getElem_cons_zero]); (try simp only [List.setIfInBounds_toArray]); (repeat (first | simp only [List.set_cons_succ] | simp only [List.set_cons_zero]))
  refine wpAnyH_take (i := 1) (v := ?_) rfl (by kernel_rfl) (by kernel_rfl) (by kernel_rfl) (fun _ _ _ h => h) (Or.inl ⟨by rfl, ?_⟩) hHeld ?_
  rotate_left
  · intro w hSw
    (try dsimp only at hSw)
    go_simp
    try with_reducible rfl
  (try simp only [Act.put, List.getElem_toArray, List.getElem_cons_succ, List.getElem_cons_zero]); (try simp only [List.setIfInBounds_toArray]); (repeat (first | simp only [List.set_cons_succ] | simp only [List.set_cons_zero]))
  refine wpAnyH_take (i := 2) (v := ?_) rfl (by kernel_rfl) (by kernel_rfl) (by kernel_rfl) (fun _ _ _ h => h) (Or.inl ⟨by rfl, ?_⟩) hHeld ?_
  rotate_left
  · intro w hSw
    (try dsimp only at hSw)
    go_simp
    try with_reducible rfl
  (try simp only [Act.put, List.getElem_toArray, List.getElem_cons_succ, List.getElem_cons_zero]); (try simp only [List.setIfInBounds_toArray]); (repeat (first | simp only [List.set_cons_succ] | simp only [List.set_cons_zero]))
  refine wpAnyH_take (i := 3) (v := ?_) rfl (by kernel_rfl) (by kernel_rfl) (by kernel_rfl) (fun _ _ _ h => h) (Or.inl ⟨by rfl, ?_⟩) hHeld ?_
  rotate_left
  · intro w hSw
    (try dsimp only at hSw)
    go_simp
    try with_reducible rfl
  (try simp only [Act.put, List.getElem_toArray, List.getElem_cons_succ, List.getElem_cons_zero]); (try simp only [List.setIfInBounds_toArray]); (repeat (first | simp only [List.set_cons_succ] | simp only [List.set_cons_zero]))
  refine wpAnyH_take (i := 5) (v := ?_) rfl (by kernel_rfl) (by kernel_rfl) (by kernel_rfl) (fun _ _ _ h => h) (Or.inl ⟨by rfl, ?_⟩) hHeld ?_
  rotate_left
  · intro w hSw
    (try dsimp only at hSw)
    go_simp
    try with_reducible rfl
  (try simp only [Act.put, List.getElem_toArray, List.getElem_cons_succ, List.getElem_cons_zero]); (try simp only [List.setIfInBounds_toArray]); (repeat (first | simp only [List.set_cons_succ] | simp only [List.set_cons_zero]))
  refine wpAnyH_take (i := 6) (v := ?_) rfl (by kernel_rfl) (by kernel_rfl) (by kernel_rfl) (fun _ _ _ h => h) (Or.inl ⟨by rfl, ?_⟩) hHeld ?_
  rotate_left
  · intro w hSw
    (try dsimp only at hSw)
    go_simp
    try with_reducible rfl
  (try simp only [Act.put, List.getElem_toArray, List.getElem_cons_succ, List.getElem_cons_zero]); (try simp only [List.setIfInBounds_toArray]); (repeat (first | simp only [List.set_cons_succ] | simp only [List.set_cons_zero]))
  refine wpAnyH_take (i := 7) (v := ?_) rfl (by kernel_rfl) (by kernel_rfl) (by kernel_rfl) (fun _ _ _ h => h) (Or.inl ⟨by rfl, ?_⟩) hHeld ?_
  rotate_left
  · intro w hSw
    (try dsimp only at hSw)
    go_simp
    try with_reducible rfl
  (try simp only [Act.put, List.getElem_toArray, List.getElem_cons_succ, List.getElem_cons_zero]); (try simp only [List.setIfInBounds_toArray]); (repeat (first | simp only [List.set_cons_succ] | simp only [List.set_cons_zero]))
  refine wpAnyH_take (i := 8) (v := ?_) rfl (by kernel_rfl) (by kernel_rfl) (by kernel_rfl) (fun _ _ _ h => h) (Or.inl ⟨by rfl, ?_⟩) hHeld ?_
  rotate_left
  · intro w hSw
    (try dsimp only at hSw)
    go_simp
    try with_reducible rfl
  (try simp only [Act.put, List.getElem_toArray, List.getElem_cons_succ, List.getElem_cons_zero]); (try simp only [List.setIfInBounds_toArray]); (repeat (first | simp only [List.set_cons_succ] | simp only [List.set_cons_zero]))
  refine wpAnyH_take (i := 9) (v := ?_) rfl (by kernel_rfl) (by kernel_rfl) (by kernel_rfl) (fun _ _ _ h => h) (Or.inl ⟨by rfl, ?_⟩) hHeld ?_
  rotate_left
  · intro w hSw
    (try dsimp only at hSw)
    go_simp
    try with_reducible rfl
  (try simp only [Act.put, List.getElem_toArray, List.getElem_cons_succ, List.getElem_cons_zero]); (try simp only [List.setIfInBounds_toArray]); (repeat (first | simp only [List.set_cons_succ] | simp only [List.set_cons_zero]))
  refine wpAnyH_ready (rs := [4, 10]) (by kernel_rfl) (by simp) ?_
  refine (AllReadyH.cons rfl (fun KK hKK => ?_) (AllReadyH.cons rfl (fun KK hKK => ?_) AllReadyH.nil))
  · go_simp
    refine hKK.out _ _ ?_ (fun hHeld => ?_)
    · exact ⟨cell_of HBX4.out 1, cell_of HBX4.out 2⟩
    clear hKK KK
    (try simp only [Act.put, List.getElem_toArray, List.getElem_cons_succ, List.getElem_cons_zero]); (try simp only [List.setIfInBounds_toArray]); (repeat (first | simp only [List.set_cons_succ] | simp only [List.set_cons_zero]))
    refine wpAnyH_ready (rs := [10]) (by kernel_rfl) (by simp) ?_
    refine (AllReadyH.cons rfl (fun KK hKK => ?_) AllReadyH.nil)
    go_simp
    go_at_call 67
    refine HC.out.mono ?_
    rintro e Y4 ⟨rfl, F4, A4, hk4⟩
    have A4d := A4.less (D' := D) (fun k e => .inl e)
    have hpb4 : Y4.heap[pb]? = some (.cells #[.slice (some ⟨bk, off, none⟩) L.length lc, .int .i64 ((at_ : Int) + 1), gv] 49 (0, 0)) := (hk4 pb (.inl ((HDD.out pb).2 (.inl rfl)))).trans HPBX.out
    have hrow4 : Y4.ownsRow 0 30 1 gv got.length (got.map u64V) := row_kept HRWX.out (fun k e => hk4 k (.inl ((HDD.out k).2 (.inr e))))
    have hbx4 : Y4.heap[bx]? = some (.cells #[.int .u8 4, .int .u64 (ad : Int), .int .u64 (a : Int), .int .u64 (bb : Int), .slice vp vals.length vc] 33 (0, 0)) := (hk4 bx (.inr rfl)).trans HBX4.out
    have gy : Y4.cell? ⟨pb, 2, none⟩ = some gv := cell_of hpb4 2
    have gya : ∀ o, (Y4.alloc o).cell? ⟨pb, 2, none⟩ = some gv := fun o => cell_of ((Below.heap_alloc _ _ pb (lt_of hpb4)).trans hpb4) 2
    have HA4 := keepH A4d
    have HPB4 := keepH hpb4
    have HR4 := keepH hrow4
    have HBY := keepH hbx4
    clear A4 A4d hk4 hpb4 hrow4 hbx4 HC
    (try go_wp2_with fail)
    refine hKK.out _ _ ?_ (fun hHeld => ?_)
    · exact ⟨cell_of HBY.out 1, cell_of HBY.out 2⟩
    clear hKK KK
    (try simp only [Act.put, List.getElem_toArray, List.getElem_cons_succ, List.getElem_cons_zero]); (try simp only [List.setIfInBounds_toArray]); (repeat (first | simp only [List.set_cons_succ] | simp only [List.set_cons_zero]))
    refine wpAnyH_ready (rs := [11]) (by kernel_rfl) (by simp) ?_
    refine (AllReadyH.cons rfl (fun KK hKK => ?_) AllReadyH.nil)
    go_simp
    refine hKK.out _ _ ?_ (fun hHeld => ?_)
    · exact ⟨cell_of ((Below.heap_alloc _ _ bx (lt_of HBY.out)).trans HBY.out) 1, cell_of ((Below.heap_alloc _ _ bx (lt_of HBY.out)).trans HBY.out) 2⟩
    clear hKK KK
    (try simp only [Act.put, List.getElem_toArray, List.getElem_cons_succ, List.getElem_cons_zero]); (try simp only [List.setIfInBounds_toArray]); (repeat (first | simp only [List.set_cons_succ] | simp only [List.set_cons_zero]))
    refine wpAnyH_ready (rs := [12]) (by kernel_rfl) (by simp) ?_
    refine (AllReadyH.cons rfl (fun KK hKK => ?_) AllReadyH.nil)
    refine step_append_base rfl (.tmp 94) (.tmp 101) 31 rfl 0 30 i0 (.int .u64 0) 1 8 Try.underlying31 hi hz0 hz1 hz2 rfl (by decide) gv got.length _ rfl (HR4.out.alloc _) ⟨Y4.heap.size, 0, none⟩ 1 1 [.int .u64 ((cellN cs ad : Nat) : Int)] rfl rfl (cells_new _ _ rfl _ _) (by intro u hu; simp at hu; subst hu; rfl) (by unfold maxLen; omega) (by omega) (Nat.zero_le _) ?_
    intro v5 w5 r1 r2 r4
    have HR := keepH (got_end (r := cellN cs ad) HA4.out HPB4.out HR4.out HDD.out r1 r2 r4)
    have hb5 : w5.heap[bx]? = some (.cells #[.int .u8 4, .int .u64 (ad : Int), .int .u64 (a : Int), .int .u64 (bb : Int), .slice vp vals.length vc] 33 (0, 0)) := (r2.block bx (by rw [World.size_alloc]; have := lt_of HBY.out; omega) (fun e => HSM.out bx e.symm rfl)).trans ((Below.heap_alloc _ _ bx (lt_of HBY.out)).trans HBY.out)
    have HB5 := keepH hb5
    clear r1 r2 r4 hb5
    obtain ⟨g5, c5q, hv5⟩ := HR.out.sls
    obtain ⟨gg, hcell⟩ := HR.out.cell
    have hfr := HR.out.free
    subst hv5
    refine hKK.out _ _ ?_ (fun hHeld => ?_)
    · exact ⟨cell_of HB5.out 1, cell_of HB5.out 2⟩
    clear hKK KK
    (try simp only [Act.put, List.getElem_toArray, List.getElem_cons_succ, List.getElem_cons_zero]); (try simp only [List.setIfInBounds_toArray]); (repeat (first | simp only [List.set_cons_succ] | simp only [List.set_cons_zero]))
    refine wpAnyH_take (i := 13) (v := ?_) rfl (by kernel_rfl) (by kernel_rfl) (by kernel_rfl) (fun _ _ _ h => h) (Or.inl ⟨by rfl, ?_⟩) hHeld ?_
    rotate_left
    · intro w hSw
      (try dsimp only at hSw)
      go_simp
      try with_reducible rfl
    (try simp only [Act.put, List.getElem_toArray, List.getElem_cons_succ, List.getElem_cons_zero]); (try simp only [List.setIfInBounds_toArray]); (repeat (first | simp only [List.set_cons_succ] | simp only [List.set_cons_zero]))
    refine wpAnyH_take (i := 14) (v := ?_) rfl (by kernel_rfl) (by kernel_rfl) (by kernel_rfl) (fun _ _ _ h => h) (Or.inl ⟨by rfl, ?_⟩) hHeld ?_
    rotate_left
    · intro w hSw
      (try dsimp only at hSw)
      go_simp
      try with_reducible rfl
    (try simp only [Act.put, List.getElem_toArray, List.getElem_cons_succ, List.getElem_cons_zero]); (try simp only [List.setIfInBounds_toArray]); (repeat (first | simp only [List.set_cons_succ] | simp only [List.set_cons_zero]))
    refine wpAnyH_ready (rs := [15]) (by kernel_rfl) (by simp) ?_
    refine (AllReadyH.cons rfl (fun KK hKK => ?_) AllReadyH.nil)
    go_simp
    refine hKK.out _ _ ?_ (fun hHeld => ?_)
    · exact ⟨cell_of ((Below.heap_setCell _ _ _ bx (fun q => HPN.out q.symm)).trans HB5.out) 1, cell_of ((Below.heap_setCell _ _ _ bx (fun q => HPN.out q.symm)).trans HB5.out) 2⟩
    clear hKK KK
    (try simp only [Act.put, List.getElem_toArray, List.getElem_cons_succ, List.getElem_cons_zero]); (try simp only [List.setIfInBounds_toArray]); (repeat (first | simp only [List.set_cons_succ] | simp only [List.set_cons_zero]))
    refine wpAnyH_done (by kernel_rfl) ?_ _
    go_simp
    have HR6a := keepH HR.out.own
    have HR6b := keepH HR.out.blk
    have HR6c := keepH HR.out.row
    obtain ⟨Y6, hY6⟩ : ∃ Y6, Y6 = w5.setCell ⟨pb, 2, none⟩ (.slice (some ⟨g5, 0, none⟩) (got.length + 1) c5q) := ⟨_, rfl⟩
    rw [← hY6] at HR6a HR6b HR6c
    clear hcell hfr
    have v0 : Y6.cell? ⟨pb, 0, none⟩ = some (.slice (some ⟨bk, off, none⟩) L.length lc) := cell_of HR6b.out 0
    have v1 : Y6.cell? ⟨pb, 1, none⟩ = some (.int .i64 ((at_ : Int) + 1)) := cell_of HR6b.out 1
    by_cases hend : L.length ≤ at_ + 1
    · have y1 : (L.length : Int) ≤ (at_ : Int) + 1 := by omega
      have y2 : decide (L.length ≤ at_ + 1) = true := decide_eq_true hend
      go_upto_region 19 with fail
      rw [← hY6]; clear hY6
      go_quiet (fail)
      (try go_wp2_with fail)
      go_ret
      refine ⟨by simp [hend], ?_⟩
      unfold mkT mkG mkM mkR mkA
      simp only [isA]
      simp only [Int.reduceEq, Int.reduceLE, decide_true, Bool.and_self, if_true, if_false]
      exact ⟨F4, _, made + 1, HR6a.out.drewN _, by omega, ⟨_, HR6b.out, row_kept HR6c.out (fun k _ => rfl), fun k => Iff.rfl⟩⟩
    · have y1 : ¬ (L.length : Int) ≤ (at_ : Int) + 1 := by omega
      have y2 : decide (L.length ≤ at_ + 1) = false := decide_eq_false hend
      go_upto_region 19 with fail
      rw [← hY6]; clear hY6
      go_quiet (fail)
      (try go_wp2_with fail)
      go_ret
      refine ⟨by simp, ?_⟩
      unfold mkT mkG mkM mkR mkA
      simp only [isA]
      simp only [Int.reduceEq, Int.reduceLE, decide_true, Bool.and_self, if_true, if_false]
      exact ⟨F4, _, made + 1, HR6a.out.drewN _, by omega, ⟨_, HR6b.out, row_kept HR6c.out (fun k _ => rfl), fun k => Iff.rfl⟩⟩
  · go_simp
    go_at_call 67
    refine HC.out.mono ?_
    rintro e Y4 ⟨rfl, F4, A4, hk4⟩
    have A4d := A4.less (D' := D) (fun k e => .inl e)
    have hpb4 : Y4.heap[pb]? = some (.cells #[.slice (some ⟨bk, off, none⟩) L.length lc, .int .i64 ((at_ : Int) + 1), gv] 49 (0, 0)) := (hk4 pb (.inl ((HDD.out pb).2 (.inl rfl)))).trans HPBX.out
    have hrow4 : Y4.ownsRow 0 30 1 gv got.length (got.map u64V) := row_kept HRWX.out (fun k e => hk4 k (.inl ((HDD.out k).2 (.inr e))))
    have hbx4 : Y4.heap[bx]? = some (.cells #[.int .u8 4, .int .u64 (ad : Int), .int .u64 (a : Int), .int .u64 (bb : Int), .slice vp vals.length vc] 33 (0, 0)) := (hk4 bx (.inr rfl)).trans HBX4.out
    have gy : Y4.cell? ⟨pb, 2, none⟩ = some gv := cell_of hpb4 2
    have gya : ∀ o, (Y4.alloc o).cell? ⟨pb, 2, none⟩ = some gv := fun o => cell_of ((Below.heap_alloc _ _ pb (lt_of hpb4)).trans hpb4) 2
    have HA4 := keepH A4d
    have HPB4 := keepH hpb4
    have HR4 := keepH hrow4
    have HBY := keepH hbx4
    clear A4 A4d hk4 hpb4 hrow4 hbx4 HC
    (try go_wp2_with fail)
    refine hKK.out _ _ ?_ (fun hHeld => ?_)
    · exact ⟨cell_of HBY.out 1, cell_of HBY.out 2⟩
    clear hKK KK
    (try simp only [Act.put, List.getElem_toArray, List.getElem_cons_succ, List.getElem_cons_zero]); (try simp only [List.setIfInBounds_toArray]); (repeat (first | simp only [List.set_cons_succ] | simp only [List.set_cons_zero]))
    refine wpAnyH_ready (rs := [4, 11]) (by kernel_rfl) (by simp) ?_
    refine (AllReadyH.cons rfl (fun KK hKK => ?_) (AllReadyH.cons rfl (fun KK hKK => ?_) AllReadyH.nil))
    · go_simp
      refine hKK.out _ _ ?_ (fun hHeld => ?_)
      · exact ⟨cell_of HBY.out 1, cell_of HBY.out 2⟩
      clear hKK KK
      (try simp only [Act.put, List.getElem_toArray, List.getElem_cons_succ, List.getElem_cons_zero]); (try simp only [List.setIfInBounds_toArray]); (repeat (first | simp only [List.set_cons_succ] | simp only [List.set_cons_zero]))
      refine wpAnyH_ready (rs := [11]) (by kernel_rfl) (by simp) ?_
      refine (AllReadyH.cons rfl (fun KK hKK => ?_) AllReadyH.nil)
      go_simp
      refine hKK.out _ _ ?_ (fun hHeld => ?_)
      · exact ⟨cell_of ((Below.heap_alloc _ _ bx (lt_of HBY.out)).trans HBY.out) 1, cell_of ((Below.heap_alloc _ _ bx (lt_of HBY.out)).trans HBY.out) 2⟩
      clear hKK KK
      (try simp only [Act.put, List.getElem_toArray, List.getElem_cons_succ, List.getElem_cons_zero]); (try simp only [List.setIfInBounds_toArray]); (repeat (first | simp only [List.set_cons_succ] | simp only [List.set_cons_zero]))
      refine wpAnyH_ready (rs := [12]) (by kernel_rfl) (by simp) ?_
      refine (AllReadyH.cons rfl (fun KK hKK => ?_) AllReadyH.nil)
      refine step_append_base rfl (.tmp 94) (.tmp 101) 31 rfl 0 30 i0 (.int .u64 0) 1 8 Try.underlying31 hi hz0 hz1 hz2 rfl (by decide) gv got.length _ rfl (HR4.out.alloc _) ⟨Y4.heap.size, 0, none⟩ 1 1 [.int .u64 ((cellN cs ad : Nat) : Int)] rfl rfl (cells_new _ _ rfl _ _) (by intro u hu; simp at hu; subst hu; rfl) (by unfold maxLen; omega) (by omega) (Nat.zero_le _) ?_
      intro v5 w5 r1 r2 r4
      have HR := keepH (got_end (r := cellN cs ad) HA4.out HPB4.out HR4.out HDD.out r1 r2 r4)
      have hb5 : w5.heap[bx]? = some (.cells #[.int .u8 4, .int .u64 (ad : Int), .int .u64 (a : Int), .int .u64 (bb : Int), .slice vp vals.length vc] 33 (0, 0)) := (r2.block bx (by rw [World.size_alloc]; have := lt_of HBY.out; omega) (fun e => HSM.out bx e.symm rfl)).trans ((Below.heap_alloc _ _ bx (lt_of HBY.out)).trans HBY.out)
      have HB5 := keepH hb5
      clear r1 r2 r4 hb5
      obtain ⟨g5, c5q, hv5⟩ := HR.out.sls
      obtain ⟨gg, hcell⟩ := HR.out.cell
      have hfr := HR.out.free
      subst hv5
      refine hKK.out _ _ ?_ (fun hHeld => ?_)
      · exact ⟨cell_of HB5.out 1, cell_of HB5.out 2⟩
      clear hKK KK
      (try simp only [Act.put, List.getElem_toArray, List.getElem_cons_succ, List.getElem_cons_zero]); (try simp only [List.setIfInBounds_toArray]); (repeat (first | simp only [List.set_cons_succ] | simp only [List.set_cons_zero]))
      refine wpAnyH_take (i := 13) (v := ?_) rfl (by kernel_rfl) (by kernel_rfl) (by kernel_rfl) (fun _ _ _ h => h) (Or.inl ⟨by rfl, ?_⟩) hHeld ?_
      rotate_left
      · intro w hSw
        (try dsimp only at hSw)
        go_simp
        try with_reducible rfl
      (try simp only [Act.put, List.getElem_toArray, List.getElem_cons_succ, List.getElem_cons_zero]); (try simp only [List.setIfInBounds_toArray]); (repeat (first | simp only [List.set_cons_succ] | simp only [List.set_cons_zero]))
      refine wpAnyH_take (i := 14) (v := ?_) rfl (by kernel_rfl) (by kernel_rfl) (by kernel_rfl) (fun _ _ _ h => h) (Or.inl ⟨by rfl, ?_⟩) hHeld ?_
      rotate_left
      · intro w hSw
        (try dsimp only at hSw)
        go_simp
        try with_reducible rfl
      (try simp only [Act.put, List.getElem_toArray, List.getElem_cons_succ, List.getElem_cons_zero]); (try simp only [List.setIfInBounds_toArray]); (repeat (first | simp only [List.set_cons_succ] | simp only [List.set_cons_zero]))
      refine wpAnyH_ready (rs := [15]) (by kernel_rfl) (by simp) ?_
      refine (AllReadyH.cons rfl (fun KK hKK => ?_) AllReadyH.nil)
      go_simp
      refine hKK.out _ _ ?_ (fun hHeld => ?_)
      · exact ⟨cell_of ((Below.heap_setCell _ _ _ bx (fun q => HPN.out q.symm)).trans HB5.out) 1, cell_of ((Below.heap_setCell _ _ _ bx (fun q => HPN.out q.symm)).trans HB5.out) 2⟩
      clear hKK KK
      (try simp only [Act.put, List.getElem_toArray, List.getElem_cons_succ, List.getElem_cons_zero]); (try simp only [List.setIfInBounds_toArray]); (repeat (first | simp only [List.set_cons_succ] | simp only [List.set_cons_zero]))
      refine wpAnyH_done (by kernel_rfl) ?_ _
      go_simp
      have HR6a := keepH HR.out.own
      have HR6b := keepH HR.out.blk
      have HR6c := keepH HR.out.row
      obtain ⟨Y6, hY6⟩ : ∃ Y6, Y6 = w5.setCell ⟨pb, 2, none⟩ (.slice (some ⟨g5, 0, none⟩) (got.length + 1) c5q) := ⟨_, rfl⟩
      rw [← hY6] at HR6a HR6b HR6c
      clear hcell hfr
      have v0 : Y6.cell? ⟨pb, 0, none⟩ = some (.slice (some ⟨bk, off, none⟩) L.length lc) := cell_of HR6b.out 0
      have v1 : Y6.cell? ⟨pb, 1, none⟩ = some (.int .i64 ((at_ : Int) + 1)) := cell_of HR6b.out 1
      by_cases hend : L.length ≤ at_ + 1
      · have y1 : (L.length : Int) ≤ (at_ : Int) + 1 := by omega
        have y2 : decide (L.length ≤ at_ + 1) = true := decide_eq_true hend
        go_upto_region 19 with fail
        rw [← hY6]; clear hY6
        go_quiet (fail)
        (try go_wp2_with fail)
        go_ret
        refine ⟨by simp [hend], ?_⟩
        unfold mkT mkG mkM mkR mkA
        simp only [isA]
        simp only [Int.reduceEq, Int.reduceLE, decide_true, Bool.and_self, if_true, if_false]
        exact ⟨F4, _, made + 1, HR6a.out.drewN _, by omega, ⟨_, HR6b.out, row_kept HR6c.out (fun k _ => rfl), fun k => Iff.rfl⟩⟩
      · have y1 : ¬ (L.length : Int) ≤ (at_ : Int) + 1 := by omega
        have y2 : decide (L.length ≤ at_ + 1) = false := decide_eq_false hend
        go_upto_region 19 with fail
        rw [← hY6]; clear hY6
        go_quiet (fail)
        (try go_wp2_with fail)
        go_ret
        refine ⟨by simp, ?_⟩
        unfold mkT mkG mkM mkR mkA
        simp only [isA]
        simp only [Int.reduceEq, Int.reduceLE, decide_true, Bool.and_self, if_true, if_false]
        exact ⟨F4, _, made + 1, HR6a.out.drewN _, by omega, ⟨_, HR6b.out, row_kept HR6c.out (fun k _ => rfl), fun k => Iff.rfl⟩⟩
    · go_simp
      refine hKK.out _ _ ?_ (fun hHeld => ?_)
      · exact ⟨cell_of ((Below.heap_alloc _ _ bx (lt_of HBY.out)).trans HBY.out) 1, cell_of ((Below.heap_alloc _ _ bx (lt_of HBY.out)).trans HBY.out) 2⟩
      clear hKK KK
      (try simp only [Act.put, List.getElem_toArray, List.getElem_cons_succ, List.getElem_cons_zero]); (try simp only [List.setIfInBounds_toArray]); (repeat (first | simp only [List.set_cons_succ] | simp only [List.set_cons_zero]))
      refine wpAnyH_ready (rs := [4]) (by kernel_rfl) (by simp) ?_
      refine (AllReadyH.cons rfl (fun KK hKK => ?_) AllReadyH.nil)
      go_simp
      refine hKK.out _ _ ?_ (fun hHeld => ?_)
      · exact ⟨cell_of ((Below.heap_alloc _ _ bx (lt_of HBY.out)).trans HBY.out) 1, cell_of ((Below.heap_alloc _ _ bx (lt_of HBY.out)).trans HBY.out) 2⟩
      clear hKK KK
      (try simp only [Act.put, List.getElem_toArray, List.getElem_cons_succ, List.getElem_cons_zero]); (try simp only [List.setIfInBounds_toArray]); (repeat (first | simp only [List.set_cons_succ] | simp only [List.set_cons_zero]))
      refine wpAnyH_ready (rs := [12]) (by kernel_rfl) (by simp) ?_
      refine (AllReadyH.cons rfl (fun KK hKK => ?_) AllReadyH.nil)
      refine step_append_base rfl (.tmp 94) (.tmp 101) 31 rfl 0 30 i0 (.int .u64 0) 1 8 Try.underlying31 hi hz0 hz1 hz2 rfl (by decide) gv got.length _ rfl (HR4.out.alloc _) ⟨Y4.heap.size, 0, none⟩ 1 1 [.int .u64 ((cellN cs ad : Nat) : Int)] rfl rfl (cells_new _ _ rfl _ _) (by intro u hu; simp at hu; subst hu; rfl) (by unfold maxLen; omega) (by omega) (Nat.zero_le _) ?_
      intro v5 w5 r1 r2 r4
      have HR := keepH (got_end (r := cellN cs ad) HA4.out HPB4.out HR4.out HDD.out r1 r2 r4)
      have hb5 : w5.heap[bx]? = some (.cells #[.int .u8 4, .int .u64 (ad : Int), .int .u64 (a : Int), .int .u64 (bb : Int), .slice vp vals.length vc] 33 (0, 0)) := (r2.block bx (by rw [World.size_alloc]; have := lt_of HBY.out; omega) (fun e => HSM.out bx e.symm rfl)).trans ((Below.heap_alloc _ _ bx (lt_of HBY.out)).trans HBY.out)
      have HB5 := keepH hb5
      clear r1 r2 r4 hb5
      obtain ⟨g5, c5q, hv5⟩ := HR.out.sls
      obtain ⟨gg, hcell⟩ := HR.out.cell
      have hfr := HR.out.free
      subst hv5
      refine hKK.out _ _ ?_ (fun hHeld => ?_)
      · exact ⟨cell_of HB5.out 1, cell_of HB5.out 2⟩
      clear hKK KK
      (try simp only [Act.put, List.getElem_toArray, List.getElem_cons_succ, List.getElem_cons_zero]); (try simp only [List.setIfInBounds_toArray]); (repeat (first | simp only [List.set_cons_succ] | simp only [List.set_cons_zero]))
      refine wpAnyH_take (i := 13) (v := ?_) rfl (by kernel_rfl) (by kernel_rfl) (by kernel_rfl) (fun _ _ _ h => h) (Or.inl ⟨by rfl, ?_⟩) hHeld ?_
      rotate_left
      · intro w hSw
        (try dsimp only at hSw)
        go_simp
        try with_reducible rfl
      (try simp only [Act.put, List.getElem_toArray, List.getElem_cons_succ, List.getElem_cons_zero]); (try simp only [List.setIfInBounds_toArray]); (repeat (first | simp only [List.set_cons_succ] | simp only [List.set_cons_zero]))
      refine wpAnyH_take (i := 14) (v := ?_) rfl (by kernel_rfl) (by kernel_rfl) (by kernel_rfl) (fun _ _ _ h => h) (Or.inl ⟨by rfl, ?_⟩) hHeld ?_
      rotate_left
      · intro w hSw
        (try dsimp only at hSw)
        go_simp
        try with_reducible rfl
      (try simp only [Act.put, List.getElem_toArray, List.getElem_cons_succ, List.getElem_cons_zero]); (try simp only [List.setIfInBounds_toArray]); (repeat (first | simp only [List.set_cons_succ] | simp only [List.set_cons_zero]))
      refine wpAnyH_ready (rs := [15]) (by kernel_rfl) (by simp) ?_
      refine (AllReadyH.cons rfl (fun KK hKK => ?_) AllReadyH.nil)
      go_simp
      refine hKK.out _ _ ?_ (fun hHeld => ?_)
      · exact ⟨cell_of ((Below.heap_setCell _ _ _ bx (fun q => HPN.out q.symm)).trans HB5.out) 1, cell_of ((Below.heap_setCell _ _ _ bx (fun q => HPN.out q.symm)).trans HB5.out) 2⟩
      clear hKK KK
      (try simp only [Act.put, List.getElem_toArray, List.getElem_cons_succ, List.getElem_cons_zero]); (try simp only [List.setIfInBounds_toArray]); (repeat (first | simp only [List.set_cons_succ] | simp only [List.set_cons_zero]))
      refine wpAnyH_done (by kernel_rfl) ?_ _
      go_simp
      have HR6a := keepH HR.out.own
      have HR6b := keepH HR.out.blk
      have HR6c := keepH HR.out.row
      obtain ⟨Y6, hY6⟩ : ∃ Y6, Y6 = w5.setCell ⟨pb, 2, none⟩ (.slice (some ⟨g5, 0, none⟩) (got.length + 1) c5q) := ⟨_, rfl⟩
      rw [← hY6] at HR6a HR6b HR6c
      clear hcell hfr
      have v0 : Y6.cell? ⟨pb, 0, none⟩ = some (.slice (some ⟨bk, off, none⟩) L.length lc) := cell_of HR6b.out 0
      have v1 : Y6.cell? ⟨pb, 1, none⟩ = some (.int .i64 ((at_ : Int) + 1)) := cell_of HR6b.out 1
      by_cases hend : L.length ≤ at_ + 1
      · have y1 : (L.length : Int) ≤ (at_ : Int) + 1 := by omega
        have y2 : decide (L.length ≤ at_ + 1) = true := decide_eq_true hend
        go_upto_region 19 with fail
        rw [← hY6]; clear hY6
        go_quiet (fail)
        (try go_wp2_with fail)
        go_ret
        refine ⟨by simp [hend], ?_⟩
        unfold mkT mkG mkM mkR mkA
        simp only [isA]
        simp only [Int.reduceEq, Int.reduceLE, decide_true, Bool.and_self, if_true, if_false]
        exact ⟨F4, _, made + 1, HR6a.out.drewN _, by omega, ⟨_, HR6b.out, row_kept HR6c.out (fun k _ => rfl), fun k => Iff.rfl⟩⟩
      · have y1 : ¬ (L.length : Int) ≤ (at_ : Int) + 1 := by omega
        have y2 : decide (L.length ≤ at_ + 1) = false := decide_eq_false hend
        go_upto_region 19 with fail
        rw [← hY6]; clear hY6
        go_quiet (fail)
        (try go_wp2_with fail)
        go_ret
        refine ⟨by simp, ?_⟩
        unfold mkT mkG mkM mkR mkA
        simp only [isA]
        simp only [Int.reduceEq, Int.reduceLE, decide_true, Bool.and_self, if_true, if_false]
        exact ⟨F4, _, made + 1, HR6a.out.drewN _, by omega, ⟨_, HR6b.out, row_kept HR6c.out (fun k _ => rfl), fun k => Iff.rfl⟩⟩
set_option maxRecDepth 100000 in
set_option maxHeartbeats 16000000 in
theorem pl_k5 {X : World} {F D : Nat → Prop} {b v most next : Nat} {th : Int} {made : Nat} {cs : List Nat} {t : List Acc} (A : AS X X F D F D b v most next th made cs t) {B pb lc at_ : Nat} {lp : Option Addr} {L : List DoP} {got : List Nat} (hP : PlAt X D pb lp L.length lc at_ got) (hL : DosAt X B lp L) (hB : B ≤ X.heap.size) (hBD : ∀ k, D k → B ≤ k) (hBF : ∀ k, F k → B ≤ k) (hBv : B ≤ v) {d : DoP} (hd : L[at_]? = some d) (hk : d.kd = 5) (hg : got.length ≤ 1099511627776) (h1 : made < 1099511627776) (h2 : t.length < 1099511627776) (hll : L.length ≤ 1099511627776) :
    Calls Try.prog 64 #[.pointer (some ⟨pb, 0, none⟩), .pointer (some ⟨v, 0, none⟩)] X fun e Y => e = .returned (.bool (decide (L.length ≤ at_ + 1))) ∧ ∃ F' D' made', AS X Y F D F' D' b v most (mkM most ⟨next, cs⟩ d).next th made' (mkM most ⟨next, cs⟩ d).cs (t ++ mkT th most ⟨next, cs⟩ d) ∧ made' ≤ made + 1 ∧ PlAt Y D' pb lp L.length lc (at_ + 1) (got ++ mkG most ⟨next, cs⟩ d) := by
  obtain ⟨i0, hi, hz0, hz1, hz2⟩ := info_parts infoU64y
  obtain ⟨ho, bk, off, vp, vc, rfl, hbk, e0, e1, e2, e3, e4, hr, hp⟩ := hL at_ d hd
  obtain ⟨gv, hpb, hrow, hD⟩ := hP.ex
  have hlt : at_ < L.length := (List.getElem?_eq_some_iff.1 hd).1
  obtain ⟨kd, ad, a, bb, vals⟩ := d
  simp only at hk e0 e1 e2 e3 e4 hr hp
  subst hk
  have HO := keepH ho
  have c0 : X.cell? ⟨pb, 0, none⟩ = some (.slice (some ⟨bk, off, none⟩) L.length lc) := cell_of hpb 0
  have c1 : X.cell? ⟨pb, 1, none⟩ = some (.int .i64 (at_ : Int)) := cell_of hpb 1
  have t1 : (at_ : Int) < (L.length : Int) := by omega
  have t2 : decide (at_ < L.length) = true := decide_eq_true hlt
  go_enter Try.func64, Try.ntmps64
  go_upto_region 1 with fail
  go_quiet (fail)
  obtain ⟨X1, hX1⟩ : ∃ X1, X1 = X.drewN nq := ⟨_, rfl⟩
  rw [← hX1]
  have HL1 : ∀ k : Nat, X1.heap[k]? = X.heap[k]? := fun k => by rw [hX1]; rfl
  have hs1 : X1.heap.size = X.heap.size := by rw [hX1]; rfl
  have q0 : ∀ {w : World}, (∀ k : Nat, k < X.heap.size → w.heap[k]? = X.heap[k]?) → w.cell? ⟨pb, 0, none⟩ = some (.slice (some ⟨bk, off, none⟩) L.length lc) ∧ w.cell? ⟨pb, 1, none⟩ = some (.int .i64 (at_ : Int)) ∧ w.cell? ⟨bk, off + at_ * 5, none⟩ = some (.int .u8 5) ∧ w.cell? ⟨bk, off + at_ * 5 + 1, none⟩ = some (.int .u64 (ad : Int)) ∧ w.cell? ⟨bk, off + at_ * 5 + 2, none⟩ = some (.int .u64 (a : Int)) ∧ w.cell? ⟨bk, off + at_ * 5 + 3, none⟩ = some (.int .u64 (bb : Int)) ∧ w.cell? ⟨bk, off + at_ * 5 + 4, none⟩ = some (.slice vp vals.length vc) := fun h => by
    have lb : bk < X.heap.size := by omega
    have lp : pb < X.heap.size := lt_of hpb
    exact ⟨cell_low h lp c0, cell_low h lp c1, cell_low h lb e0, cell_low h lb e1, cell_low h lb e2, cell_low h lb e3, cell_low h lb e4⟩
  have qa : ∀ (o : Obj) (k : Nat), k < X.heap.size → (X1.alloc o).heap[k]? = X.heap[k]? := fun o k hk => by rw [← HL1 k]; exact Below.heap_alloc _ _ k (by omega)
  obtain ⟨m0, m1, n0, n1, n2, n3, n4⟩ := q0 (fun k _ => HL1 k)
  have k0 : ∀ o, (X1.alloc o).cell? ⟨pb, 0, none⟩ = some (.slice (some ⟨bk, off, none⟩) L.length lc) := fun o => (q0 (qa o)).1
  have k1 : ∀ o, (X1.alloc o).cell? ⟨pb, 1, none⟩ = some (.int .i64 (at_ : Int)) := fun o => (q0 (qa o)).2.1
  have o0 : ∀ o, (X1.alloc o).cell? ⟨bk, off + at_ * 5, none⟩ = some (.int .u8 5) := fun o => (q0 (qa o)).2.2.1
  have o1 : ∀ o, (X1.alloc o).cell? ⟨bk, off + at_ * 5 + 1, none⟩ = some (.int .u64 (ad : Int)) := fun o => (q0 (qa o)).2.2.2.1
  have o2 : ∀ o, (X1.alloc o).cell? ⟨bk, off + at_ * 5 + 2, none⟩ = some (.int .u64 (a : Int)) := fun o => (q0 (qa o)).2.2.2.2.1
  have o3 : ∀ o, (X1.alloc o).cell? ⟨bk, off + at_ * 5 + 3, none⟩ = some (.int .u64 (bb : Int)) := fun o => (q0 (qa o)).2.2.2.2.2.1
  have o4 : ∀ o, (X1.alloc o).cell? ⟨bk, off + at_ * 5 + 4, none⟩ = some (.slice vp vals.length vc) := fun o => (q0 (qa o)).2.2.2.2.2.2
  have HC1 : Hid (Chg (fun _ => False) X X1) := by rw [hX1]; exact drewN_chgY X nq
  clear hX1 q0 qa
  go_upto_region 2 with fail
  go_big_region
  obtain ⟨X2, hX2⟩ : ∃ X2, X2 = (X1.alloc (.cells #[.int .u8 5, .int .u64 (ad : Int), .int .u64 (a : Int), .int .u64 (bb : Int), .slice vp vals.length vc] 33)).drew := ⟨_, rfl⟩
  rw [← hX2]
  have hbx : X2.heap[X.heap.size]? = some (.cells #[.int .u8 5, .int .u64 (ad : Int), .int .u64 (a : Int), .int .u64 (bb : Int), .slice vp vals.length vc] 33 (0, 0)) := by rw [hX2, ← hs1]; exact heap_alloc_new _ _
  have hC2 : Chg (fun _ => False) X X2 := by rw [hX2]; exact (HC1.out.alloc _).drew
  have hpb2 : X2.heap[pb]? = some (.cells #[.slice (some ⟨bk, off, none⟩) L.length lc, .int .i64 (at_ : Int), gv] 49 (0, 0)) := (hC2.block pb (lt_of hpb) (fun x => x)).trans hpb
  have f1 : X2.frozen? ⟨pb, 1, none⟩ = false := free_of hpb2 1
  have g1 : X2.cell? ⟨pb, 1, none⟩ = some (.int .i64 (at_ : Int)) := cell_of hpb2 1
  obtain ⟨X3, hX3⟩ : ∃ X3, X3 = X2.setCell ⟨pb, 1, none⟩ (.int .i64 ((at_ : Int) + 1)) := ⟨_, rfl⟩
  have hpb3 : X3.heap[pb]? = some (.cells #[.slice (some ⟨bk, off, none⟩) L.length lc, .int .i64 ((at_ : Int) + 1), gv] 49 (0, 0)) := by rw [hX3, set_of hpb2 1 _]; rfl
  have hC3 : Chg D X X3 := by rw [hX3]; exact (hC2.mono (fun _ _ x => x.elim)).setCell (fun _ => (hD pb).2 (.inl rfl)) _
  have hbx3 : X3.heap[X.heap.size]? = some (.cells #[.int .u8 5, .int .u64 (ad : Int), .int .u64 (a : Int), .int .u64 (bb : Int), .slice vp vals.length vc] 33 (0, 0)) := by
    have hne : X.heap.size ≠ pb := by have := lt_of hpb; omega
    rw [hX3]
    exact (Below.heap_setCell _ _ _ _ hne).trans hbx
  have hne3 : gv.ownBlock ≠ some pb := fun e => by
    rcases hrow.2 with ⟨rfl, _⟩ | ⟨g, cap, cur, rfl, _, hg, _⟩
    · simp [Value.ownBlock] at e
    · obtain rfl : g = pb := by simpa [Value.ownBlock] using e
      rw [hpb] at hg
      simp at hg
  have hrow3 : X3.ownsRow 0 30 1 gv got.length (got.map u64V) := row_kept hrow (fun k e => by
    have : k ≠ pb := fun q => hne3 (by rw [e, q])
    rw [hX3]
    exact (Below.heap_setCell _ _ _ k this).trans (hC2.block k (row_lt hrow k e) (fun x => x)))
  have HA3 := keepH (A.put hC3)
  have HBX := keepH hbx3
  have HPB := keepH hpb3
  have HRW := keepH hrow3
  have HDD := keepH hD
  have HLT : Hid (∀ k, k < B → X3.heap[k]? = X.heap[k]?) := fun k hk => hC3.block k (by omega) (fun e => by have := hBD k e; omega)
  have HSX : Hid (X.heap.size ≤ X3.heap.size) := hC3.size
  obtain ⟨bx, hbxn⟩ : ∃ bx, bx = X.heap.size := ⟨_, rfl⟩
  have HBN : Hid (X.heap.size ≤ bx) := by show _ ≤ _; omega
  rw [← hbxn] at HBX ⊢
  clear m0 m1 n0 n1 n2 n3 n4 k0 k1 o0 o1 o2 o3 o4 c0 c1 e0 e1 e2 e3 e4 hX2 hbx hC2 hpb2 hpb3 hC3 hbx3 hne3 hrow3 HL1 HC1 hs1 hbxn
  go_upto_region 4 with fail
  rw [← hX3]
  clear hX3 g1 f1
  have b0 : X3.cell? ⟨bx, 0, none⟩ = some (.int .u8 5) := cell_of HBX.out 0
  have hxlt : ∀ k, gv.ownBlock = some k → k < X.heap.size := fun k e => row_lt hrow k e
  have hplt : pb < X.heap.size := lt_of hpb
  have hFlt : ∀ k, F k → k < X.heap.size := fun k e => by obtain ⟨l, hbk, _⟩ := A.bank; exact hbk.ltF k e
  have hvlt : v < X.heap.size := A.view.lt
  obtain ⟨X4, hX4⟩ : ∃ X4, X4 = X3.drew := ⟨_, rfl⟩
  have hbx4 : X4.heap[bx]? = some (.cells #[.int .u8 5, .int .u64 (ad : Int), .int .u64 (a : Int), .int .u64 (bb : Int), .slice vp vals.length vc] 33 (0, 0)) := by rw [hX4]; exact HBX.out
  have hpbx : X4.heap[pb]? = some (.cells #[.slice (some ⟨bk, off, none⟩) L.length lc, .int .i64 ((at_ : Int) + 1), gv] 49 (0, 0)) := by rw [hX4]; exact HPB.out
  have hrwx : X4.ownsRow 0 30 1 gv got.length (got.map u64V) := by rw [hX4]; exact row_kept HRW.out (fun k _ => rfl)
  have hsx : X.heap.size ≤ X4.heap.size := by rw [hX4]; exact HSX.out
  have hlo4 : ∀ k, k < B → X4.heap[k]? = X.heap[k]? := by rw [hX4]; exact HLT.out
  have A4x : AS X X4 F D F D b v most next th made cs t := by rw [hX4]; exact HA3.out.put ((Chg.refl D X3).drew)
  have AW0 : AS X X4 F D F (fun k => D k ∨ k = bx) b v most next th made cs t := AS.wide A4x hbx4 HBN.out hFlt hvlt
  have HAW := keepH AW0
  have HBX4 := keepH hbx4
  have HPBX := keepH hpbx
  have HRWX := keepH hrwx
  have HLO := keepH hlo4
  have HRD := keepH hr
  have HPL := keepH hp
  have gx : X4.cell? ⟨pb, 2, none⟩ = some gv := cell_of hpbx 2
  have HSM : Hid (∀ k, gv.ownBlock = some k → k ≠ bx) := fun k e q => by have := hxlt k e; have := HBN.out; omega
  have HPN : Hid (pb ≠ bx) := by have := HBN.out; show pb ≠ bx; omega
  have HFL : Hid ((∀ k, F k → k < X.heap.size) ∧ v < X.heap.size ∧ X.heap.size ≤ X4.heap.size) := ⟨hFlt, hvlt, hsx⟩
  clear AW0 A4x hpbx hrwx hlo4 hsx hxlt hplt hFlt hvlt hr hp
  go_upto_region 18 with fail
  refine wp_region_held_drew (S := fun w => w.cell? ⟨bx, 4, none⟩ = some (.slice vp vals.length vc)) (by kernel_rfl) (by rw [← hX4]; exact cell_of hbx4 4) ?_
  rw [← hX4]
  clear hX4 b0
  intro hHeld
  refine wpAnyH_take (i := 0) (v := ?_) rfl (by kernel_rfl) (by kernel_rfl) (by kernel_rfl) (fun _ _ _ h => h) (Or.inl ⟨by rfl, ?_⟩) hHeld ?_
  rotate_left
  · intro w hSw
    (try dsimp only at hSw)
    go_simp
    try with_reducible rfl
  (try simp only [Act.put, List.getElem_toArray, List.getElem_cons_zero]); (try simp only [List.setIfInBounds_toArray]); (repeat (first | simp only [List.set_cons_succ] | simp only [List.set_cons_zero]))
  refine wpAnyH_take (i := 1) (v := ?_) rfl (by kernel_rfl) (by kernel_rfl) (by kernel_rfl) (fun _ _ _ h => h) (Or.inl ⟨by rfl, ?_⟩) hHeld ?_
  rotate_left
  · intro w hSw
    (try dsimp only at hSw)
    go_simp
    try with_reducible rfl
  (try simp only [Act.put, List.getElem_toArray, List.getElem_cons_succ, List.getElem_cons_zero]); (try simp only [List.setIfInBounds_toArray]); (repeat (first | simp only [List.set_cons_succ] | simp only [List.set_cons_zero]))
  refine wpAnyH_take (i := 2) (v := ?_) rfl (by kernel_rfl) (by kernel_rfl) (by kernel_rfl) (fun _ _ _ h => h) (Or.inl ⟨by rfl, ?_⟩) hHeld ?_
  rotate_left
  · intro w hSw
    (try dsimp only at hSw)
    go_simp
    try with_reducible rfl
  (try simp only [Act.put, List.getElem_toArray, List.getElem_cons_succ, List.getElem_cons_zero]); (try simp only [List.setIfInBounds_toArray]); (repeat (first | simp only [List.set_cons_succ] | simp only [List.set_cons_zero]))
  refine wpAnyH_take (i := 3) (v := ?_) rfl (by kernel_rfl) (by kernel_rfl) (by kernel_rfl) (fun _ _ _ h => h) (Or.inl ⟨by rfl, ?_⟩) hHeld ?_
  rotate_left
  · intro w hSw
    (try dsimp only at hSw)
    go_simp
    try with_reducible rfl
  (try simp only [Act.put, List.getElem_toArray, List.getElem_cons_succ, List.getElem_cons_zero]); (try simp only [List.setIfInBounds_toArray]); (repeat (first | simp only [List.set_cons_succ] | simp only [List.set_cons_zero]))
  refine wpAnyH_take (i := 5) (v := ?_) rfl (by kernel_rfl) (by kernel_rfl) (by kernel_rfl) (fun _ _ _ h => h) (Or.inl ⟨by rfl, ?_⟩) hHeld ?_
  rotate_left
  · intro w hSw
    (try dsimp only at hSw)
    go_simp
    try with_reducible rfl
  (try simp only [Act.put, List.getElem_toArray, List.getElem_cons_succ, List.getElem_cons_zero]); (try simp only [List.setIfInBounds_toArray]); (repeat (first | simp only [List.set_cons_succ] | simp only [List.set_cons_zero]))
  refine wpAnyH_take (i := 7) (v := ?_) rfl (by kernel_rfl) (by kernel_rfl) (by kernel_rfl) (fun _ _ _ h => h) (Or.inl ⟨by rfl, ?_⟩) hHeld ?_
  rotate_left
  · intro w hSw
    (try dsimp only at hSw)
    go_simp
    try with_reducible rfl
  (try simp only [Act.put, List.getElem_toArray, List.getElem_cons_succ, List.getElem_cons_zero]); (try simp only [List.setIfInBounds_toArray]); (repeat (first | simp only [List.set_cons_succ] | simp only [List.set_cons_zero]))
  refine wpAnyH_take (i := 8) (v := ?_) rfl (by kernel_rfl) (by kernel_rfl) (by kernel_rfl) (fun _ _ _ h => h) (Or.inl ⟨by rfl, ?_⟩) hHeld ?_
  rotate_left
  · intro w hSw
    (try dsimp only at hSw)
    go_simp
    try with_reducible rfl
  (try simp only [Act.put, List.getElem_toArray, List.getElem_cons_succ, List.getElem_cons_zero]); (try simp only [List.setIfInBounds_toArray]); (repeat (first | simp only [List.set_cons_succ] | simp only [List.set_cons_zero]))
  refine wpAnyH_ready (rs := [4, 6]) (by kernel_rfl) (by simp) ?_
  refine (AllReadyH.cons rfl (fun KK hKK => ?_) (AllReadyH.cons rfl (fun KK hKK => ?_) AllReadyH.nil))
  · go_simp
    refine hKK.out _ _ ?_ (fun hHeld => ?_)
    · exact cell_of HBX4.out 4
    clear hKK KK
    (try simp only [Act.put, List.getElem_toArray, List.getElem_cons_succ, List.getElem_cons_zero]); (try simp only [List.setIfInBounds_toArray]); (repeat (first | simp only [List.set_cons_succ] | simp only [List.set_cons_zero]))
    refine wpAnyH_ready (rs := [6]) (by kernel_rfl) (by simp) ?_
    refine (AllReadyH.cons rfl (fun KK hKK => ?_) AllReadyH.nil)
    go_simp
    refine hKK.out _ _ ?_ (fun hHeld => ?_)
    · exact cell_of ((Below.heap_alloc _ _ bx (lt_of HBX4.out)).trans HBX4.out) 4
    clear hKK KK
    (try simp only [Act.put, List.getElem_toArray, List.getElem_cons_succ, List.getElem_cons_zero]); (try simp only [List.setIfInBounds_toArray]); (repeat (first | simp only [List.set_cons_succ] | simp only [List.set_cons_zero]))
    have gz : (X4.alloc (.cells #[] 30)).cell? ⟨pb, 2, none⟩ = some gv := cell_of ((Below.heap_alloc _ _ pb (lt_of HPBX.out)).trans HPBX.out) 2
    refine wpAnyH_ready (rs := [9]) (by kernel_rfl) (by simp) ?_
    refine (AllReadyH.cons rfl (fun KK hKK => ?_) AllReadyH.nil)
    obtain ⟨vq, Z, hrun, hrq, hgq, hnq⟩ := appR (xs := []) (c := vc) (row_emptyY (heap_alloc_new X4 _)) (l := vals) (p := vp) (reads_low (X := X) (B := B) (fun k hk => (Below.heap_alloc _ _ k (by have := HFL.out.2.2; omega)).trans (HLO.out k hk)) HRD.out HPL.out) (by have := HO.out.len; simp at this ⊢; omega) 31
    rw [List.nil_append] at hrq
    obtain ⟨pq, cq, rfl, hRq, hOq⟩ := slice_of_row hrq
    have CZ : Chg (fun k => X4.heap.size ≤ k) X4 Z := ((Chg.refl (fun k => X4.heap.size ≤ k) X4).alloc _).grown hgq (fun k e _ => by simp [Value.ownBlock] at e; omega)
    have hbz : ∀ ad, pq = some ad → X4.heap.size ≤ ad.block := fun ad e => by
      have o := hOq ad e
      rcases hnq with q | q
      · rw [q] at o; simp [Value.ownBlock] at o; omega
      · rw [q] at o; simp at o; omega
    have HBXZ : Hid (Z.heap[bx]? = some (.cells #[.int .u8 5, .int .u64 (ad : Int), .int .u64 (a : Int), .int .u64 (bb : Int), .slice vp vals.length vc] 33 (0, 0))) := (CZ.block bx (lt_of HBX4.out) (by have := lt_of HBX4.out; omega)).trans HBX4.out
    have HPBZ : Hid (Z.heap[pb]? = some (.cells #[.slice (some ⟨bk, off, none⟩) L.length lc, .int .i64 ((at_ : Int) + 1), gv] 49 (0, 0))) := (CZ.block pb (lt_of HPBX.out) (by have := lt_of HPBX.out; omega)).trans HPBX.out
    have HRWZ : Hid (Z.ownsRow 0 30 1 gv got.length (got.map u64V)) := row_kept HRWX.out (fun k e => CZ.block k (row_lt HRWX.out k e) (by have := row_lt HRWX.out k e; omega))
    have AZ : AS X Z F D F (fun k => D k ∨ k = bx) b v most next th made cs t := HAW.out.put (⟨CZ.os, CZ.tape, CZ.output, CZ.size, fun k hk _ => CZ.block k hk (by omega)⟩)
    have HC := keepH (AS.alocR AZ pq cq vals hRq (fun ad e _ => ⟨fun q => by have := hbz ad e; have := HFL.out.1 _ q; have := HFL.out.2.2; omega, fun q => by have := hbz ad e; have := HFL.out.2; omega⟩) HO.out.vals (by have := HO.out.len; simp at this ⊢; omega) (by omega) (by omega))
    have gw : Z.cell? ⟨pb, 2, none⟩ = some gv := cell_of HPBZ.out 2
    refine step_append_run rfl (.tmp 113) (.tmp 115) 31 rfl _ _ _ _ rfl rfl hrun ?_
    clear hrun hrq hgq hnq hRq hOq CZ hbz AZ
    refine hKK.out _ _ ?_ (fun hHeld => ?_)
    · exact cell_of HBXZ.out 4
    clear hKK KK
    (try simp only [Act.put, List.getElem_toArray, List.getElem_cons_succ, List.getElem_cons_zero]); (try simp only [List.setIfInBounds_toArray]); (repeat (first | simp only [List.set_cons_succ] | simp only [List.set_cons_zero]))
    refine wpAnyH_ready (rs := [10]) (by kernel_rfl) (by simp) ?_
    refine (AllReadyH.cons rfl (fun KK hKK => ?_) AllReadyH.nil)
    go_simp
    go_at_call 68
    refine HC.out.mono ?_
    rintro e Y4 ⟨rfl, F4, A4, hk4⟩
    have A4d := A4.less (D' := D) (fun k e => .inl e)
    have hpb4 : Y4.heap[pb]? = some (.cells #[.slice (some ⟨bk, off, none⟩) L.length lc, .int .i64 ((at_ : Int) + 1), gv] 49 (0, 0)) := (hk4 pb (.inl ((HDD.out pb).2 (.inl rfl)))).trans HPBZ.out
    have hrow4 : Y4.ownsRow 0 30 1 gv got.length (got.map u64V) := row_kept HRWZ.out (fun k e => hk4 k (.inl ((HDD.out k).2 (.inr e))))
    have hbx4 : Y4.heap[bx]? = some (.cells #[.int .u8 5, .int .u64 (ad : Int), .int .u64 (a : Int), .int .u64 (bb : Int), .slice vp vals.length vc] 33 (0, 0)) := (hk4 bx (.inr rfl)).trans HBXZ.out
    have gy : Y4.cell? ⟨pb, 2, none⟩ = some gv := cell_of hpb4 2
    have gya : ∀ o, (Y4.alloc o).cell? ⟨pb, 2, none⟩ = some gv := fun o => cell_of ((Below.heap_alloc _ _ pb (lt_of hpb4)).trans hpb4) 2
    have HA4 := keepH A4d
    have HPB4 := keepH hpb4
    have HR4 := keepH hrow4
    have HBY := keepH hbx4
    clear A4 A4d hk4 hpb4 hrow4 hbx4 HC
    (try go_wp2_with fail)
    refine hKK.out _ _ ?_ (fun hHeld => ?_)
    · exact cell_of HBY.out 4
    clear hKK KK
    (try simp only [Act.put, List.getElem_toArray, List.getElem_cons_succ, List.getElem_cons_zero]); (try simp only [List.setIfInBounds_toArray]); (repeat (first | simp only [List.set_cons_succ] | simp only [List.set_cons_zero]))
    refine wpAnyH_ready (rs := [11]) (by kernel_rfl) (by simp) ?_
    refine (AllReadyH.cons rfl (fun KK hKK => ?_) AllReadyH.nil)
    go_simp
    refine hKK.out _ _ ?_ (fun hHeld => ?_)
    · exact cell_of ((Below.heap_alloc _ _ bx (lt_of HBY.out)).trans HBY.out) 4
    clear hKK KK
    (try simp only [Act.put, List.getElem_toArray, List.getElem_cons_succ, List.getElem_cons_zero]); (try simp only [List.setIfInBounds_toArray]); (repeat (first | simp only [List.set_cons_succ] | simp only [List.set_cons_zero]))
    refine wpAnyH_ready (rs := [12]) (by kernel_rfl) (by simp) ?_
    refine (AllReadyH.cons rfl (fun KK hKK => ?_) AllReadyH.nil)
    refine step_append_base rfl (.tmp 111) (.tmp 118) 31 rfl 0 30 i0 (.int .u64 0) 1 8 Try.underlying31 hi hz0 hz1 hz2 rfl (by decide) gv got.length _ rfl (HR4.out.alloc _) ⟨Y4.heap.size, 0, none⟩ 1 1 [.int .u64 ((alAt most next vals.length : Nat) : Int)] rfl rfl (cells_new _ _ rfl _ _) (by intro u hu; simp at hu; subst hu; rfl) (by unfold maxLen; omega) (by omega) (Nat.zero_le _) ?_
    intro v5 w5 r1 r2 r4
    have HR := keepH (got_end (r := alAt most next vals.length) HA4.out HPB4.out HR4.out HDD.out r1 r2 r4)
    have hb5 : w5.heap[bx]? = some (.cells #[.int .u8 5, .int .u64 (ad : Int), .int .u64 (a : Int), .int .u64 (bb : Int), .slice vp vals.length vc] 33 (0, 0)) := (r2.block bx (by rw [World.size_alloc]; have := lt_of HBY.out; omega) (fun e => HSM.out bx e.symm rfl)).trans ((Below.heap_alloc _ _ bx (lt_of HBY.out)).trans HBY.out)
    have HB5 := keepH hb5
    clear r1 r2 r4 hb5
    obtain ⟨g5, c5q, hv5⟩ := HR.out.sls
    obtain ⟨gg, hcell⟩ := HR.out.cell
    have hfr := HR.out.free
    subst hv5
    refine hKK.out _ _ ?_ (fun hHeld => ?_)
    · exact cell_of HB5.out 4
    clear hKK KK
    (try simp only [Act.put, List.getElem_toArray, List.getElem_cons_succ, List.getElem_cons_zero]); (try simp only [List.setIfInBounds_toArray]); (repeat (first | simp only [List.set_cons_succ] | simp only [List.set_cons_zero]))
    refine wpAnyH_take (i := 13) (v := ?_) rfl (by kernel_rfl) (by kernel_rfl) (by kernel_rfl) (fun _ _ _ h => h) (Or.inl ⟨by rfl, ?_⟩) hHeld ?_
    rotate_left
    · intro w hSw
      (try dsimp only at hSw)
      go_simp
      try with_reducible rfl
    (try simp only [Act.put, List.getElem_toArray, List.getElem_cons_succ, List.getElem_cons_zero]); (try simp only [List.setIfInBounds_toArray]); (repeat (first | simp only [List.set_cons_succ] | simp only [List.set_cons_zero]))
    refine wpAnyH_take (i := 14) (v := ?_) rfl (by kernel_rfl) (by kernel_rfl) (by kernel_rfl) (fun _ _ _ h => h) (Or.inl ⟨by rfl, ?_⟩) hHeld ?_
    rotate_left
    · intro w hSw
      (try dsimp only at hSw)
      go_simp
      try with_reducible rfl
    (try simp only [Act.put, List.getElem_toArray, List.getElem_cons_succ, List.getElem_cons_zero]); (try simp only [List.setIfInBounds_toArray]); (repeat (first | simp only [List.set_cons_succ] | simp only [List.set_cons_zero]))
    refine wpAnyH_ready (rs := [15]) (by kernel_rfl) (by simp) ?_
    refine (AllReadyH.cons rfl (fun KK hKK => ?_) AllReadyH.nil)
    go_simp
    refine hKK.out _ _ ?_ (fun hHeld => ?_)
    · exact cell_of ((Below.heap_setCell _ _ _ bx (fun q => HPN.out q.symm)).trans HB5.out) 4
    clear hKK KK
    (try simp only [Act.put, List.getElem_toArray, List.getElem_cons_succ, List.getElem_cons_zero]); (try simp only [List.setIfInBounds_toArray]); (repeat (first | simp only [List.set_cons_succ] | simp only [List.set_cons_zero]))
    refine wpAnyH_done (by kernel_rfl) ?_ _
    go_simp
    have HR6a := keepH HR.out.own
    have HR6b := keepH HR.out.blk
    have HR6c := keepH HR.out.row
    obtain ⟨Y6, hY6⟩ : ∃ Y6, Y6 = w5.setCell ⟨pb, 2, none⟩ (.slice (some ⟨g5, 0, none⟩) (got.length + 1) c5q) := ⟨_, rfl⟩
    rw [← hY6] at HR6a HR6b HR6c
    clear hcell hfr
    have v0 : Y6.cell? ⟨pb, 0, none⟩ = some (.slice (some ⟨bk, off, none⟩) L.length lc) := cell_of HR6b.out 0
    have v1 : Y6.cell? ⟨pb, 1, none⟩ = some (.int .i64 ((at_ : Int) + 1)) := cell_of HR6b.out 1
    by_cases hend : L.length ≤ at_ + 1
    · have y1 : (L.length : Int) ≤ (at_ : Int) + 1 := by omega
      have y2 : decide (L.length ≤ at_ + 1) = true := decide_eq_true hend
      go_upto_region 19 with fail
      rw [← hY6]; clear hY6
      go_quiet (fail)
      (try go_wp2_with fail)
      go_ret
      refine ⟨by simp [hend], ?_⟩
      unfold mkT mkG mkM mkR mkA
      simp only [isA]
      simp only [Int.reduceEq, Int.reduceLE, decide_true, Bool.and_self, if_true, if_false]
      exact ⟨F4, _, made + 1, HR6a.out.drewN _, by omega, ⟨_, HR6b.out, row_kept HR6c.out (fun k _ => rfl), fun k => Iff.rfl⟩⟩
    · have y1 : ¬ (L.length : Int) ≤ (at_ : Int) + 1 := by omega
      have y2 : decide (L.length ≤ at_ + 1) = false := decide_eq_false hend
      go_upto_region 19 with fail
      rw [← hY6]; clear hY6
      go_quiet (fail)
      (try go_wp2_with fail)
      go_ret
      refine ⟨by simp, ?_⟩
      unfold mkT mkG mkM mkR mkA
      simp only [isA]
      simp only [Int.reduceEq, Int.reduceLE, decide_true, Bool.and_self, if_true, if_false]
      exact ⟨F4, _, made + 1, HR6a.out.drewN _, by omega, ⟨_, HR6b.out, row_kept HR6c.out (fun k _ => rfl), fun k => Iff.rfl⟩⟩
  · go_simp
    refine hKK.out _ _ ?_ (fun hHeld => ?_)
    · exact cell_of ((Below.heap_alloc _ _ bx (lt_of HBX4.out)).trans HBX4.out) 4
    clear hKK KK
    (try simp only [Act.put, List.getElem_toArray, List.getElem_cons_succ, List.getElem_cons_zero]); (try simp only [List.setIfInBounds_toArray]); (repeat (first | simp only [List.set_cons_succ] | simp only [List.set_cons_zero]))
    have gz : (X4.alloc (.cells #[] 30)).cell? ⟨pb, 2, none⟩ = some gv := cell_of ((Below.heap_alloc _ _ pb (lt_of HPBX.out)).trans HPBX.out) 2
    refine wpAnyH_ready (rs := [4, 9]) (by kernel_rfl) (by simp) ?_
    refine (AllReadyH.cons rfl (fun KK hKK => ?_) (AllReadyH.cons rfl (fun KK hKK => ?_) AllReadyH.nil))
    · go_simp
      refine hKK.out _ _ ?_ (fun hHeld => ?_)
      · exact cell_of ((Below.heap_alloc _ _ bx (lt_of HBX4.out)).trans HBX4.out) 4
      clear hKK KK
      (try simp only [Act.put, List.getElem_toArray, List.getElem_cons_succ, List.getElem_cons_zero]); (try simp only [List.setIfInBounds_toArray]); (repeat (first | simp only [List.set_cons_succ] | simp only [List.set_cons_zero]))
      refine wpAnyH_ready (rs := [9]) (by kernel_rfl) (by simp) ?_
      refine (AllReadyH.cons rfl (fun KK hKK => ?_) AllReadyH.nil)
      obtain ⟨vq, Z, hrun, hrq, hgq, hnq⟩ := appR (xs := []) (c := vc) (row_emptyY (heap_alloc_new X4 _)) (l := vals) (p := vp) (reads_low (X := X) (B := B) (fun k hk => (Below.heap_alloc _ _ k (by have := HFL.out.2.2; omega)).trans (HLO.out k hk)) HRD.out HPL.out) (by have := HO.out.len; simp at this ⊢; omega) 31
      rw [List.nil_append] at hrq
      obtain ⟨pq, cq, rfl, hRq, hOq⟩ := slice_of_row hrq
      have CZ : Chg (fun k => X4.heap.size ≤ k) X4 Z := ((Chg.refl (fun k => X4.heap.size ≤ k) X4).alloc _).grown hgq (fun k e _ => by simp [Value.ownBlock] at e; omega)
      have hbz : ∀ ad, pq = some ad → X4.heap.size ≤ ad.block := fun ad e => by
        have o := hOq ad e
        rcases hnq with q | q
        · rw [q] at o; simp [Value.ownBlock] at o; omega
        · rw [q] at o; simp at o; omega
      have HBXZ : Hid (Z.heap[bx]? = some (.cells #[.int .u8 5, .int .u64 (ad : Int), .int .u64 (a : Int), .int .u64 (bb : Int), .slice vp vals.length vc] 33 (0, 0))) := (CZ.block bx (lt_of HBX4.out) (by have := lt_of HBX4.out; omega)).trans HBX4.out
      have HPBZ : Hid (Z.heap[pb]? = some (.cells #[.slice (some ⟨bk, off, none⟩) L.length lc, .int .i64 ((at_ : Int) + 1), gv] 49 (0, 0))) := (CZ.block pb (lt_of HPBX.out) (by have := lt_of HPBX.out; omega)).trans HPBX.out
      have HRWZ : Hid (Z.ownsRow 0 30 1 gv got.length (got.map u64V)) := row_kept HRWX.out (fun k e => CZ.block k (row_lt HRWX.out k e) (by have := row_lt HRWX.out k e; omega))
      have AZ : AS X Z F D F (fun k => D k ∨ k = bx) b v most next th made cs t := HAW.out.put (⟨CZ.os, CZ.tape, CZ.output, CZ.size, fun k hk _ => CZ.block k hk (by omega)⟩)
      have HC := keepH (AS.alocR AZ pq cq vals hRq (fun ad e _ => ⟨fun q => by have := hbz ad e; have := HFL.out.1 _ q; have := HFL.out.2.2; omega, fun q => by have := hbz ad e; have := HFL.out.2; omega⟩) HO.out.vals (by have := HO.out.len; simp at this ⊢; omega) (by omega) (by omega))
      have gw : Z.cell? ⟨pb, 2, none⟩ = some gv := cell_of HPBZ.out 2
      refine step_append_run rfl (.tmp 113) (.tmp 115) 31 rfl _ _ _ _ rfl rfl hrun ?_
      clear hrun hrq hgq hnq hRq hOq CZ hbz AZ
      refine hKK.out _ _ ?_ (fun hHeld => ?_)
      · exact cell_of HBXZ.out 4
      clear hKK KK
      (try simp only [Act.put, List.getElem_toArray, List.getElem_cons_succ, List.getElem_cons_zero]); (try simp only [List.setIfInBounds_toArray]); (repeat (first | simp only [List.set_cons_succ] | simp only [List.set_cons_zero]))
      refine wpAnyH_ready (rs := [10]) (by kernel_rfl) (by simp) ?_
      refine (AllReadyH.cons rfl (fun KK hKK => ?_) AllReadyH.nil)
      go_simp
      go_at_call 68
      refine HC.out.mono ?_
      rintro e Y4 ⟨rfl, F4, A4, hk4⟩
      have A4d := A4.less (D' := D) (fun k e => .inl e)
      have hpb4 : Y4.heap[pb]? = some (.cells #[.slice (some ⟨bk, off, none⟩) L.length lc, .int .i64 ((at_ : Int) + 1), gv] 49 (0, 0)) := (hk4 pb (.inl ((HDD.out pb).2 (.inl rfl)))).trans HPBZ.out
      have hrow4 : Y4.ownsRow 0 30 1 gv got.length (got.map u64V) := row_kept HRWZ.out (fun k e => hk4 k (.inl ((HDD.out k).2 (.inr e))))
      have hbx4 : Y4.heap[bx]? = some (.cells #[.int .u8 5, .int .u64 (ad : Int), .int .u64 (a : Int), .int .u64 (bb : Int), .slice vp vals.length vc] 33 (0, 0)) := (hk4 bx (.inr rfl)).trans HBXZ.out
      have gy : Y4.cell? ⟨pb, 2, none⟩ = some gv := cell_of hpb4 2
      have gya : ∀ o, (Y4.alloc o).cell? ⟨pb, 2, none⟩ = some gv := fun o => cell_of ((Below.heap_alloc _ _ pb (lt_of hpb4)).trans hpb4) 2
      have HA4 := keepH A4d
      have HPB4 := keepH hpb4
      have HR4 := keepH hrow4
      have HBY := keepH hbx4
      clear A4 A4d hk4 hpb4 hrow4 hbx4 HC
      (try go_wp2_with fail)
      refine hKK.out _ _ ?_ (fun hHeld => ?_)
      · exact cell_of HBY.out 4
      clear hKK KK
      (try simp only [Act.put, List.getElem_toArray, List.getElem_cons_succ, List.getElem_cons_zero]); (try simp only [List.setIfInBounds_toArray]); (repeat (first | simp only [List.set_cons_succ] | simp only [List.set_cons_zero]))
      refine wpAnyH_ready (rs := [11]) (by kernel_rfl) (by simp) ?_
      refine (AllReadyH.cons rfl (fun KK hKK => ?_) AllReadyH.nil)
      go_simp
      refine hKK.out _ _ ?_ (fun hHeld => ?_)
      · exact cell_of ((Below.heap_alloc _ _ bx (lt_of HBY.out)).trans HBY.out) 4
      clear hKK KK
      (try simp only [Act.put, List.getElem_toArray, List.getElem_cons_succ, List.getElem_cons_zero]); (try simp only [List.setIfInBounds_toArray]); (repeat (first | simp only [List.set_cons_succ] | simp only [List.set_cons_zero]))
      refine wpAnyH_ready (rs := [12]) (by kernel_rfl) (by simp) ?_
      refine (AllReadyH.cons rfl (fun KK hKK => ?_) AllReadyH.nil)
      refine step_append_base rfl (.tmp 111) (.tmp 118) 31 rfl 0 30 i0 (.int .u64 0) 1 8 Try.underlying31 hi hz0 hz1 hz2 rfl (by decide) gv got.length _ rfl (HR4.out.alloc _) ⟨Y4.heap.size, 0, none⟩ 1 1 [.int .u64 ((alAt most next vals.length : Nat) : Int)] rfl rfl (cells_new _ _ rfl _ _) (by intro u hu; simp at hu; subst hu; rfl) (by unfold maxLen; omega) (by omega) (Nat.zero_le _) ?_
      intro v5 w5 r1 r2 r4
      have HR := keepH (got_end (r := alAt most next vals.length) HA4.out HPB4.out HR4.out HDD.out r1 r2 r4)
      have hb5 : w5.heap[bx]? = some (.cells #[.int .u8 5, .int .u64 (ad : Int), .int .u64 (a : Int), .int .u64 (bb : Int), .slice vp vals.length vc] 33 (0, 0)) := (r2.block bx (by rw [World.size_alloc]; have := lt_of HBY.out; omega) (fun e => HSM.out bx e.symm rfl)).trans ((Below.heap_alloc _ _ bx (lt_of HBY.out)).trans HBY.out)
      have HB5 := keepH hb5
      clear r1 r2 r4 hb5
      obtain ⟨g5, c5q, hv5⟩ := HR.out.sls
      obtain ⟨gg, hcell⟩ := HR.out.cell
      have hfr := HR.out.free
      subst hv5
      refine hKK.out _ _ ?_ (fun hHeld => ?_)
      · exact cell_of HB5.out 4
      clear hKK KK
      (try simp only [Act.put, List.getElem_toArray, List.getElem_cons_succ, List.getElem_cons_zero]); (try simp only [List.setIfInBounds_toArray]); (repeat (first | simp only [List.set_cons_succ] | simp only [List.set_cons_zero]))
      refine wpAnyH_take (i := 13) (v := ?_) rfl (by kernel_rfl) (by kernel_rfl) (by kernel_rfl) (fun _ _ _ h => h) (Or.inl ⟨by rfl, ?_⟩) hHeld ?_
      rotate_left
      · intro w hSw
        (try dsimp only at hSw)
        go_simp
        try with_reducible rfl
      (try simp only [Act.put, List.getElem_toArray, List.getElem_cons_succ, List.getElem_cons_zero]); (try simp only [List.setIfInBounds_toArray]); (repeat (first | simp only [List.set_cons_succ] | simp only [List.set_cons_zero]))
      refine wpAnyH_take (i := 14) (v := ?_) rfl (by kernel_rfl) (by kernel_rfl) (by kernel_rfl) (fun _ _ _ h => h) (Or.inl ⟨by rfl, ?_⟩) hHeld ?_
      rotate_left
      · intro w hSw
        (try dsimp only at hSw)
        go_simp
        try with_reducible rfl
      (try simp only [Act.put, List.getElem_toArray, List.getElem_cons_succ, List.getElem_cons_zero]); (try simp only [List.setIfInBounds_toArray]); (repeat (first | simp only [List.set_cons_succ] | simp only [List.set_cons_zero]))
      refine wpAnyH_ready (rs := [15]) (by kernel_rfl) (by simp) ?_
      refine (AllReadyH.cons rfl (fun KK hKK => ?_) AllReadyH.nil)
      go_simp
      refine hKK.out _ _ ?_ (fun hHeld => ?_)
      · exact cell_of ((Below.heap_setCell _ _ _ bx (fun q => HPN.out q.symm)).trans HB5.out) 4
      clear hKK KK
      (try simp only [Act.put, List.getElem_toArray, List.getElem_cons_succ, List.getElem_cons_zero]); (try simp only [List.setIfInBounds_toArray]); (repeat (first | simp only [List.set_cons_succ] | simp only [List.set_cons_zero]))
      refine wpAnyH_done (by kernel_rfl) ?_ _
      go_simp
      have HR6a := keepH HR.out.own
      have HR6b := keepH HR.out.blk
      have HR6c := keepH HR.out.row
      obtain ⟨Y6, hY6⟩ : ∃ Y6, Y6 = w5.setCell ⟨pb, 2, none⟩ (.slice (some ⟨g5, 0, none⟩) (got.length + 1) c5q) := ⟨_, rfl⟩
      rw [← hY6] at HR6a HR6b HR6c
      clear hcell hfr
      have v0 : Y6.cell? ⟨pb, 0, none⟩ = some (.slice (some ⟨bk, off, none⟩) L.length lc) := cell_of HR6b.out 0
      have v1 : Y6.cell? ⟨pb, 1, none⟩ = some (.int .i64 ((at_ : Int) + 1)) := cell_of HR6b.out 1
      by_cases hend : L.length ≤ at_ + 1
      · have y1 : (L.length : Int) ≤ (at_ : Int) + 1 := by omega
        have y2 : decide (L.length ≤ at_ + 1) = true := decide_eq_true hend
        go_upto_region 19 with fail
        rw [← hY6]; clear hY6
        go_quiet (fail)
        (try go_wp2_with fail)
        go_ret
        refine ⟨by simp [hend], ?_⟩
        unfold mkT mkG mkM mkR mkA
        simp only [isA]
        simp only [Int.reduceEq, Int.reduceLE, decide_true, Bool.and_self, if_true, if_false]
        exact ⟨F4, _, made + 1, HR6a.out.drewN _, by omega, ⟨_, HR6b.out, row_kept HR6c.out (fun k _ => rfl), fun k => Iff.rfl⟩⟩
      · have y1 : ¬ (L.length : Int) ≤ (at_ : Int) + 1 := by omega
        have y2 : decide (L.length ≤ at_ + 1) = false := decide_eq_false hend
        go_upto_region 19 with fail
        rw [← hY6]; clear hY6
        go_quiet (fail)
        (try go_wp2_with fail)
        go_ret
        refine ⟨by simp, ?_⟩
        unfold mkT mkG mkM mkR mkA
        simp only [isA]
        simp only [Int.reduceEq, Int.reduceLE, decide_true, Bool.and_self, if_true, if_false]
        exact ⟨F4, _, made + 1, HR6a.out.drewN _, by omega, ⟨_, HR6b.out, row_kept HR6c.out (fun k _ => rfl), fun k => Iff.rfl⟩⟩
    · obtain ⟨vq, Z, hrun, hrq, hgq, hnq⟩ := appR (xs := []) (c := vc) (row_emptyY (heap_alloc_new X4 _)) (l := vals) (p := vp) (reads_low (X := X) (B := B) (fun k hk => (Below.heap_alloc _ _ k (by have := HFL.out.2.2; omega)).trans (HLO.out k hk)) HRD.out HPL.out) (by have := HO.out.len; simp at this ⊢; omega) 31
      rw [List.nil_append] at hrq
      obtain ⟨pq, cq, rfl, hRq, hOq⟩ := slice_of_row hrq
      have CZ : Chg (fun k => X4.heap.size ≤ k) X4 Z := ((Chg.refl (fun k => X4.heap.size ≤ k) X4).alloc _).grown hgq (fun k e _ => by simp [Value.ownBlock] at e; omega)
      have hbz : ∀ ad, pq = some ad → X4.heap.size ≤ ad.block := fun ad e => by
        have o := hOq ad e
        rcases hnq with q | q
        · rw [q] at o; simp [Value.ownBlock] at o; omega
        · rw [q] at o; simp at o; omega
      have HBXZ : Hid (Z.heap[bx]? = some (.cells #[.int .u8 5, .int .u64 (ad : Int), .int .u64 (a : Int), .int .u64 (bb : Int), .slice vp vals.length vc] 33 (0, 0))) := (CZ.block bx (lt_of HBX4.out) (by have := lt_of HBX4.out; omega)).trans HBX4.out
      have HPBZ : Hid (Z.heap[pb]? = some (.cells #[.slice (some ⟨bk, off, none⟩) L.length lc, .int .i64 ((at_ : Int) + 1), gv] 49 (0, 0))) := (CZ.block pb (lt_of HPBX.out) (by have := lt_of HPBX.out; omega)).trans HPBX.out
      have HRWZ : Hid (Z.ownsRow 0 30 1 gv got.length (got.map u64V)) := row_kept HRWX.out (fun k e => CZ.block k (row_lt HRWX.out k e) (by have := row_lt HRWX.out k e; omega))
      have AZ : AS X Z F D F (fun k => D k ∨ k = bx) b v most next th made cs t := HAW.out.put (⟨CZ.os, CZ.tape, CZ.output, CZ.size, fun k hk _ => CZ.block k hk (by omega)⟩)
      have HC := keepH (AS.alocR AZ pq cq vals hRq (fun ad e _ => ⟨fun q => by have := hbz ad e; have := HFL.out.1 _ q; have := HFL.out.2.2; omega, fun q => by have := hbz ad e; have := HFL.out.2; omega⟩) HO.out.vals (by have := HO.out.len; simp at this ⊢; omega) (by omega) (by omega))
      have gw : Z.cell? ⟨pb, 2, none⟩ = some gv := cell_of HPBZ.out 2
      refine step_append_run rfl (.tmp 113) (.tmp 115) 31 rfl _ _ _ _ rfl rfl hrun ?_
      clear hrun hrq hgq hnq hRq hOq CZ hbz AZ
      refine hKK.out _ _ ?_ (fun hHeld => ?_)
      · exact cell_of HBXZ.out 4
      clear hKK KK
      (try simp only [Act.put, List.getElem_toArray, List.getElem_cons_succ, List.getElem_cons_zero]); (try simp only [List.setIfInBounds_toArray]); (repeat (first | simp only [List.set_cons_succ] | simp only [List.set_cons_zero]))
      refine wpAnyH_ready (rs := [4, 10]) (by kernel_rfl) (by simp) ?_
      refine (AllReadyH.cons rfl (fun KK hKK => ?_) (AllReadyH.cons rfl (fun KK hKK => ?_) AllReadyH.nil))
      · go_simp
        refine hKK.out _ _ ?_ (fun hHeld => ?_)
        · exact cell_of HBXZ.out 4
        clear hKK KK
        (try simp only [Act.put, List.getElem_toArray, List.getElem_cons_succ, List.getElem_cons_zero]); (try simp only [List.setIfInBounds_toArray]); (repeat (first | simp only [List.set_cons_succ] | simp only [List.set_cons_zero]))
        refine wpAnyH_ready (rs := [10]) (by kernel_rfl) (by simp) ?_
        refine (AllReadyH.cons rfl (fun KK hKK => ?_) AllReadyH.nil)
        go_simp
        go_at_call 68
        refine HC.out.mono ?_
        rintro e Y4 ⟨rfl, F4, A4, hk4⟩
        have A4d := A4.less (D' := D) (fun k e => .inl e)
        have hpb4 : Y4.heap[pb]? = some (.cells #[.slice (some ⟨bk, off, none⟩) L.length lc, .int .i64 ((at_ : Int) + 1), gv] 49 (0, 0)) := (hk4 pb (.inl ((HDD.out pb).2 (.inl rfl)))).trans HPBZ.out
        have hrow4 : Y4.ownsRow 0 30 1 gv got.length (got.map u64V) := row_kept HRWZ.out (fun k e => hk4 k (.inl ((HDD.out k).2 (.inr e))))
        have hbx4 : Y4.heap[bx]? = some (.cells #[.int .u8 5, .int .u64 (ad : Int), .int .u64 (a : Int), .int .u64 (bb : Int), .slice vp vals.length vc] 33 (0, 0)) := (hk4 bx (.inr rfl)).trans HBXZ.out
        have gy : Y4.cell? ⟨pb, 2, none⟩ = some gv := cell_of hpb4 2
        have gya : ∀ o, (Y4.alloc o).cell? ⟨pb, 2, none⟩ = some gv := fun o => cell_of ((Below.heap_alloc _ _ pb (lt_of hpb4)).trans hpb4) 2
        have HA4 := keepH A4d
        have HPB4 := keepH hpb4
        have HR4 := keepH hrow4
        have HBY := keepH hbx4
        clear A4 A4d hk4 hpb4 hrow4 hbx4 HC
        (try go_wp2_with fail)
        refine hKK.out _ _ ?_ (fun hHeld => ?_)
        · exact cell_of HBY.out 4
        clear hKK KK
        (try simp only [Act.put, List.getElem_toArray, List.getElem_cons_succ, List.getElem_cons_zero]); (try simp only [List.setIfInBounds_toArray]); (repeat (first | simp only [List.set_cons_succ] | simp only [List.set_cons_zero]))
        refine wpAnyH_ready (rs := [11]) (by kernel_rfl) (by simp) ?_
        refine (AllReadyH.cons rfl (fun KK hKK => ?_) AllReadyH.nil)
        go_simp
        refine hKK.out _ _ ?_ (fun hHeld => ?_)
        · exact cell_of ((Below.heap_alloc _ _ bx (lt_of HBY.out)).trans HBY.out) 4
        clear hKK KK
        (try simp only [Act.put, List.getElem_toArray, List.getElem_cons_succ, List.getElem_cons_zero]); (try simp only [List.setIfInBounds_toArray]); (repeat (first | simp only [List.set_cons_succ] | simp only [List.set_cons_zero]))
        refine wpAnyH_ready (rs := [12]) (by kernel_rfl) (by simp) ?_
        refine (AllReadyH.cons rfl (fun KK hKK => ?_) AllReadyH.nil)
        refine step_append_base rfl (.tmp 111) (.tmp 118) 31 rfl 0 30 i0 (.int .u64 0) 1 8 Try.underlying31 hi hz0 hz1 hz2 rfl (by decide) gv got.length _ rfl (HR4.out.alloc _) ⟨Y4.heap.size, 0, none⟩ 1 1 [.int .u64 ((alAt most next vals.length : Nat) : Int)] rfl rfl (cells_new _ _ rfl _ _) (by intro u hu; simp at hu; subst hu; rfl) (by unfold maxLen; omega) (by omega) (Nat.zero_le _) ?_
        intro v5 w5 r1 r2 r4
        have HR := keepH (got_end (r := alAt most next vals.length) HA4.out HPB4.out HR4.out HDD.out r1 r2 r4)
        have hb5 : w5.heap[bx]? = some (.cells #[.int .u8 5, .int .u64 (ad : Int), .int .u64 (a : Int), .int .u64 (bb : Int), .slice vp vals.length vc] 33 (0, 0)) := (r2.block bx (by rw [World.size_alloc]; have := lt_of HBY.out; omega) (fun e => HSM.out bx e.symm rfl)).trans ((Below.heap_alloc _ _ bx (lt_of HBY.out)).trans HBY.out)
        have HB5 := keepH hb5
        clear r1 r2 r4 hb5
        obtain ⟨g5, c5q, hv5⟩ := HR.out.sls
        obtain ⟨gg, hcell⟩ := HR.out.cell
        have hfr := HR.out.free
        subst hv5
        refine hKK.out _ _ ?_ (fun hHeld => ?_)
        · exact cell_of HB5.out 4
        clear hKK KK
        (try simp only [Act.put, List.getElem_toArray, List.getElem_cons_succ, List.getElem_cons_zero]); (try simp only [List.setIfInBounds_toArray]); (repeat (first | simp only [List.set_cons_succ] | simp only [List.set_cons_zero]))
        refine wpAnyH_take (i := 13) (v := ?_) rfl (by kernel_rfl) (by kernel_rfl) (by kernel_rfl) (fun _ _ _ h => h) (Or.inl ⟨by rfl, ?_⟩) hHeld ?_
        rotate_left
        · intro w hSw
          (try dsimp only at hSw)
          go_simp
          try with_reducible rfl
        (try simp only [Act.put, List.getElem_toArray, List.getElem_cons_succ, List.getElem_cons_zero]); (try simp only [List.setIfInBounds_toArray]); (repeat (first | simp only [List.set_cons_succ] | simp only [List.set_cons_zero]))
        refine wpAnyH_take (i := 14) (v := ?_) rfl (by kernel_rfl) (by kernel_rfl) (by kernel_rfl) (fun _ _ _ h => h) (Or.inl ⟨by rfl, ?_⟩) hHeld ?_
        rotate_left
        · intro w hSw
          (try dsimp only at hSw)
          go_simp
          try with_reducible rfl
        (try simp only [Act.put, List.getElem_toArray, List.getElem_cons_succ, List.getElem_cons_zero]); (try simp only [List.setIfInBounds_toArray]); (repeat (first | simp only [List.set_cons_succ] | simp only [List.set_cons_zero]))
        refine wpAnyH_ready (rs := [15]) (by kernel_rfl) (by simp) ?_
        refine (AllReadyH.cons rfl (fun KK hKK => ?_) AllReadyH.nil)
        go_simp
        refine hKK.out _ _ ?_ (fun hHeld => ?_)
        · exact cell_of ((Below.heap_setCell _ _ _ bx (fun q => HPN.out q.symm)).trans HB5.out) 4
        clear hKK KK
        (try simp only [Act.put, List.getElem_toArray, List.getElem_cons_succ, List.getElem_cons_zero]); (try simp only [List.setIfInBounds_toArray]); (repeat (first | simp only [List.set_cons_succ] | simp only [List.set_cons_zero]))
        refine wpAnyH_done (by kernel_rfl) ?_ _
        go_simp
        have HR6a := keepH HR.out.own
        have HR6b := keepH HR.out.blk
        have HR6c := keepH HR.out.row
        obtain ⟨Y6, hY6⟩ : ∃ Y6, Y6 = w5.setCell ⟨pb, 2, none⟩ (.slice (some ⟨g5, 0, none⟩) (got.length + 1) c5q) := ⟨_, rfl⟩
        rw [← hY6] at HR6a HR6b HR6c
        clear hcell hfr
        have v0 : Y6.cell? ⟨pb, 0, none⟩ = some (.slice (some ⟨bk, off, none⟩) L.length lc) := cell_of HR6b.out 0
        have v1 : Y6.cell? ⟨pb, 1, none⟩ = some (.int .i64 ((at_ : Int) + 1)) := cell_of HR6b.out 1
        by_cases hend : L.length ≤ at_ + 1
        · have y1 : (L.length : Int) ≤ (at_ : Int) + 1 := by omega
          have y2 : decide (L.length ≤ at_ + 1) = true := decide_eq_true hend
          go_upto_region 19 with fail
          rw [← hY6]; clear hY6
          go_quiet (fail)
          (try go_wp2_with fail)
          go_ret
          refine ⟨by simp [hend], ?_⟩
          unfold mkT mkG mkM mkR mkA
          simp only [isA]
          simp only [Int.reduceEq, Int.reduceLE, decide_true, Bool.and_self, if_true, if_false]
          exact ⟨F4, _, made + 1, HR6a.out.drewN _, by omega, ⟨_, HR6b.out, row_kept HR6c.out (fun k _ => rfl), fun k => Iff.rfl⟩⟩
        · have y1 : ¬ (L.length : Int) ≤ (at_ : Int) + 1 := by omega
          have y2 : decide (L.length ≤ at_ + 1) = false := decide_eq_false hend
          go_upto_region 19 with fail
          rw [← hY6]; clear hY6
          go_quiet (fail)
          (try go_wp2_with fail)
          go_ret
          refine ⟨by simp, ?_⟩
          unfold mkT mkG mkM mkR mkA
          simp only [isA]
          simp only [Int.reduceEq, Int.reduceLE, decide_true, Bool.and_self, if_true, if_false]
          exact ⟨F4, _, made + 1, HR6a.out.drewN _, by omega, ⟨_, HR6b.out, row_kept HR6c.out (fun k _ => rfl), fun k => Iff.rfl⟩⟩
      · go_simp
        go_at_call 68
        refine HC.out.mono ?_
        rintro e Y4 ⟨rfl, F4, A4, hk4⟩
        have A4d := A4.less (D' := D) (fun k e => .inl e)
        have hpb4 : Y4.heap[pb]? = some (.cells #[.slice (some ⟨bk, off, none⟩) L.length lc, .int .i64 ((at_ : Int) + 1), gv] 49 (0, 0)) := (hk4 pb (.inl ((HDD.out pb).2 (.inl rfl)))).trans HPBZ.out
        have hrow4 : Y4.ownsRow 0 30 1 gv got.length (got.map u64V) := row_kept HRWZ.out (fun k e => hk4 k (.inl ((HDD.out k).2 (.inr e))))
        have hbx4 : Y4.heap[bx]? = some (.cells #[.int .u8 5, .int .u64 (ad : Int), .int .u64 (a : Int), .int .u64 (bb : Int), .slice vp vals.length vc] 33 (0, 0)) := (hk4 bx (.inr rfl)).trans HBXZ.out
        have gy : Y4.cell? ⟨pb, 2, none⟩ = some gv := cell_of hpb4 2
        have gya : ∀ o, (Y4.alloc o).cell? ⟨pb, 2, none⟩ = some gv := fun o => cell_of ((Below.heap_alloc _ _ pb (lt_of hpb4)).trans hpb4) 2
        have HA4 := keepH A4d
        have HPB4 := keepH hpb4
        have HR4 := keepH hrow4
        have HBY := keepH hbx4
        clear A4 A4d hk4 hpb4 hrow4 hbx4 HC
        (try go_wp2_with fail)
        refine hKK.out _ _ ?_ (fun hHeld => ?_)
        · exact cell_of HBY.out 4
        clear hKK KK
        (try simp only [Act.put, List.getElem_toArray, List.getElem_cons_succ, List.getElem_cons_zero]); (try simp only [List.setIfInBounds_toArray]); (repeat (first | simp only [List.set_cons_succ] | simp only [List.set_cons_zero]))
        refine wpAnyH_ready (rs := [4, 11]) (by kernel_rfl) (by simp) ?_
        refine (AllReadyH.cons rfl (fun KK hKK => ?_) (AllReadyH.cons rfl (fun KK hKK => ?_) AllReadyH.nil))
        · go_simp
          refine hKK.out _ _ ?_ (fun hHeld => ?_)
          · exact cell_of HBY.out 4
          clear hKK KK
          (try simp only [Act.put, List.getElem_toArray, List.getElem_cons_succ, List.getElem_cons_zero]); (try simp only [List.setIfInBounds_toArray]); (repeat (first | simp only [List.set_cons_succ] | simp only [List.set_cons_zero]))
          refine wpAnyH_ready (rs := [11]) (by kernel_rfl) (by simp) ?_
          refine (AllReadyH.cons rfl (fun KK hKK => ?_) AllReadyH.nil)
          go_simp
          refine hKK.out _ _ ?_ (fun hHeld => ?_)
          · exact cell_of ((Below.heap_alloc _ _ bx (lt_of HBY.out)).trans HBY.out) 4
          clear hKK KK
          (try simp only [Act.put, List.getElem_toArray, List.getElem_cons_succ, List.getElem_cons_zero]); (try simp only [List.setIfInBounds_toArray]); (repeat (first | simp only [List.set_cons_succ] | simp only [List.set_cons_zero]))
          refine wpAnyH_ready (rs := [12]) (by kernel_rfl) (by simp) ?_
          refine (AllReadyH.cons rfl (fun KK hKK => ?_) AllReadyH.nil)
          refine step_append_base rfl (.tmp 111) (.tmp 118) 31 rfl 0 30 i0 (.int .u64 0) 1 8 Try.underlying31 hi hz0 hz1 hz2 rfl (by decide) gv got.length _ rfl (HR4.out.alloc _) ⟨Y4.heap.size, 0, none⟩ 1 1 [.int .u64 ((alAt most next vals.length : Nat) : Int)] rfl rfl (cells_new _ _ rfl _ _) (by intro u hu; simp at hu; subst hu; rfl) (by unfold maxLen; omega) (by omega) (Nat.zero_le _) ?_
          intro v5 w5 r1 r2 r4
          have HR := keepH (got_end (r := alAt most next vals.length) HA4.out HPB4.out HR4.out HDD.out r1 r2 r4)
          have hb5 : w5.heap[bx]? = some (.cells #[.int .u8 5, .int .u64 (ad : Int), .int .u64 (a : Int), .int .u64 (bb : Int), .slice vp vals.length vc] 33 (0, 0)) := (r2.block bx (by rw [World.size_alloc]; have := lt_of HBY.out; omega) (fun e => HSM.out bx e.symm rfl)).trans ((Below.heap_alloc _ _ bx (lt_of HBY.out)).trans HBY.out)
          have HB5 := keepH hb5
          clear r1 r2 r4 hb5
          obtain ⟨g5, c5q, hv5⟩ := HR.out.sls
          obtain ⟨gg, hcell⟩ := HR.out.cell
          have hfr := HR.out.free
          subst hv5
          refine hKK.out _ _ ?_ (fun hHeld => ?_)
          · exact cell_of HB5.out 4
          clear hKK KK
          (try simp only [Act.put, List.getElem_toArray, List.getElem_cons_succ, List.getElem_cons_zero]); (try simp only [List.setIfInBounds_toArray]); (repeat (first | simp only [List.set_cons_succ] | simp only [List.set_cons_zero]))
          refine wpAnyH_take (i := 13) (v := ?_) rfl (by kernel_rfl) (by kernel_rfl) (by kernel_rfl) (fun _ _ _ h => h) (Or.inl ⟨by rfl, ?_⟩) hHeld ?_
          rotate_left
          · intro w hSw
            (try dsimp only at hSw)
            go_simp
            try with_reducible rfl
          (try simp only [Act.put, List.getElem_toArray, List.getElem_cons_succ, List.getElem_cons_zero]); (try simp only [List.setIfInBounds_toArray]); (repeat (first | simp only [List.set_cons_succ] | simp only [List.set_cons_zero]))
          refine wpAnyH_take (i := 14) (v := ?_) rfl (by kernel_rfl) (by kernel_rfl) (by kernel_rfl) (fun _ _ _ h => h) (Or.inl ⟨by rfl, ?_⟩) hHeld ?_
          rotate_left
          · intro w hSw
            (try dsimp only at hSw)
            go_simp
            try with_reducible rfl
          (try simp only [Act.put, List.getElem_toArray, List.getElem_cons_succ, List.getElem_cons_zero]); (try simp only [List.setIfInBounds_toArray]); (repeat (first | simp only [List.set_cons_succ] | simp only [List.set_cons_zero]))
          refine wpAnyH_ready (rs := [15]) (by kernel_rfl) (by simp) ?_
          refine (AllReadyH.cons rfl (fun KK hKK => ?_) AllReadyH.nil)
          go_simp
          refine hKK.out _ _ ?_ (fun hHeld => ?_)
          · exact cell_of ((Below.heap_setCell _ _ _ bx (fun q => HPN.out q.symm)).trans HB5.out) 4
          clear hKK KK
          (try simp only [Act.put, List.getElem_toArray, List.getElem_cons_succ, List.getElem_cons_zero]); (try simp only [List.setIfInBounds_toArray]); (repeat (first | simp only [List.set_cons_succ] | simp only [List.set_cons_zero]))
          refine wpAnyH_done (by kernel_rfl) ?_ _
          go_simp
          have HR6a := keepH HR.out.own
          have HR6b := keepH HR.out.blk
          have HR6c := keepH HR.out.row
          obtain ⟨Y6, hY6⟩ : ∃ Y6, Y6 = w5.setCell ⟨pb, 2, none⟩ (.slice (some ⟨g5, 0, none⟩) (got.length + 1) c5q) := ⟨_, rfl⟩
          rw [← hY6] at HR6a HR6b HR6c
          clear hcell hfr
          have v0 : Y6.cell? ⟨pb, 0, none⟩ = some (.slice (some ⟨bk, off, none⟩) L.length lc) := cell_of HR6b.out 0
          have v1 : Y6.cell? ⟨pb, 1, none⟩ = some (.int .i64 ((at_ : Int) + 1)) := cell_of HR6b.out 1
          by_cases hend : L.length ≤ at_ + 1
          · have y1 : (L.length : Int) ≤ (at_ : Int) + 1 := by omega
            have y2 : decide (L.length ≤ at_ + 1) = true := decide_eq_true hend
            go_upto_region 19 with fail
            rw [← hY6]; clear hY6
            go_quiet (fail)
            (try go_wp2_with fail)
            go_ret
            refine ⟨by simp [hend], ?_⟩
            unfold mkT mkG mkM mkR mkA
            simp only [isA]
            simp only [Int.reduceEq, Int.reduceLE, decide_true, Bool.and_self, if_true, if_false]
            exact ⟨F4, _, made + 1, HR6a.out.drewN _, by omega, ⟨_, HR6b.out, row_kept HR6c.out (fun k _ => rfl), fun k => Iff.rfl⟩⟩
          · have y1 : ¬ (L.length : Int) ≤ (at_ : Int) + 1 := by omega
            have y2 : decide (L.length ≤ at_ + 1) = false := decide_eq_false hend
            go_upto_region 19 with fail
            rw [← hY6]; clear hY6
            go_quiet (fail)
            (try go_wp2_with fail)
            go_ret
            refine ⟨by simp, ?_⟩
            unfold mkT mkG mkM mkR mkA
            simp only [isA]
            simp only [Int.reduceEq, Int.reduceLE, decide_true, Bool.and_self, if_true, if_false]
            exact ⟨F4, _, made + 1, HR6a.out.drewN _, by omega, ⟨_, HR6b.out, row_kept HR6c.out (fun k _ => rfl), fun k => Iff.rfl⟩⟩
        · go_simp
          refine hKK.out _ _ ?_ (fun hHeld => ?_)
          · exact cell_of ((Below.heap_alloc _ _ bx (lt_of HBY.out)).trans HBY.out) 4
          clear hKK KK
          (try simp only [Act.put, List.getElem_toArray, List.getElem_cons_succ, List.getElem_cons_zero]); (try simp only [List.setIfInBounds_toArray]); (repeat (first | simp only [List.set_cons_succ] | simp only [List.set_cons_zero]))
          refine wpAnyH_ready (rs := [4]) (by kernel_rfl) (by simp) ?_
          refine (AllReadyH.cons rfl (fun KK hKK => ?_) AllReadyH.nil)
          go_simp
          refine hKK.out _ _ ?_ (fun hHeld => ?_)
          · exact cell_of ((Below.heap_alloc _ _ bx (lt_of HBY.out)).trans HBY.out) 4
          clear hKK KK
          (try simp only [Act.put, List.getElem_toArray, List.getElem_cons_succ, List.getElem_cons_zero]); (try simp only [List.setIfInBounds_toArray]); (repeat (first | simp only [List.set_cons_succ] | simp only [List.set_cons_zero]))
          refine wpAnyH_ready (rs := [12]) (by kernel_rfl) (by simp) ?_
          refine (AllReadyH.cons rfl (fun KK hKK => ?_) AllReadyH.nil)
          refine step_append_base rfl (.tmp 111) (.tmp 118) 31 rfl 0 30 i0 (.int .u64 0) 1 8 Try.underlying31 hi hz0 hz1 hz2 rfl (by decide) gv got.length _ rfl (HR4.out.alloc _) ⟨Y4.heap.size, 0, none⟩ 1 1 [.int .u64 ((alAt most next vals.length : Nat) : Int)] rfl rfl (cells_new _ _ rfl _ _) (by intro u hu; simp at hu; subst hu; rfl) (by unfold maxLen; omega) (by omega) (Nat.zero_le _) ?_
          intro v5 w5 r1 r2 r4
          have HR := keepH (got_end (r := alAt most next vals.length) HA4.out HPB4.out HR4.out HDD.out r1 r2 r4)
          have hb5 : w5.heap[bx]? = some (.cells #[.int .u8 5, .int .u64 (ad : Int), .int .u64 (a : Int), .int .u64 (bb : Int), .slice vp vals.length vc] 33 (0, 0)) := (r2.block bx (by rw [World.size_alloc]; have := lt_of HBY.out; omega) (fun e => HSM.out bx e.symm rfl)).trans ((Below.heap_alloc _ _ bx (lt_of HBY.out)).trans HBY.out)
          have HB5 := keepH hb5
          clear r1 r2 r4 hb5
          obtain ⟨g5, c5q, hv5⟩ := HR.out.sls
          obtain ⟨gg, hcell⟩ := HR.out.cell
          have hfr := HR.out.free
          subst hv5
          refine hKK.out _ _ ?_ (fun hHeld => ?_)
          · exact cell_of HB5.out 4
          clear hKK KK
          (try simp only [Act.put, List.getElem_toArray, List.getElem_cons_succ, List.getElem_cons_zero]); (try simp only [List.setIfInBounds_toArray]); (repeat (first | simp only [List.set_cons_succ] | simp only [List.set_cons_zero]))
          refine wpAnyH_take (i := 13) (v := ?_) rfl (by kernel_rfl) (by kernel_rfl) (by kernel_rfl) (fun _ _ _ h => h) (Or.inl ⟨by rfl, ?_⟩) hHeld ?_
          rotate_left
          · intro w hSw
            (try dsimp only at hSw)
            go_simp
            try with_reducible rfl
          (try simp only [Act.put, List.getElem_toArray, List.getElem_cons_succ, List.getElem_cons_zero]); (try simp only [List.setIfInBounds_toArray]); (repeat (first | simp only [List.set_cons_succ] | simp only [List.set_cons_zero]))
          refine wpAnyH_take (i := 14) (v := ?_) rfl (by kernel_rfl) (by kernel_rfl) (by kernel_rfl) (fun _ _ _ h => h) (Or.inl ⟨by rfl, ?_⟩) hHeld ?_
          rotate_left
          · intro w hSw
            (try dsimp only at hSw)
            go_simp
            try with_reducible rfl
          (try simp only [Act.put, List.getElem_toArray, List.getElem_cons_succ, List.getElem_cons_zero]); (try simp only [List.setIfInBounds_toArray]); (repeat (first | simp only [List.set_cons_succ] | simp only [List.set_cons_zero]))
          refine wpAnyH_ready (rs := [15]) (by kernel_rfl) (by simp) ?_
          refine (AllReadyH.cons rfl (fun KK hKK => ?_) AllReadyH.nil)
          go_simp
          refine hKK.out _ _ ?_ (fun hHeld => ?_)
          · exact cell_of ((Below.heap_setCell _ _ _ bx (fun q => HPN.out q.symm)).trans HB5.out) 4
          clear hKK KK
          (try simp only [Act.put, List.getElem_toArray, List.getElem_cons_succ, List.getElem_cons_zero]); (try simp only [List.setIfInBounds_toArray]); (repeat (first | simp only [List.set_cons_succ] | simp only [List.set_cons_zero]))
          refine wpAnyH_done (by kernel_rfl) ?_ _
          go_simp
          have HR6a := keepH HR.out.own
          have HR6b := keepH HR.out.blk
          have HR6c := keepH HR.out.row
          obtain ⟨Y6, hY6⟩ : ∃ Y6, Y6 = w5.setCell ⟨pb, 2, none⟩ (.slice (some ⟨g5, 0, none⟩) (got.length + 1) c5q) := ⟨_, rfl⟩
          rw [← hY6] at HR6a HR6b HR6c
          clear hcell hfr
          have v0 : Y6.cell? ⟨pb, 0, none⟩ = some (.slice (some ⟨bk, off, none⟩) L.length lc) := cell_of HR6b.out 0
          have v1 : Y6.cell? ⟨pb, 1, none⟩ = some (.int .i64 ((at_ : Int) + 1)) := cell_of HR6b.out 1
          by_cases hend : L.length ≤ at_ + 1
          · have y1 : (L.length : Int) ≤ (at_ : Int) + 1 := by omega
            have y2 : decide (L.length ≤ at_ + 1) = true := decide_eq_true hend
            go_upto_region 19 with fail
            rw [← hY6]; clear hY6
            go_quiet (fail)
            (try go_wp2_with fail)
            go_ret
            refine ⟨by simp [hend], ?_⟩
            unfold mkT mkG mkM mkR mkA
            simp only [isA]
            simp only [Int.reduceEq, Int.reduceLE, decide_true, Bool.and_self, if_true, if_false]
            exact ⟨F4, _, made + 1, HR6a.out.drewN _, by omega, ⟨_, HR6b.out, row_kept HR6c.out (fun k _ => rfl), fun k => Iff.rfl⟩⟩
          · have y1 : ¬ (L.length : Int) ≤ (at_ : Int) + 1 := by omega
            have y2 : decide (L.length ≤ at_ + 1) = false := decide_eq_false hend
            go_upto_region 19 with fail
            rw [← hY6]; clear hY6
            go_quiet (fail)
            (try go_wp2_with fail)
            go_ret
            refine ⟨by simp, ?_⟩
            unfold mkT mkG mkM mkR mkA
            simp only [isA]
            simp only [Int.reduceEq, Int.reduceLE, decide_true, Bool.and_self, if_true, if_false]
            exact ⟨F4, _, made + 1, HR6a.out.drewN _, by omega, ⟨_, HR6b.out, row_kept HR6c.out (fun k _ => rfl), fun k => Iff.rfl⟩⟩
end Go.Proofs.Ytnhiodmigmmfgaa
