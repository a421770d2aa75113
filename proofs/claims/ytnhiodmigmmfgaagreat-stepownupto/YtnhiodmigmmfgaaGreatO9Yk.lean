/- The document's memory: an access with values is noted; Alloc, Left. -/
import Derived.Test.YtnhiodmigmmfgaaGreatO8RMemX
import Derived.Test.YtnhiodmigmmfgaaGreatO2Ops
import Derived.Test.YtnhiodmigmmfgaaGreatO5Yb
import Derived.Test.YtnhiodmigmmfgaaGreatO7Y6
namespace Go.Proofs.YtnhiodmigmmfgaaGreat
open Go.RowKit Go.Shelf
set_option linter.unusedVariables false

theorem rnote_endV {pv : Option Addr} {cv : Nat} {vals : List Nat} {W w2 w3 : World} {R : Nat → Prop} {nm nc n next g' c3 : Nat} {av : Value} {os cs : List Nat} {l : List Acc} {th : Int} {kind addr x y got : Nat} {ok : Bool}
    (h : RMemAt W R nm nc av n next os cs l) (hvs : W.ownsRow 0 75 1 (.slice pv vals.length cv) vals.length (vals.map u64V)) (hvR : ∀ k, (.slice pv vals.length cv : Value).ownBlock = some k → ¬ R k) (hk2 : ∀ k, k < W.heap.size → w2.heap[k]? = W.heap[k]?) (hc2 : Chg R W w2) (hg : w2.grownBy w3 av.ownBlock)
    (hb3 : w3.heap[nm]? = some (.cells (rmCells nc n next av) 115 (0, 0)))
    (ho : w3.ownsRow 0 144 8 (.slice (some ⟨g', 0, none⟩) (l.length + 1) c3) (l.length + 1) (accRow l ++ [.int .i64 th, .int .u8 (kind : Int), .int .u64 (addr : Int), .int .u64 (x : Int), .int .u64 (y : Int), .slice pv vals.length cv, .int .u64 (got : Int), .bool ok]))
    (hw2 : av.ownBlock = some g' ∨ W.heap.size ≤ g') :
    ∃ R', RMem (w3.setCell ⟨nm, 2, none⟩ (.slice (some ⟨g', 0, none⟩) (l.length + 1) c3)) R' nm n next cs (l ++ [⟨th, kind, addr, x, y, .slice pv vals.length cv, vals, got, ok⟩]) ∧ Chg R W (w3.setCell ⟨nm, 2, none⟩ (.slice (some ⟨g', 0, none⟩) (l.length + 1) c3)) ∧ ∀ k, R' k → R k ∨ W.heap.size ≤ k ∨ (.slice pv vals.length cv : Value).ownBlock = some k := by
  have gb : g' ≠ nm := fun e => block_apart ho hb3 (by decide) (by rw [e]; rfl)
  have szW := hc2.size
  have sz3 := hg.size
  have hsz : (w3.setCell ⟨nm, 2, none⟩ (.slice (some ⟨g', 0, none⟩) (l.length + 1) c3)).heap.size = w3.heap.size := by simp [World.setCell]
  have k3 : ∀ k, k < W.heap.size → k ≠ nm → av.ownBlock ≠ some k → (w3.setCell ⟨nm, 2, none⟩ (.slice (some ⟨g', 0, none⟩) (l.length + 1) c3)).heap[k]? = W.heap[k]? := fun k hk h1 h2 =>
    (Below.heap_setCell _ _ _ _ h1).trans ((hg.block k (by omega) (fun e => h2 e.symm)).trans (hk2 k hk))
  refine ⟨fun k => (R k ∨ k = g') ∨ (.slice pv vals.length cv : Value).ownBlock = some k, ⟨nc, .slice (some ⟨g', 0, none⟩) (l.length + 1) c3, os, ?_, ?_, h.os, ?_, ?_, .inl (.inl h.inn), .inl (.inl h.inc), ?_, ?_, ?_, ?_, h.nn, h.small⟩, ?_, ?_⟩
  · exact set_of hb3 2 _
  · refine (k3 nc (h.lt nc h.inc) (fun e => ?_) (fun e => block_apart h.acc h.own (by decide) e)).trans h.own
    have e1 := h.own
    rw [IsOwn, e, h.blk] at e1
    simp at e1
  · have r := row_kept (W' := w3.setCell ⟨nm, 2, none⟩ (.slice (some ⟨g', 0, none⟩) (l.length + 1) c3)) ho fun k e => Below.heap_setCell _ _ _ _ (by simp [Value.ownBlock] at e; rw [← e]; exact gb)
    simpa [accRow, Acc.cells] using r
  · intro z hz
    rcases List.mem_append.1 hz with hz | hz
    · exact row_kept (h.vals z hz) fun k e => k3 k (h.lt k (h.inv z hz k e)) (fun e2 => block_apart (h.vals z hz) h.blk (by decide) (by rw [e, e2])) (fun e2 => rows_apart (h.vals z hz) h.acc (by decide) k e e2)
    · obtain rfl := List.mem_singleton.1 hz
      exact row_kept hvs fun k e => k3 k (row_lt hvs k e) (fun e2 => hvR k e (by rw [e2]; exact h.inn)) (fun e2 => hvR k e (h.ina k e2))
  · intro k e
    simp [Value.ownBlock] at e
    exact .inl (.inr e.symm)
  · intro z hz k e
    rcases List.mem_append.1 hz with hz | hz
    · exact .inl (.inl (h.inv z hz k e))
    · obtain rfl := List.mem_singleton.1 hz
      exact .inr e
  · intro z hz e
    rcases List.mem_append.1 hz with hz | hz
    · exact h.ne z hz e
    · obtain rfl := List.mem_singleton.1 hz
      exact hvR nc e h.inc
  · rw [hsz]
    rintro k ((hk | rfl) | e)
    · have := h.lt k hk
      omega
    · exact row_lt ho k rfl
    · have := row_lt hvs k e
      omega
  · exact ((hc2.grown hg (fun k e _ => h.ina k e))).setCell (fun _ => h.inn) _
  · rintro k ((hk | rfl) | e)
    · exact .inl hk
    · rcases hw2 with e | e
      · exact .inl (h.ina k e)
      · exact .inr (.inl e)
    · exact .inr (.inr e)

set_option maxRecDepth 100000 in
theorem r_noteV (pv : Option Addr) (cv : Nat) (vals : List Nat) (nm n next : Nat) (th : Int) (kind addr x y got : Nat) (ok : Bool) (R : Nat → Prop) (cs : List Nat) (l : List Acc) (W : World) (h : RMem W R nm n next cs l) (hl : l.length < 1099511627776) (hvs : W.ownsRow 0 75 1 (.slice pv vals.length cv) vals.length (vals.map u64V)) (hvR : ∀ k, (.slice pv vals.length cv : Value).ownBlock = some k → ¬ R k) :
    Calls Tryz.prog 80 #[.pointer (some ⟨nm, 0, none⟩), accV th kind addr x y (.slice pv vals.length cv) got ok] W fun e W' => e = .returned (.tuple #[]) ∧ ∃ R', RMem W' R' nm n next cs (l ++ [⟨th, kind, addr, x, y, .slice pv vals.length cv, vals, got, ok⟩]) ∧ Chg R W W' ∧ ∀ k, R' k → R k ∨ W.heap.size ≤ k ∨ (.slice pv vals.length cv : Value).ownBlock = some k := by
  obtain ⟨i0, hi, hz0, hz1, hz2⟩ := info_parts infoA
  unfold accV
  obtain ⟨nc, av, os, h⟩ := h
  have hbl := lt_of h.blk
  obtain ⟨pa, ca, rfl⟩ := slice_of h.acc
  obtain ⟨w1, hw1⟩ : ∃ w1, w1 = W.alloc (.cells #[.int .i64 th, .int .u8 (kind : Int), .int .u64 (addr : Int), .int .u64 (x : Int), .int .u64 (y : Int), .slice pv vals.length cv, .int .u64 (got : Int), .bool ok] 144) := ⟨_, rfl⟩
  have hB1 : Hid (w1.heap[W.heap.size]? = some (.cells #[.int .i64 th, .int .u8 (kind : Int), .int .u64 (addr : Int), .int .u64 (x : Int), .int .u64 (y : Int), .slice pv vals.length cv, .int .u64 (got : Int), .bool ok] 144 (0, 0))) := by rw [hw1]; exact heap_alloc_new _ _
  have hk1 : Hid (∀ k, k < W.heap.size → w1.heap[k]? = W.heap[k]?) := fun k hk => by rw [hw1]; exact Below.heap_alloc _ _ _ hk
  have hs1 : w1.heap.size = W.heap.size + 1 := by rw [hw1]; simp
  have hC1 : Hid (Chg R W w1) := by rw [hw1]; exact (Chg.refl R W).alloc _
  have hb1 : Hid (w1.heap[nm]? = some (.cells (rmCells nc n next (.slice pa l.length ca)) 115 (0, 0))) := (hk1.out nm hbl).trans h.blk
  have HA : Hid (w1.drew.ownsRow 0 144 8 (.slice pa l.length ca) l.length (accRow l)) := row_kept (W := W) h.acc fun k e => (hk1.out k (row_lt h.acc k e))
  have q0 := (cell_of hB1.out 0).trans rfl
  have q1 := (cell_of hB1.out 1).trans rfl
  have q2 := (cell_of hB1.out 2).trans rfl
  have q3 := (cell_of hB1.out 3).trans rfl
  have q4 := (cell_of hB1.out 4).trans rfl
  have q5 := (cell_of hB1.out 5).trans rfl
  have q6 := (cell_of hB1.out 6).trans rfl
  have q7 := (cell_of hB1.out 7).trans rfl
  have r2 : w1.cell? ⟨nm, 2, none⟩ = some (.slice pa l.length ca) := cell_of hb1.out 2
  have r3 : w1.cell? ⟨nm, 3, none⟩ = some (.bool false) := cell_of hb1.out 3
  have H := keepH h
  have HVS := keepH hvs
  have HVR := keepH hvR
  clear hvs hvR
  have ne1 : ¬ nm = w1.heap.size := by omega
  have qa : ∀ o, (w1.alloc o).cell? ⟨nm, 2, none⟩ = some (.slice pa l.length ca) := fun o => cell_of (alloc_of hb1.out o) 2
  have HS1 := keepH hs1
  have HW1 := keepH hw1
  clear h hs1 hw1
  go_enter Tryz.func80, Tryz.ntmps80
  go_upto_region 1 with fail
  rw [← HW1.out]
  clear HW1
  go_wp2_with fail
  go_region_law (refine step_append_own rfl (.tmp 13) (.tmp 15) 113 rfl 144 i0 (accV 0 0 0 0 0 (.slice none 0 0) 0 false) 8 80 Tryz.underlying113 hi hz0 hz1 hz2 rfl (by decide) (.slice pa l.length ca) l.length (accRow l) rfl (HA.out.alloc _) ⟨w1.heap.size, 0, none⟩ 1 1 [.int .i64 th, .int .u8 (kind : Int), .int .u64 (addr : Int), .int .u64 (x : Int), .int .u64 (y : Int), .slice pv vals.length cv, .int .u64 (got : Int), .bool ok] rfl rfl (cells_new _ _ rfl _ _) (by simp [Value.oneCell']) (by unfold maxLen; omega) (by omega) ?_; intro v' w3 hown3 hgr3 _ hwh3; obtain ⟨g', c3, rfl⟩ := slice_pos hown3 (Nat.succ_pos _); have hb3 : Hid (w3.heap[nm]? = some (.cells (rmCells nc n next (.slice pa l.length ca)) 115 (0, 0))) := (hgr3.block nm (by have := lt_of hb1.out; simp; omega) (fun e => block_apart H.out.acc H.out.blk (by decide) e.symm)).trans (alloc_of (W := w1.drew) hb1.out _); have r8 : w3.cell? ⟨nm, 2, none⟩ = some (.slice pa l.length ca) := cell_of hb3.out 2; have rf := free_of hb3.out 2; have HO := keepH hown3; have HW3 := keepH hwh3; have HG3 := keepH hgr3; clear hown3 hwh3 hgr3)
  all_goals (go_wp2_with fail)
  all_goals go_end0
  all_goals (refine ⟨rfl, rnote_endV H.out HVS.out HVR.out (fun k hk => ?_) ?_ HG3.out hb3.out HO.out ?_⟩)
  all_goals first
    | exact (Below.heap_alloc w1.drew _ _ (by have := HS1.out; show _ < w1.heap.size; omega)).trans (hk1.out k hk)
    | exact hC1.out.drew.alloc _
    | (rcases HW3.out with e2 | e2
       · exact .inl e2.symm
       · simp [Value.ownBlock] at e2; exact .inr (by have := HS1.out; omega))
set_option maxRecDepth 100000 in
theorem r_left (nm n next : Nat) (R : Nat → Prop) (cs : List Nat) (l : List Acc) (W : World) (h : RMem W R nm n next cs l) (hnx : next ≤ n) : Calls Tryz.prog 90 #[.pointer (some ⟨nm, 0, none⟩)] W fun e W' => e = .returned (.int .i64 ((n - next : Nat) : Int)) ∧ ∃ q, W' = W.drewN q := by
  obtain ⟨nc, av, os, h⟩ := h
  have c0 : W.cell? ⟨nm, 0, none⟩ = some (.slice (some ⟨nc, 0, none⟩) n n) := cell_of h.blk 0
  have c1 : W.cell? ⟨nm, 1, none⟩ = some (.int .i64 (next : Int)) := cell_of h.blk 1
  have nn := h.nn
  have kw : IntKind.i64.wrap ((n : Int) - (next : Int)) = ((n - next : Nat) : Int) := by rw [IntKind.wrap_i64]; omega
  clear h
  go_enter Tryz.func90, Tryz.ntmps90
  go_wp2_with fail
  go_quiet (fail)
  go_wp2_with fail
  all_goals first
    | exact ⟨rfl, nq, rfl⟩
    | (go_ret; exact ⟨rfl, nq, rfl⟩)
    | (go_ret; trace_state)
end Go.Proofs.YtnhiodmigmmfgaaGreat
/- The document's memory: Alloc. -/
namespace Go.Proofs.YtnhiodmigmmfgaaGreat
open Go.RowKit Go.Shelf
set_option linter.unusedVariables false

theorem RMem.drewN {W : World} {R : Nat → Prop} {nm n next : Nat} {cs : List Nat} {l : List Acc} (h : RMem W R nm n next cs l) (q : Nat) : RMem (W.drewN q) R nm n next cs l := by
  obtain ⟨nc, av, os, h⟩ := h
  exact ⟨nc, av, os, h.kept (Nat.le_refl _) (fun _ _ => rfl)⟩
theorem RMem.grown {W W' : World} {R : Nat → Prop} {nm n next : Nat} {cs : List Nat} {l : List Acc} (h : RMem W R nm n next cs l) (hg : W.grownBy W' none) : RMem W' R nm n next cs l := by
  obtain ⟨nc, av, os, h⟩ := h
  exact ⟨nc, av, os, h.kept hg.size (fun k e => hg.block k (h.lt k e) (by simp))⟩

set_option maxRecDepth 100000 in
theorem r_alloc0 (nm n next : Nat) (th : Int) (p : Option Addr) (c : Nat) (R : Nat → Prop) (cs : List Nat) (l : List Acc) (W : World) (h : RMem W R nm n next cs l) (hnx : next ≤ n) (hl : l.length < 1099511627776) :
    Calls Tryz.prog 85 #[.pointer (some ⟨nm, 0, none⟩), .int .i64 th, .slice p 0 c] W fun e W' => e = .returned (.int .u64 0) ∧ ∃ R' vs, RMem W' R' nm n next cs (l ++ [⟨th, 5, 0, 0, 0, vs, [], 0, false⟩]) ∧ Goes W W' R R' := by
  obtain ⟨i0, hi, hz0, hz1, hz2⟩ := info_parts infoU
  have hrun := fun W ty => run_append_empty (P := Tryz.prog) W 110 ty 75 i0 Tryz.underlying110 hi p c
  have HB := keepH h
  clear h
  go_enter Tryz.func85, Tryz.ntmps85
  go_wp2_with (at_builtin; refine Lib.wpList_append_run _ rfl _ _ 110 110 rfl (.slice none 0 0) (.slice p 0 c) rfl rfl _ _ (hrun _ _) ?_)
  refine (r_noteV none 0 [] nm n next th 5 0 0 0 0 false R cs l _ HB.out hl (World.ownsRow_nil _ _ _ _) (by simp [Value.ownBlock])).mono ?_
  rintro e w' ⟨rfl, R', hR, hC, hN⟩
  have HR := keepH hR
  clear hR
  go_wp2_with fail
  go_ret
  exact ⟨by simp, R', _, HR.out, hC, fun k hk => (hN k hk).imp_right fun e => e.elim id (by simp [Value.ownBlock])⟩
theorem grown_goes {W w1 W' : World} {R R' : Nat → Prop} {v : Value} (hg : W.grownBy w1 none) (hv : v.ownBlock = none ∨ v.ownBlock = some W.heap.size) (hC : Chg R w1 W') (hN : ∀ k, R' k → R k ∨ w1.heap.size ≤ k ∨ v.ownBlock = some k) : Goes W W' R R' := by
  have h1 : Chg R W w1 := ⟨hg.os, hg.tape, hg.output, hg.size, fun k hk _ => hg.block k hk (by simp)⟩
  refine ⟨h1.trans hC (fun _ _ x => x) (fun _ _ x => x), fun k hk => ?_⟩
  rcases hN k hk with e | e | e
  · exact .inl e
  · exact .inr (Nat.le_trans hg.size e)
  · rcases hv with e2 | e2
    · rw [e2] at e; simp at e
    · rw [e2] at e; simp at e; exact .inr (by omega)

set_option maxRecDepth 100000 in
theorem r_alloc1 (nm n next : Nat) (th : Int) (ad : Addr) (c : Nat) (vals : List Nat) (R : Nat → Prop) (cs : List Nat) (l : List Acc) (W : World) (h : RMem W R nm n next cs l) (hnx : next ≤ n) (hl : l.length < 1099511627776)
    (hr : ∀ j u, (vals.map u64V)[j]? = some u → W.cell? (ad.add j) = some u) (h0 : 0 < vals.length) (hno : n - next < vals.length) (hvl : vals.length ≤ 17592186043904) :
    Calls Tryz.prog 85 #[.pointer (some ⟨nm, 0, none⟩), .int .i64 th, .slice (some ad) vals.length c] W fun e W' => e = .returned (.int .u64 0) ∧ ∃ R' vs, RMem W' R' nm n next cs (l ++ [⟨th, 5, 0, 0, 0, vs, vals, 0, false⟩]) ∧ Goes W W' R R' := by
  obtain ⟨i0, hi, hz0, hz1, hz2⟩ := info_parts infoU
  have t0 : (0 : Int) < (vals.length : Int) := by omega
  have t1 : ¬ (vals.length : Int) ≤ ((n - next : Nat) : Int) := by omega
  have t1' : ¬ vals.length ≤ n - next := by omega
  have HB := keepH h
  have HR := keepH hr
  have HLt : Hid (∀ k, R k → k < W.heap.size) := fun k hk => h.lt k hk
  clear h hr
  go_enter Tryz.func85, Tryz.ntmps85
  go_wp2_with fail
  refine (r_left nm n next R cs l _ HB.out hnx).mono ?_
  rintro e w' ⟨rfl, q, rfl⟩
  go_wp2_with (at_builtin; refine wpList_append_own_at _ rfl _ _ 110 rfl 0 75 i0 (.int .u64 0) 1 8 Tryz.underlying110 hi hz0 hz1 hz2 rfl (by decide) (.slice none 0 0) 0 [] rfl (World.ownsRow_nil _ _ _ _) ad vals.length c (vals.map u64V) rfl (by simp) HR.out (by intro u hu; obtain ⟨x, _, rfl⟩ := List.mem_map.1 hu; rfl) (by unfold maxLen; omega) (by omega) (Nat.zero_le _) ?_; intro v w1 h1 h2 h3 h4; obtain ⟨g', c3, rfl⟩ := slice_pos h1 (by omega); have H1 := keepH h1; have H2 := keepH h2; have H4 := keepH h4; clear h1 h2 h3 h4)
  have H1' : w1.ownsRow 0 75 1 (.slice (some ⟨g', 0, none⟩) vals.length c3) vals.length (vals.map u64V) := by simpa using H1.out
  have G1 : (W.drewN q).grownBy w1 none := H2.out
  have V1 : (.slice (some ⟨g', 0, none⟩) vals.length c3 : Value).ownBlock = none ∨ (.slice (some ⟨g', 0, none⟩) vals.length c3 : Value).ownBlock = some (W.drewN q).heap.size := by have e := H4.out; rw [Nat.zero_add] at e; exact e
  have hvR : ∀ k, (.slice (some ⟨g', 0, none⟩) vals.length c3 : Value).ownBlock = some k → ¬ R k := fun k e hk => by
    have := HLt.out k hk
    rcases V1 with e2 | e2 <;> rw [e2] at e <;> simp at e
    have e3 : W.heap.size = k := e
    omega
  refine (r_noteV (some ⟨g', 0, none⟩) c3 vals nm n next th 5 0 0 0 0 false R cs l _ ((HB.out.drewN q).grown G1) hl H1' hvR).mono ?_
  have HG := keepH G1
  have HV1 := keepH V1
  clear H1' G1 V1 hvR H1 H2 H4 HB HR
  rintro e w' ⟨rfl, R', hR, hC, hN⟩
  have HR' := keepH hR
  have HC := keepH hC
  have HN := keepH hN
  clear hR hC hN
  go_wp2_with fail
  go_ret
  exact ⟨by simp, R', _, HR'.out, (Goes.drewN W R q).trans (grown_goes HG.out HV1.out HC.out HN.out)⟩

theorem RMemAt.setNext {W : World} {R : Nat → Prop} {nm nc n next : Nat} {av : Value} {os cs : List Nat} {l : List Acc} (h : RMemAt W R nm nc av n next os cs l) (nx : Nat) : RMemAt (W.setCell ⟨nm, 1, none⟩ (.int .i64 (nx : Int))) R nm nc av n nx os cs l := by
  have ne : nc ≠ nm := fun e => by
    have e1 := h.own
    rw [IsOwn, e, h.blk] at e1
    simp at e1
  have ob : ∀ k, k ≠ nm → (W.setCell ⟨nm, 1, none⟩ (.int .i64 (nx : Int))).heap[k]? = W.heap[k]? := fun k hk => Below.heap_setCell _ _ _ _ hk
  refine ⟨?_, (ob nc ne).trans h.own, h.os, row_kept h.acc fun k e => ob k (fun e2 => block_apart h.acc h.blk (by decide) (by rw [e, e2])), fun x hx => row_kept (h.vals x hx) fun k e => ob k (fun e2 => block_apart (h.vals x hx) h.blk (by decide) (by rw [e, e2])), h.inn, h.inc, h.ina, h.inv, h.ne, fun k e => by simpa [World.setCell] using h.lt k e, h.nn, h.small⟩
  exact set_of h.blk 1 (.int .i64 (nx : Int))
theorem RMemAt.cells {W : World} {R : Nat → Prop} {nm nc n next : Nat} {av : Value} {os cs cs' : List Nat} {l : List Acc} (h : RMemAt W R nm nc av n next os cs l) (hc : ∀ j, cellN cs' j = cellN cs j) : RMemAt W R nm nc av n next os cs' l :=
  ⟨h.blk, h.own, ⟨h.os.1, fun i hi => (h.os.2.1 i hi).trans (hc i).symm, fun i hi => (hc i).trans (h.os.2.2 i hi)⟩, h.acc, h.vals, h.inn, h.inc, h.ina, h.inv, h.ne, h.lt, h.nn, fun i => by rw [hc]; exact h.small i⟩

def PutR (cs csi vals : List Nat) (next i : Nat) : Prop := ∀ j, cellN csi j = if next ≤ j ∧ j < next + i then cellN vals (j - next) else cellN cs j
theorem PutR.zero (cs vals : List Nat) (next : Nat) : PutR cs cs vals next 0 := fun j => by rw [if_neg (by omega)]
theorem PutR.more {cs csi vals : List Nat} {n next i : Nat} (h : PutR cs csi vals next i) (hn : next + i < n) : PutR cs (stN n csi (next + i) (cellN vals i)) vals next (i + 1) := fun j => by
  rw [stN_cell, h j]
  by_cases e : j = next + i
  · subst e
    rw [if_pos ⟨rfl, hn⟩, if_pos (by omega)]
    congr 1
    omega
  · rw [if_neg (fun x => e x.1)]
    by_cases e2 : next ≤ j ∧ j < next + i
    · rw [if_pos e2, if_pos (by omega)]
    · rw [if_neg e2, if_neg (by omega)]
theorem PutR.all {cs csi vals : List Nat} {n next : Nat} (h : PutR cs csi vals next vals.length) (hok : alOk n next vals.length) (j : Nat) : cellN (alN n next cs vals) j = cellN csi j := by
  unfold alN
  rw [if_pos hok, spliceN_cell _ _ _ (by rw [padN_length]; omega), padN_cell, h j]

set_option maxRecDepth 100000 in
theorem r_alloc2 (nm n next : Nat) (th : Int) (ad : Addr) (c : Nat) (vals : List Nat) (R : Nat → Prop) (cs : List Nat) (l : List Acc) (W : World) (h : RMem W R nm n next cs l) (hnx : next ≤ n) (hl : l.length < 1099511627776)
    (hr : ∀ j u, (vals.map u64V)[j]? = some u → W.cell? (ad.add j) = some u) (hap : ¬ R ad.block) (hv : ∀ x ∈ vals, x < 18446744073709551616) (h0 : 0 < vals.length) (hro : vals.length ≤ n - next) :
    Calls Tryz.prog 85 #[.pointer (some ⟨nm, 0, none⟩), .int .i64 th, .slice (some ad) vals.length c] W fun e W' => e = .returned (.int .u64 (next : Int)) ∧ ∃ R' vs, RMem W' R' nm n (next + vals.length) (alN n next cs vals) (l ++ [⟨th, 5, next, 0, 0, vs, vals, 0, false⟩]) ∧ Goes W W' R R' := by
  obtain ⟨i0, hi, hz0, hz1, hz2⟩ := info_parts infoU
  have t0 : (0 : Int) < (vals.length : Int) := by omega
  have t1 : (vals.length : Int) ≤ ((n - next : Nat) : Int) := by omega
  have HB := keepH h
  have HR := keepH hr
  have HLt : Hid (∀ k, R k → k < W.heap.size) := fun k hk => h.lt k hk
  have HV := keepH hv
  have HAP := keepH hap
  obtain ⟨nc, av, os, h⟩ := h
  have nn := h.nn
  have c1 : W.cell? ⟨nm, 1, none⟩ = some (.int .i64 (next : Int)) := cell_of h.blk 1
  have f1 := free_of h.blk 1
  obtain ⟨nx, hnx2⟩ : ∃ nx, nx = next + vals.length := ⟨_, rfl⟩
  have wn : IntKind.i64.wrap ((next : Int) + (vals.length : Int)) = (nx : Int) := by rw [IntKind.wrap_i64]; omega
  have wm : IntKind.u64.wrap (next : Int) = (next : Int) := u64_lt (by omega)
  have H0 := keepH h
  have HNX := keepH hnx2
  have hle : next + vals.length ≤ n := by omega
  have hin : Hid (R nm) := h.inn
  have hic : Hid (R nc) := h.inc
  clear h hr hv hap hnx2
  go_enter Tryz.func85, Tryz.ntmps85
  go_wp2_with fail
  refine (r_left nm n next R cs l _ HB.out hnx).mono ?_
  rintro e w' ⟨rfl, q, rfl⟩
  go_wp2_with fail
  obtain ⟨X, hX⟩ : ∃ X, X = (W.drewN q).setCell ⟨nm, 1, none⟩ (.int .i64 (nx : Int)) := ⟨_, rfl⟩
  have HX : Hid (RMemAt X R nm nc av n nx os cs l) := by rw [hX]; exact (H0.out.kept (W' := W.drewN q) (Nat.le_refl _) (fun _ _ => rfl)).setNext nx
  have CX : Hid (Chg R W X) := by rw [hX]; exact ((Goes.drewN W R q).chg).setCell (p := ⟨nm, 1, none⟩) (fun _ => hin.out) _
  try rw [← hX]
  clear hX c1 f1 H0 HB
  go_loopw [8] (fun sv wr => ∃ (i : Nat), i ≤ vals.length ∧ sv = .int .i64 (i : Int) ∧ Hid (∃ osi csi, RMemAt wr R nm nc av n nx osi csi l ∧ PutR cs csi vals next i) ∧ Hid (Chg R W wr)) (fun sv _ => vals.length - (intOf sv).toNat)
  case atStart => exact ⟨0, by omega, rfl, ⟨os, cs, HX.out, PutR.zero _ _ _⟩, CX⟩
  case round =>
    obtain ⟨i, hil, rfl, HM, HCh⟩ := hrel
    by_cases hlt : i < vals.length
    · have q1 : (i : Int) < (vals.length : Int) := by omega
      obtain ⟨osi, csi, M, P⟩ := HM.out
      have k0 : wr.cell? ⟨nm, 0, none⟩ = some (.slice (some ⟨nc, 0, none⟩) n n) := cell_of M.blk 0
      have kc := M.own.cell (next + i) (by rw [M.os.1]; omega)
      have kf := free_of M.own (next + i)
      have kv : wr.cell? (ad.add i) = some (.int .u64 (cellN vals i : Int)) := cell_chg HCh.out (HR.out i _ (by simp [cellN, u64V, List.getElem?_eq_getElem hlt])) (by rw [add_block]; exact HAP.out)
      have wi : IntKind.i64.wrap ((next : Int) + (i : Int)) = ((next + i : Nat) : Int) := by rw [IntKind.wrap_i64]; omega
      have wb : ((next + i : Nat) : Int) < (n : Int) := by omega
      have hM := keepH M
      have hP := keepH P
      clear M P
      go_wp2_with fail
      go_region
      all_goals (go_wp2_with fail)
      have hput := hM.out.put (next + i) (cellN vals i) (by omega) (HV.out _ (by simp [cellN, List.getElem?_eq_getElem hlt]))
      exact ⟨⟨i + 1, by omega, by simp, ⟨_, _, hput.1.kept (Nat.le_refl _) (fun _ _ => rfl), hP.out.more (by omega)⟩, (HCh.out.trans hput.2.chg (fun _ _ x => x) (fun _ _ x => x)).drew⟩, by simp [intOf]; omega⟩
    · have q1 : ¬ (i : Int) < (vals.length : Int) := by omega
      obtain rfl : i = vals.length := by omega
      have hsrc : Hid (∀ j u, (vals.map u64V)[j]? = some u → wr.cell? (ad.add j) = some u) := fun j u hj => cell_chg HCh.out (HR.out j u hj) (by rw [add_block]; exact HAP.out)
      have hwl : Hid (∀ k, R k → k < wr.heap.size) := fun k hk => Nat.lt_of_lt_of_le (HLt.out k hk) HCh.out.size
      clear HR HLt
      go_wp2_with (at_builtin; refine wpList_append_own_at _ rfl _ _ 110 rfl 0 75 i0 (.int .u64 0) 1 8 Tryz.underlying110 hi hz0 hz1 hz2 rfl (by decide) (.slice none 0 0) 0 [] rfl (World.ownsRow_nil _ _ _ _) ad vals.length c (vals.map u64V) rfl (by simp) hsrc.out (by intro u hu; obtain ⟨x, _, rfl⟩ := List.mem_map.1 hu; rfl) (by unfold maxLen; omega) (by omega) (Nat.zero_le _) ?_; intro v w1 h1 h2 h3 h4; obtain ⟨g', c3, rfl⟩ := slice_pos h1 (by omega); have H1 := keepH h1; have H2 := keepH h2; have H4 := keepH h4; clear h1 h2 h3 h4)
      have H1' : w1.ownsRow 0 75 1 (.slice (some ⟨g', 0, none⟩) vals.length c3) vals.length (vals.map u64V) := by simpa using H1.out
      have G1 : wr.grownBy w1 none := H2.out
      have V1 : (.slice (some ⟨g', 0, none⟩) vals.length c3 : Value).ownBlock = none ∨ (.slice (some ⟨g', 0, none⟩) vals.length c3 : Value).ownBlock = some wr.heap.size := by have e := H4.out; rw [Nat.zero_add] at e; exact e
      have hvR : ∀ k, (.slice (some ⟨g', 0, none⟩) vals.length c3 : Value).ownBlock = some k → ¬ R k := fun k e hk => by
        have := hwl.out k hk
        rcases V1 with e2 | e2 <;> rw [e2] at e <;> simp at e
        have e3 : wr.heap.size = k := e
        omega
      have hm : RMem wr R nm n nx (alN n next cs vals) l := by
        obtain ⟨osi, csi, M, P⟩ := HM.out
        exact ⟨nc, av, osi, M.cells (fun j => P.all ⟨h0, hro⟩ j)⟩
      refine (r_noteV (some ⟨g', 0, none⟩) c3 vals nm n nx th 5 next 0 0 0 false R (alN n next cs vals) l _ (hm.grown G1) hl H1' hvR).mono ?_
      have HG := keepH G1
      have HV1 := keepH V1
      clear H1' G1 V1 hvR H1 H2 H4 hm HM hsrc HX
      rintro e w' ⟨rfl, R', hR, hC, hN⟩
      have HR' := keepH hR
      have HC := keepH hC
      have HN := keepH hN
      clear hR hC hN
      go_wp2_with fail
      go_ret
      have G3 : Goes W wr R R := ⟨HCh.out, fun _ h => .inl h⟩
      exact ⟨by simp, R', _, by rw [← HNX.out]; exact HR'.out, G3.trans (grown_goes HG.out HV1.out HC.out HN.out)⟩

theorem r_alloc (nm n next : Nat) (th : Int) (p : Option Addr) (c : Nat) (vals : List Nat) (R : Nat → Prop) (cs : List Nat) (l : List Acc) (W : World) (h : RMem W R nm n next cs l) (hnx : next ≤ n) (hl : l.length < 1099511627776)
    (hr : Reads W p vals) (hap : ∀ ad, p = some ad → vals ≠ [] → ¬ R ad.block) (hv : ∀ x ∈ vals, x < 18446744073709551616) (hvl : vals.length ≤ 17592186043904) :
    Calls Tryz.prog 85 #[.pointer (some ⟨nm, 0, none⟩), .int .i64 th, .slice p vals.length c] W fun e W' => e = .returned (.int .u64 (alAt n next vals.length : Int)) ∧ ∃ R' vs, RMem W' R' nm n (alNext n next vals.length) (alN n next cs vals) (l ++ [⟨th, 5, alAt n next vals.length, 0, 0, vs, vals, 0, false⟩]) ∧ Goes W W' R R' := by
  by_cases h1 : vals = []
  · subst h1
    have e0 : ¬ alOk n next ([] : List Nat).length := by simp [alOk]
    have e1 : alAt n next ([] : List Nat).length = 0 := by rw [alAt, if_neg e0]
    have e2 : alNext n next ([] : List Nat).length = next := by rw [alNext, if_neg e0]
    have e3 : alN n next cs [] = cs := by rw [alN, if_neg e0]
    rw [e1, e2, e3]
    exact r_alloc0 nm n next th p c R cs l W h hnx hl
  · have h0 : 0 < vals.length := List.length_pos_iff.2 h1
    obtain ⟨ad, rfl, hrd⟩ : ∃ ad, p = some ad ∧ ∀ j u, (vals.map u64V)[j]? = some u → W.cell? (ad.add j) = some u := by
      rcases hr with hr | hr
      · exact absurd hr h1
      · exact hr
    by_cases h2 : vals.length ≤ n - next
    · have e0 : alOk n next vals.length := ⟨h0, h2⟩
      have e1 : alAt n next vals.length = next := by rw [alAt, if_pos e0]
      have e2 : alNext n next vals.length = next + vals.length := by rw [alNext, if_pos e0]
      rw [e1, e2]
      exact r_alloc2 nm n next th ad c vals R cs l W h hnx hl hrd (hap ad rfl h1) hv h0 h2
    · have e0 : ¬ alOk n next vals.length := fun e => h2 e.2
      have e1 : alAt n next vals.length = 0 := by rw [alAt, if_neg e0]
      have e2 : alNext n next vals.length = next := by rw [alNext, if_neg e0]
      have e3 : alN n next cs vals = cs := by rw [alN, if_neg e0]
      rw [e1, e2, e3]
      exact r_alloc1 nm n next th ad c vals R cs l W h hnx hl hrd h0 (by omega) hvl
end Go.Proofs.YtnhiodmigmmfgaaGreat
/- The document's Make: a plan's step on the document's memory. -/
namespace Go.Proofs.YtnhiodmigmmfgaaGreat
open Go.RowKit Go.Shelf
set_option linter.unusedVariables false

/-- The document's memory with its bare trace. -/
def RM (W : World) (R : Nat → Prop) (nm most next : Nat) (cs : List Nat) (t : List Acc) : Prop := ∃ l, RMem W R nm most next cs l ∧ l.map Acc.bare = t
theorem RM.chg {W W' : World} {R G : Nat → Prop} {nm most next : Nat} {cs : List Nat} {t : List Acc} (h : RM W R nm most next cs t) (hc : Chg G W W') (hd : ∀ k, R k → ¬ G k) : RM W' R nm most next cs t := by
  obtain ⟨l, h1, h2⟩ := h
  exact ⟨l, h1.chg hc hd, h2⟩
theorem RM.lt {W : World} {R : Nat → Prop} {nm most next : Nat} {cs : List Nat} {t : List Acc} (h : RM W R nm most next cs t) (k : Nat) (hk : R k) : k < W.heap.size := by
  obtain ⟨l, h1, h2⟩ := h
  exact h1.lt k hk
theorem mkM_next {most : Nat} {m : Mu} {d : DoP} (h : m.next ≤ most) : (mkM most m d).next ≤ most := by
  unfold mkM
  split
  · exact h
  split
  · exact h
  split
  · exact h
  split
  · show alNext most m.next d.vals.length ≤ most
    unfold alNext
    split
    · rename_i q; have := q.2; omega
    · exact h
  · exact h
set_option maxRecDepth 100000 in
set_option maxHeartbeats 4000000 in
theorem mk_1 {W : World} {R : Nat → Prop} {nm most next : Nat} {cs : List Nat} {t : List Acc} (H : RM W R nm most next cs t) (hnx : next ≤ most) (hl : t.length < 1099511627776) {d : DoP} (hd : d.Ok) (hk : d.kd = 1) {vp : Option Addr} {vc : Nat} (hr : Reads W vp d.vals) (hap : ∀ ad, vp = some ad → d.vals ≠ [] → ¬ R ad.block ∧ ad.block < W.heap.size) (th : Int) :
    Calls Tryz.prog 38 #[.pointer (some ⟨nm, 0, none⟩), .int .i64 th, .agg #[.int .u8 d.kd, .int .u64 (d.ad : Int), .int .u64 (d.a : Int), .int .u64 (d.b : Int), .slice vp d.vals.length vc]] W fun e W' => e = .returned (.int .u64 (mkR most ⟨next, cs⟩ d : Int)) ∧ ∃ R', RM W' R' nm most (mkM most ⟨next, cs⟩ d).next (mkM most ⟨next, cs⟩ d).cs (t ++ [mkA th most ⟨next, cs⟩ d]) ∧ Goes W W' R R' := by
  obtain ⟨kd, ad, a, b, vals⟩ := d
  simp only at hk hr hap
  subst hk
  obtain ⟨o1, o2, o3, o4, o5, o6⟩ := hd
  simp only at o1 o2 o3 o4 o5 o6
  obtain ⟨l, hM, hT⟩ := H
  have hll : l.length = t.length := by rw [← hT]; simp
  obtain ⟨w0, hw0⟩ : ∃ w0, w0 = W.alloc (.cells #[.int .u8 1, .int .u64 (ad : Int), .int .u64 (a : Int), .int .u64 (b : Int), .slice vp vals.length vc] 112) := ⟨_, rfl⟩
  have hC0 : Chg (fun _ => False) W w0 := by rw [hw0]; exact (Chg.refl _ _).alloc _
  have hb : w0.heap[W.heap.size]? = some (.cells #[.int .u8 1, .int .u64 (ad : Int), .int .u64 (a : Int), .int .u64 (b : Int), .slice vp vals.length vc] 112 (0, 0)) := by rw [hw0]; exact heap_alloc_new _ _
  have c0 : w0.cell? ⟨W.heap.size, 0, none⟩ = some (.int .u8 1) := cell_of hb 0
  have c1 : w0.cell? ⟨W.heap.size, 1, none⟩ = some (.int .u64 (ad : Int)) := cell_of hb 1
  have c2 : w0.cell? ⟨W.heap.size, 2, none⟩ = some (.int .u64 (a : Int)) := cell_of hb 2
  have c3 : w0.cell? ⟨W.heap.size, 3, none⟩ = some (.int .u64 (b : Int)) := cell_of hb 3
  have c4 : w0.cell? ⟨W.heap.size, 4, none⟩ = some (.slice vp vals.length vc) := cell_of hb 4
  have HM := keepH (hM.chg hC0 (fun k _ x => x))
  have HT := keepH hT
  have HL : Hid (l.length < 1099511627776) := by show _ < _; omega
  have HGH : Hid (∀ (w1 : World) (R' : Nat → Prop), Goes w0 w1 R R' → Goes W w1 R R') := fun w1 R' g => ⟨hC0.trans g.chg (fun _ _ x => x.elim) (fun _ _ x => x), fun k x => (g.new k x).elim .inl (fun y => .inr (Nat.le_trans hC0.size y))⟩
  have HR := keepH (hr.chg hC0 (fun _ _ _ x => x))
  clear hM hT hll hC0 hb hr
  unfold mkR mkM mkA
  simp only
  go_enter Tryz.func38, Tryz.ntmps38
  go_upto_region 1 with fail
  rw [← hw0]
  clear hw0
  try simp only [Int.reduceEq, if_true, if_false]
  have HR2 := keepH (r_load nm most next ad th R cs l w0 HM.out HL.out o2)
  go_wp2_with fail
  refine HR2.out.mono ?_
  rintro e w2 ⟨rfl, R2, M2, G2⟩
  have HM2 := keepH M2
  have HG2 := keepH (HGH.out _ _ G2)
  clear M2 G2
  go_wp2_with fail
  go_ret
  exact ⟨by simp, R2, ⟨l ++ [_], HM2.out, by rw [List.map_append, HT.out]; rfl⟩, HG2.out⟩
set_option maxRecDepth 100000 in
set_option maxHeartbeats 4000000 in
theorem mk_2 {W : World} {R : Nat → Prop} {nm most next : Nat} {cs : List Nat} {t : List Acc} (H : RM W R nm most next cs t) (hnx : next ≤ most) (hl : t.length < 1099511627776) {d : DoP} (hd : d.Ok) (hk : d.kd = 2) {vp : Option Addr} {vc : Nat} (hr : Reads W vp d.vals) (hap : ∀ ad, vp = some ad → d.vals ≠ [] → ¬ R ad.block ∧ ad.block < W.heap.size) (th : Int) :
    Calls Tryz.prog 38 #[.pointer (some ⟨nm, 0, none⟩), .int .i64 th, .agg #[.int .u8 d.kd, .int .u64 (d.ad : Int), .int .u64 (d.a : Int), .int .u64 (d.b : Int), .slice vp d.vals.length vc]] W fun e W' => e = .returned (.int .u64 (mkR most ⟨next, cs⟩ d : Int)) ∧ ∃ R', RM W' R' nm most (mkM most ⟨next, cs⟩ d).next (mkM most ⟨next, cs⟩ d).cs (t ++ [mkA th most ⟨next, cs⟩ d]) ∧ Goes W W' R R' := by
  obtain ⟨kd, ad, a, b, vals⟩ := d
  simp only at hk hr hap
  subst hk
  obtain ⟨o1, o2, o3, o4, o5, o6⟩ := hd
  simp only at o1 o2 o3 o4 o5 o6
  obtain ⟨l, hM, hT⟩ := H
  have hll : l.length = t.length := by rw [← hT]; simp
  obtain ⟨w0, hw0⟩ : ∃ w0, w0 = W.alloc (.cells #[.int .u8 2, .int .u64 (ad : Int), .int .u64 (a : Int), .int .u64 (b : Int), .slice vp vals.length vc] 112) := ⟨_, rfl⟩
  have hC0 : Chg (fun _ => False) W w0 := by rw [hw0]; exact (Chg.refl _ _).alloc _
  have hb : w0.heap[W.heap.size]? = some (.cells #[.int .u8 2, .int .u64 (ad : Int), .int .u64 (a : Int), .int .u64 (b : Int), .slice vp vals.length vc] 112 (0, 0)) := by rw [hw0]; exact heap_alloc_new _ _
  have c0 : w0.cell? ⟨W.heap.size, 0, none⟩ = some (.int .u8 2) := cell_of hb 0
  have c1 : w0.cell? ⟨W.heap.size, 1, none⟩ = some (.int .u64 (ad : Int)) := cell_of hb 1
  have c2 : w0.cell? ⟨W.heap.size, 2, none⟩ = some (.int .u64 (a : Int)) := cell_of hb 2
  have c3 : w0.cell? ⟨W.heap.size, 3, none⟩ = some (.int .u64 (b : Int)) := cell_of hb 3
  have c4 : w0.cell? ⟨W.heap.size, 4, none⟩ = some (.slice vp vals.length vc) := cell_of hb 4
  have HM := keepH (hM.chg hC0 (fun k _ x => x))
  have HT := keepH hT
  have HL : Hid (l.length < 1099511627776) := by show _ < _; omega
  have HGH : Hid (∀ (w1 : World) (R' : Nat → Prop), Goes w0 w1 R R' → Goes W w1 R R') := fun w1 R' g => ⟨hC0.trans g.chg (fun _ _ x => x.elim) (fun _ _ x => x), fun k x => (g.new k x).elim .inl (fun y => .inr (Nat.le_trans hC0.size y))⟩
  have HR := keepH (hr.chg hC0 (fun _ _ _ x => x))
  clear hM hT hll hC0 hb hr
  unfold mkR mkM mkA
  simp only
  go_enter Tryz.func38, Tryz.ntmps38
  go_upto_region 1 with fail
  rw [← hw0]
  clear hw0
  try simp only [Int.reduceEq, if_true, if_false]
  have HR2 := keepH (r_store nm most next ad a th R cs l w0 HM.out HL.out o2 o3)
  go_wp2_with fail
  refine HR2.out.mono ?_
  rintro e w2 ⟨rfl, R2, M2, G2⟩
  have HM2 := keepH M2
  have HG2 := keepH (HGH.out _ _ G2)
  clear M2 G2
  go_wp2_with fail
  go_ret
  exact ⟨by simp, R2, ⟨l ++ [_], HM2.out, by rw [List.map_append, HT.out]; rfl⟩, HG2.out⟩
set_option maxRecDepth 100000 in
set_option maxHeartbeats 4000000 in
theorem mk_3 {W : World} {R : Nat → Prop} {nm most next : Nat} {cs : List Nat} {t : List Acc} (H : RM W R nm most next cs t) (hnx : next ≤ most) (hl : t.length < 1099511627776) {d : DoP} (hd : d.Ok) (hk : d.kd = 3) {vp : Option Addr} {vc : Nat} (hr : Reads W vp d.vals) (hap : ∀ ad, vp = some ad → d.vals ≠ [] → ¬ R ad.block ∧ ad.block < W.heap.size) (th : Int) :
    Calls Tryz.prog 38 #[.pointer (some ⟨nm, 0, none⟩), .int .i64 th, .agg #[.int .u8 d.kd, .int .u64 (d.ad : Int), .int .u64 (d.a : Int), .int .u64 (d.b : Int), .slice vp d.vals.length vc]] W fun e W' => e = .returned (.int .u64 (mkR most ⟨next, cs⟩ d : Int)) ∧ ∃ R', RM W' R' nm most (mkM most ⟨next, cs⟩ d).next (mkM most ⟨next, cs⟩ d).cs (t ++ [mkA th most ⟨next, cs⟩ d]) ∧ Goes W W' R R' := by
  obtain ⟨kd, ad, a, b, vals⟩ := d
  simp only at hk hr hap
  subst hk
  obtain ⟨o1, o2, o3, o4, o5, o6⟩ := hd
  simp only at o1 o2 o3 o4 o5 o6
  obtain ⟨l, hM, hT⟩ := H
  have hll : l.length = t.length := by rw [← hT]; simp
  obtain ⟨w0, hw0⟩ : ∃ w0, w0 = W.alloc (.cells #[.int .u8 3, .int .u64 (ad : Int), .int .u64 (a : Int), .int .u64 (b : Int), .slice vp vals.length vc] 112) := ⟨_, rfl⟩
  have hC0 : Chg (fun _ => False) W w0 := by rw [hw0]; exact (Chg.refl _ _).alloc _
  have hb : w0.heap[W.heap.size]? = some (.cells #[.int .u8 3, .int .u64 (ad : Int), .int .u64 (a : Int), .int .u64 (b : Int), .slice vp vals.length vc] 112 (0, 0)) := by rw [hw0]; exact heap_alloc_new _ _
  have c0 : w0.cell? ⟨W.heap.size, 0, none⟩ = some (.int .u8 3) := cell_of hb 0
  have c1 : w0.cell? ⟨W.heap.size, 1, none⟩ = some (.int .u64 (ad : Int)) := cell_of hb 1
  have c2 : w0.cell? ⟨W.heap.size, 2, none⟩ = some (.int .u64 (a : Int)) := cell_of hb 2
  have c3 : w0.cell? ⟨W.heap.size, 3, none⟩ = some (.int .u64 (b : Int)) := cell_of hb 3
  have c4 : w0.cell? ⟨W.heap.size, 4, none⟩ = some (.slice vp vals.length vc) := cell_of hb 4
  have HM := keepH (hM.chg hC0 (fun k _ x => x))
  have HT := keepH hT
  have HL : Hid (l.length < 1099511627776) := by show _ < _; omega
  have HGH : Hid (∀ (w1 : World) (R' : Nat → Prop), Goes w0 w1 R R' → Goes W w1 R R') := fun w1 R' g => ⟨hC0.trans g.chg (fun _ _ x => x.elim) (fun _ _ x => x), fun k x => (g.new k x).elim .inl (fun y => .inr (Nat.le_trans hC0.size y))⟩
  have HR := keepH (hr.chg hC0 (fun _ _ _ x => x))
  clear hM hT hll hC0 hb hr
  cases hc : casOk most cs ad a with
  | true =>
    have HR2 := keepH (r_cas nm most next ad a b th R cs l w0 HM.out HL.out o2 o4)
    rw [hc] at HR2
    unfold mkR mkM mkA
    simp only [hc, if_true]
    clear hc
    go_enter Tryz.func38, Tryz.ntmps38
    go_upto_region 1 with fail
    rw [← hw0]
    clear hw0
    try simp only [Int.reduceEq, if_true, if_false]
    go_wp2_with fail
    refine HR2.out.mono ?_
    rintro e w2 ⟨rfl, R2, M2, G2⟩
    have HM2 := keepH M2
    have HG2 := keepH (HGH.out _ _ G2)
    clear M2 G2
    go_wp2_with fail
    go_ret
    exact ⟨by simp, R2, ⟨l ++ [_], HM2.out, by rw [List.map_append, HT.out]; rfl⟩, HG2.out⟩
  | false =>
    have HR2 := keepH (r_cas nm most next ad a b th R cs l w0 HM.out HL.out o2 o4)
    rw [hc] at HR2
    unfold mkR mkM mkA
    simp only [hc, Bool.false_eq_true, if_false]
    clear hc
    go_enter Tryz.func38, Tryz.ntmps38
    go_upto_region 1 with fail
    rw [← hw0]
    clear hw0
    try simp only [Int.reduceEq, if_true, if_false]
    go_wp2_with fail
    refine HR2.out.mono ?_
    rintro e w2 ⟨rfl, R2, M2, G2⟩
    have HM2 := keepH M2
    have HG2 := keepH (HGH.out _ _ G2)
    clear M2 G2
    go_wp2_with fail
    go_ret
    exact ⟨by simp, R2, ⟨l ++ [_], HM2.out, by rw [List.map_append, HT.out]; rfl⟩, HG2.out⟩
set_option maxRecDepth 100000 in
set_option maxHeartbeats 4000000 in
theorem mk_4 {W : World} {R : Nat → Prop} {nm most next : Nat} {cs : List Nat} {t : List Acc} (H : RM W R nm most next cs t) (hnx : next ≤ most) (hl : t.length < 1099511627776) {d : DoP} (hd : d.Ok) (hk : d.kd = 4) {vp : Option Addr} {vc : Nat} (hr : Reads W vp d.vals) (hap : ∀ ad, vp = some ad → d.vals ≠ [] → ¬ R ad.block ∧ ad.block < W.heap.size) (th : Int) :
    Calls Tryz.prog 38 #[.pointer (some ⟨nm, 0, none⟩), .int .i64 th, .agg #[.int .u8 d.kd, .int .u64 (d.ad : Int), .int .u64 (d.a : Int), .int .u64 (d.b : Int), .slice vp d.vals.length vc]] W fun e W' => e = .returned (.int .u64 (mkR most ⟨next, cs⟩ d : Int)) ∧ ∃ R', RM W' R' nm most (mkM most ⟨next, cs⟩ d).next (mkM most ⟨next, cs⟩ d).cs (t ++ [mkA th most ⟨next, cs⟩ d]) ∧ Goes W W' R R' := by
  obtain ⟨kd, ad, a, b, vals⟩ := d
  simp only at hk hr hap
  subst hk
  obtain ⟨o1, o2, o3, o4, o5, o6⟩ := hd
  simp only at o1 o2 o3 o4 o5 o6
  obtain ⟨l, hM, hT⟩ := H
  have hll : l.length = t.length := by rw [← hT]; simp
  obtain ⟨w0, hw0⟩ : ∃ w0, w0 = W.alloc (.cells #[.int .u8 4, .int .u64 (ad : Int), .int .u64 (a : Int), .int .u64 (b : Int), .slice vp vals.length vc] 112) := ⟨_, rfl⟩
  have hC0 : Chg (fun _ => False) W w0 := by rw [hw0]; exact (Chg.refl _ _).alloc _
  have hb : w0.heap[W.heap.size]? = some (.cells #[.int .u8 4, .int .u64 (ad : Int), .int .u64 (a : Int), .int .u64 (b : Int), .slice vp vals.length vc] 112 (0, 0)) := by rw [hw0]; exact heap_alloc_new _ _
  have c0 : w0.cell? ⟨W.heap.size, 0, none⟩ = some (.int .u8 4) := cell_of hb 0
  have c1 : w0.cell? ⟨W.heap.size, 1, none⟩ = some (.int .u64 (ad : Int)) := cell_of hb 1
  have c2 : w0.cell? ⟨W.heap.size, 2, none⟩ = some (.int .u64 (a : Int)) := cell_of hb 2
  have c3 : w0.cell? ⟨W.heap.size, 3, none⟩ = some (.int .u64 (b : Int)) := cell_of hb 3
  have c4 : w0.cell? ⟨W.heap.size, 4, none⟩ = some (.slice vp vals.length vc) := cell_of hb 4
  have HM := keepH (hM.chg hC0 (fun k _ x => x))
  have HT := keepH hT
  have HL : Hid (l.length < 1099511627776) := by show _ < _; omega
  have HGH : Hid (∀ (w1 : World) (R' : Nat → Prop), Goes w0 w1 R R' → Goes W w1 R R') := fun w1 R' g => ⟨hC0.trans g.chg (fun _ _ x => x.elim) (fun _ _ x => x), fun k x => (g.new k x).elim .inl (fun y => .inr (Nat.le_trans hC0.size y))⟩
  have HR := keepH (hr.chg hC0 (fun _ _ _ x => x))
  clear hM hT hll hC0 hb hr
  unfold mkR mkM mkA
  simp only
  go_enter Tryz.func38, Tryz.ntmps38
  go_upto_region 1 with fail
  rw [← hw0]
  clear hw0
  try simp only [Int.reduceEq, if_true, if_false]
  have HR2 := keepH (r_add nm most next ad a th R cs l w0 HM.out HL.out o2)
  go_wp2_with fail
  refine HR2.out.mono ?_
  rintro e w2 ⟨rfl, R2, M2, G2⟩
  have HM2 := keepH M2
  have HG2 := keepH (HGH.out _ _ G2)
  clear M2 G2
  go_wp2_with fail
  go_ret
  exact ⟨by simp, R2, ⟨l ++ [_], HM2.out, by rw [List.map_append, HT.out]; rfl⟩, HG2.out⟩
set_option maxRecDepth 100000 in
set_option maxHeartbeats 4000000 in
theorem mk_5 {W : World} {R : Nat → Prop} {nm most next : Nat} {cs : List Nat} {t : List Acc} (H : RM W R nm most next cs t) (hnx : next ≤ most) (hl : t.length < 1099511627776) {d : DoP} (hd : d.Ok) (hk : d.kd = 5) {vp : Option Addr} {vc : Nat} (hr : Reads W vp d.vals) (hap : ∀ ad, vp = some ad → d.vals ≠ [] → ¬ R ad.block ∧ ad.block < W.heap.size) (th : Int) :
    Calls Tryz.prog 38 #[.pointer (some ⟨nm, 0, none⟩), .int .i64 th, .agg #[.int .u8 d.kd, .int .u64 (d.ad : Int), .int .u64 (d.a : Int), .int .u64 (d.b : Int), .slice vp d.vals.length vc]] W fun e W' => e = .returned (.int .u64 (mkR most ⟨next, cs⟩ d : Int)) ∧ ∃ R', RM W' R' nm most (mkM most ⟨next, cs⟩ d).next (mkM most ⟨next, cs⟩ d).cs (t ++ [mkA th most ⟨next, cs⟩ d]) ∧ Goes W W' R R' := by
  obtain ⟨kd, ad, a, b, vals⟩ := d
  simp only at hk hr hap
  subst hk
  obtain ⟨o1, o2, o3, o4, o5, o6⟩ := hd
  simp only at o1 o2 o3 o4 o5 o6
  obtain ⟨l, hM, hT⟩ := H
  have hll : l.length = t.length := by rw [← hT]; simp
  obtain ⟨w0, hw0⟩ : ∃ w0, w0 = W.alloc (.cells #[.int .u8 5, .int .u64 (ad : Int), .int .u64 (a : Int), .int .u64 (b : Int), .slice vp vals.length vc] 112) := ⟨_, rfl⟩
  have hC0 : Chg (fun _ => False) W w0 := by rw [hw0]; exact (Chg.refl _ _).alloc _
  have hb : w0.heap[W.heap.size]? = some (.cells #[.int .u8 5, .int .u64 (ad : Int), .int .u64 (a : Int), .int .u64 (b : Int), .slice vp vals.length vc] 112 (0, 0)) := by rw [hw0]; exact heap_alloc_new _ _
  have c0 : w0.cell? ⟨W.heap.size, 0, none⟩ = some (.int .u8 5) := cell_of hb 0
  have c1 : w0.cell? ⟨W.heap.size, 1, none⟩ = some (.int .u64 (ad : Int)) := cell_of hb 1
  have c2 : w0.cell? ⟨W.heap.size, 2, none⟩ = some (.int .u64 (a : Int)) := cell_of hb 2
  have c3 : w0.cell? ⟨W.heap.size, 3, none⟩ = some (.int .u64 (b : Int)) := cell_of hb 3
  have c4 : w0.cell? ⟨W.heap.size, 4, none⟩ = some (.slice vp vals.length vc) := cell_of hb 4
  have HM := keepH (hM.chg hC0 (fun k _ x => x))
  have HT := keepH hT
  have HL : Hid (l.length < 1099511627776) := by show _ < _; omega
  have HGH : Hid (∀ (w1 : World) (R' : Nat → Prop), Goes w0 w1 R R' → Goes W w1 R R') := fun w1 R' g => ⟨hC0.trans g.chg (fun _ _ x => x.elim) (fun _ _ x => x), fun k x => (g.new k x).elim .inl (fun y => .inr (Nat.le_trans hC0.size y))⟩
  have HR := keepH (hr.chg hC0 (fun _ _ _ x => x))
  clear hM hT hll hC0 hb hr
  unfold mkR mkM mkA
  simp only
  go_enter Tryz.func38, Tryz.ntmps38
  go_upto_region 1 with fail
  rw [← hw0]
  clear hw0
  try simp only [Int.reduceEq, if_true, if_false]
  have HR2 := keepH (r_alloc nm most next th vp vc vals R cs l w0 HM.out hnx HL.out HR.out (fun q e n => (hap q e n).1) o5 (by omega))
  go_wp2_with fail
  refine HR2.out.mono ?_
  rintro e w2 ⟨rfl, R2, vs2, M2, G2⟩
  have HM2 := keepH M2
  have HG2 := keepH (HGH.out _ _ G2)
  clear M2 G2
  go_wp2_with fail
  go_ret
  exact ⟨by simp, R2, ⟨l ++ [_], HM2.out, by rw [List.map_append, HT.out]; rfl⟩, HG2.out⟩
theorem mk_any {W : World} {R : Nat → Prop} {nm most next : Nat} {cs : List Nat} {t : List Acc} (H : RM W R nm most next cs t) (hnx : next ≤ most) (hl : t.length < 1099511627776) {d : DoP} (hd : d.Ok) (hk : isA d = true) {vp : Option Addr} {vc : Nat} (hr : Reads W vp d.vals) (hap : ∀ ad, vp = some ad → d.vals ≠ [] → ¬ R ad.block ∧ ad.block < W.heap.size) (th : Int) :
    Calls Tryz.prog 38 #[.pointer (some ⟨nm, 0, none⟩), .int .i64 th, .agg #[.int .u8 d.kd, .int .u64 (d.ad : Int), .int .u64 (d.a : Int), .int .u64 (d.b : Int), .slice vp d.vals.length vc]] W fun e W' => e = .returned (.int .u64 (mkR most ⟨next, cs⟩ d : Int)) ∧ ∃ R', RM W' R' nm most (mkM most ⟨next, cs⟩ d).next (mkM most ⟨next, cs⟩ d).cs (t ++ [mkA th most ⟨next, cs⟩ d]) ∧ Goes W W' R R' := by
  have h1 : 1 ≤ d.kd ∧ d.kd ≤ 5 := by simpa [isA] using hk
  rcases (show d.kd = 1 ∨ d.kd = 2 ∨ d.kd = 3 ∨ d.kd = 4 ∨ d.kd = 5 by omega) with e | e | e | e | e
  · exact mk_1 H hnx hl hd e hr hap th
  · exact mk_2 H hnx hl hd e hr hap th
  · exact mk_3 H hnx hl hd e hr hap th
  · exact mk_4 H hnx hl hd e hr hap th
  · exact mk_5 H hnx hl hd e hr hap th
end Go.Proofs.YtnhiodmigmmfgaaGreat
/- The law's procs of a list of plans. -/
namespace Go.Proofs.YtnhiodmigmmfgaaGreat
open Go.RowKit Go.Shelf
set_option linter.unusedVariables false

/-- The plans as they lie in memory, all of it below B. -/
def PlansAt (W : World) (B : Nat) (p : Option Addr) (l : List PlP) (lp : Nat → Option Addr) (lc : Nat → Nat) : Prop := ∀ (i : Nat) (q : PlP), l[i]? = some q → (∃ bk off, p = some ⟨bk, off, none⟩ ∧ bk < B ∧ W.cell? ⟨bk, off + i * 2, none⟩ = some (.bool q.none) ∧ W.cell? ⟨bk, off + i * 2 + 1, none⟩ = some (.slice (lp i) q.L.length (lc i))) ∧ DosAt W B (lp i) q.L
theorem PlansAt.low {W Y : World} {B : Nat} {p : Option Addr} {l : List PlP} {lp : Nat → Option Addr} {lc : Nat → Nat} (h : PlansAt W B p l lp lc) (hl : ∀ k, k < B → Y.heap[k]? = W.heap[k]?) : PlansAt Y B p l lp lc := fun i q hq => by
  obtain ⟨⟨bk, off, e, hb, c0, c1⟩, hd⟩ := h i q hq
  exact ⟨⟨bk, off, e, hb, cell_low hl hb c0, cell_low hl hb c1⟩, hd.low hl⟩
theorem PlansAt.chg {W Y : World} {B : Nat} {p : Option Addr} {l : List PlP} {lp : Nat → Option Addr} {lc : Nat → Nat} (h : PlansAt W B p l lp lc) (hB : B ≤ W.heap.size) (c : Chg (fun _ => False) W Y) : PlansAt Y B p l lp lc := h.low (fun k hk => c.block k (by omega) (fun x => x))
def ifV (l : List PlP) (pb : Nat → Nat) (j : Nat) : Value := match l[j]? with
  | some q => if q.none = true then .nilIface else .iface 123 (.pointer (some ⟨pb j, 0, none⟩))
  | none => .nilIface
def ifL (l : List PlP) (pb : Nat → Nat) (i : Nat) : List Value := (List.range i).map (ifV l pb)
def ptO (l : List PlP) (pb : Nat → Nat) (j : Nat) : Option Value := match l[j]? with
  | some q => if q.none = true then none else some (.pointer (some ⟨pb j, 0, none⟩))
  | none => none
def ptL (l : List PlP) (pb : Nat → Nat) (i : Nat) : List Value := (List.range i).filterMap (ptO l pb)
def updB (pb : Nat → Nat) (i x : Nat) : Nat → Nat := fun j => if j = i then x else pb j
theorem ifL_congr {l : List PlP} {pb pb' : Nat → Nat} {i : Nat} (h : ∀ j, j < i → pb' j = pb j) : ifL l pb' i = ifL l pb i := by
  unfold ifL
  refine List.map_congr_left fun j hj => ?_
  unfold ifV
  rw [h j (List.mem_range.1 hj)]
theorem ptL_succ (l : List PlP) (pb : Nat → Nat) (i : Nat) : ptL l pb (i + 1) = ptL l pb i ++ (ptO l pb i).toList := by
  unfold ptL
  rw [List.range_succ, List.filterMap_append]
  congr 1
theorem ptL_congr {l : List PlP} {pb pb' : Nat → Nat} : ∀ {i : Nat}, (∀ j, j < i → pb' j = pb j) → ptL l pb' i = ptL l pb i := by
  intro i
  induction i with
  | zero => intro _; rfl
  | succ i ih =>
    intro h
    rw [ptL_succ, ptL_succ, ih (fun j hj => h j (by omega))]
    congr 2
    unfold ptO
    rw [h i (by omega)]
theorem ifL_succ (l : List PlP) (pb : Nat → Nat) (i : Nat) : ifL l pb (i + 1) = ifL l pb i ++ [ifV l pb i] := by simp [ifL, List.range_succ]
theorem ptL_len (l : List PlP) (pb : Nat → Nat) (i : Nat) : (ptL l pb i).length ≤ i := by
  have := List.length_filterMap_le (ptO l pb) (List.range i)
  simpa [ptL] using this
/-- What is laid so far. -/
structure PB (W wr : World) (l : List PlP) (lp : Nat → Option Addr) (lc pb : Nat → Nat) (i : Nat) (v7 v8 : Value) : Prop where
  r7 : wr.ownsRow W.heap.size 91 1 v7 i (ifL l pb i)
  r8 : wr.ownsRow W.heap.size 123 1 v8 (ptL l pb i).length (ptL l pb i)
  pr : ∀ (j : Nat) (q : PlP), j < i → l[j]? = some q → q.none = false → wr.heap[pb j]? = some (.cells #[.slice (lp j) q.L.length (lc j), .int .i64 0, .slice none 0 0] 122 (0, 0)) ∧ W.heap.size ≤ pb j
  inj : ∀ (j j' : Nat) (q q' : PlP), j < j' → j' < i → l[j]? = some q → l[j']? = some q' → q.none = false → q'.none = false → pb j < pb j'
  chg : Chg (fun _ => False) W wr
theorem row_typ {W : World} {B : Nat} {e : TypeId} {s : Nat} {v : Value} {n : Nat} {xs : List Value} (h : W.ownsRow B e s v n xs) {g : Nat} (hg : v.ownBlock = some g) : B ≤ g ∧ ∃ cur, W.heap[g]? = some (.cells cur e (0, 0)) := by
  rcases h.2 with ⟨rfl, _⟩ | ⟨g', cap, cur, rfl, hB, hb, _⟩
  · simp [Value.ownBlock] at hg
  · obtain rfl : g' = g := by simpa [Value.ownBlock] using hg
    exact ⟨hB, cur, hb⟩
theorem typ_ne {W : World} {g g' : Nat} {cur cur' : Array Value} {t t' : TypeId} (hg : W.heap[g]? = some (.cells cur t (0, 0))) (hg' : W.heap[g']? = some (.cells cur' t' (0, 0))) (ht : t ≠ t') : g ≠ g' := by
  rintro rfl
  rw [hg] at hg'
  simp at hg'
  exact ht hg'.2
theorem rowB_kept {W W' : World} {B : Nat} {e : TypeId} {s : Nat} {v : Value} {n : Nat} {xs : List Value} (h : W.ownsRow B e s v n xs) (hk : ∀ g, v.ownBlock = some g → W'.heap[g]? = W.heap[g]?) : W'.ownsRow B e s v n xs := by
  obtain ⟨h0, h1⟩ := h
  refine ⟨h0, ?_⟩
  rcases h1 with h1 | ⟨g, cap, cur, rfl, hB, hg, r⟩
  · exact .inl h1
  · exact .inr ⟨g, cap, cur, rfl, hB, (hk g rfl).trans hg, r⟩
theorem PB.quiet {W wr wx : World} {l : List PlP} {lp : Nat → Option Addr} {lc pb : Nat → Nat} {i : Nat} {v7 v8 : Value} (h : PB W wr l lp lc pb i v7 v8) (c : Chg (fun _ => False) wr wx) : PB W wx l lp lc pb i v7 v8 :=
  ⟨rowB_kept h.r7 (fun g hg => c.block g (h.r7.lt g hg).2 (fun x => x)), rowB_kept h.r8 (fun g hg => c.block g (h.r8.lt g hg).2 (fun x => x)), fun j q hj hq hn => ⟨(c.block _ (lt_of (h.pr j q hj hq hn).1) (fun x => x)).trans (h.pr j q hj hq hn).1, (h.pr j q hj hq hn).2⟩, h.inj, h.chg.trans c (fun _ _ x => x) (fun _ _ x => x)⟩
/-- nil is laid behind the procs. -/
theorem PB.skip {W wr w5 : World} {l : List PlP} {lp : Nat → Option Addr} {lc pb : Nat → Nat} {i : Nat} {v7 v7' v8 : Value} {o : Obj} {q : PlP} (h : PB W wr l lp lc pb i v7 v8) (hq : l[i]? = some q) (hn : q.none = true) (r1 : w5.ownsRow W.heap.size 91 1 v7' (i + 1) (ifL l pb i ++ [.nilIface])) (r2 : (wr.alloc o).grownBy w5 v7.ownBlock) : PB W w5 l lp lc pb (i + 1) v7' v8 := by
  have c : Chg (fun k => v7.ownBlock = some k) wr w5 := ((Chg.refl (fun k => v7.ownBlock = some k) wr).alloc o).grown r2 (fun k e _ => e)
  have ne : ∀ {t : TypeId} {g : Nat} {cur : Array Value}, wr.heap[g]? = some (.cells cur t (0, 0)) → t ≠ 91 → w5.heap[g]? = wr.heap[g]? := fun hg ht => c.block _ (lt_of hg) (fun e => by obtain ⟨_, cur', hc⟩ := row_typ h.r7 e; exact typ_ne hg hc ht rfl)
  have eo : ptO l pb i = none := by unfold ptO; simp [hq, hn]
  have ei : ifV l pb i = .nilIface := by unfold ifV; simp [hq, hn]
  refine ⟨by rw [ifL_succ, ei]; exact r1, ?_, fun j r hj hr hrn => ?_, fun j j' r r' h1 h2 h3 h4 h5 h6 => ?_, h.chg.trans c (fun _ _ x => x) (fun k hk e => by have := (row_typ h.r7 e).1; omega)⟩
  · rw [ptL_succ, eo]
    simp only [Option.toList_none, List.append_nil]
    exact rowB_kept h.r8 (fun g hg => by obtain ⟨_, cur, hc⟩ := row_typ h.r8 hg; exact ne hc (by decide))
  · have hji : j ≠ i := fun e => by subst e; rw [hq] at hr; injection hr with hr; subst hr; rw [hn] at hrn; cases hrn
    have hp := h.pr j r (by omega) hr hrn
    exact ⟨(ne hp.1 (by decide)).trans hp.1, hp.2⟩
  · have hji : j' ≠ i := fun e => by subst e; rw [hq] at h4; injection h4 with h4; subst h4; rw [hn] at h6; cases h6
    exact h.inj j j' r r' h1 (by omega) h3 h4 h5 h6
/-- A proc is laid, and itself behind both rows. -/
theorem PB.add {W wr w4 w5 w6 : World} {l : List PlP} {lp : Nat → Option Addr} {lc pb : Nat → Nat} {i : Nat} {v7 v7' v8 v8' : Value} {o o' : Obj} {q : PlP} (h : PB W wr l lp lc pb i v7 v8) (hq : l[i]? = some q) (hn : q.none = false)
    (h4 : w4 = wr.alloc (.cells #[.slice (lp i) q.L.length (lc i), .int .i64 0, .slice none 0 0] 122))
    (r1 : w5.ownsRow W.heap.size 91 1 v7' (i + 1) (ifL l pb i ++ [.iface 123 (.pointer (some ⟨wr.heap.size, 0, none⟩))])) (r2 : (w4.alloc o).grownBy w5 v7.ownBlock)
    (s1 : w6.ownsRow W.heap.size 123 1 v8' ((ptL l pb i).length + 1) (ptL l pb i ++ [.pointer (some ⟨wr.heap.size, 0, none⟩)])) (s2 : (w5.alloc o').grownBy w6 v8.ownBlock) : PB W w6 l lp lc (updB pb i wr.heap.size) (i + 1) v7' v8' := by
  have sz := h.chg.size
  have c4 : Chg (fun _ => False) wr w4 := by rw [h4]; exact (Chg.refl _ _).alloc _
  have h' := h.quiet c4
  have hb4 : w4.heap[wr.heap.size]? = some (.cells #[.slice (lp i) q.L.length (lc i), .int .i64 0, .slice none 0 0] 122 (0, 0)) := by rw [h4]; exact heap_alloc_new _ _
  have c5 : Chg (fun k => v7.ownBlock = some k) w4 w5 := ((Chg.refl (fun k => v7.ownBlock = some k) w4).alloc o).grown r2 (fun k e _ => e)
  have r8' : w5.ownsRow W.heap.size 123 1 v8 (ptL l pb i).length (ptL l pb i) := rowB_kept h'.r8 (fun g hg => by
    obtain ⟨_, cur, hc⟩ := row_typ h'.r8 hg
    exact c5.block g (lt_of hc) (fun e => by obtain ⟨_, cur', hc'⟩ := row_typ h'.r7 e; exact typ_ne hc hc' (by decide) rfl))
  have c6 : Chg (fun k => v8.ownBlock = some k) w5 w6 := ((Chg.refl (fun k => v8.ownBlock = some k) w5).alloc o').grown s2 (fun k e _ => e)
  have keep : ∀ {g : Nat} {cur : Array Value}, w4.heap[g]? = some (.cells cur 122 (0, 0)) → w6.heap[g]? = some (.cells cur 122 (0, 0)) := fun hg => by
    have e5 := (c5.block _ (lt_of hg) (fun e => by obtain ⟨_, cur', hc'⟩ := row_typ h'.r7 e; exact typ_ne hg hc' (by decide) rfl)).trans hg
    exact (c6.block _ (lt_of e5) (fun e => by obtain ⟨_, cur', hc'⟩ := row_typ r8' e; exact typ_ne e5 hc' (by decide) rfl)).trans e5
  have eb : ∀ j, j < i → updB pb i wr.heap.size j = pb j := fun j hj => by unfold updB; rw [if_neg (by omega)]
  have ebi : updB pb i wr.heap.size i = wr.heap.size := by unfold updB; rw [if_pos rfl]
  have eo : ptO l (updB pb i wr.heap.size) i = some (.pointer (some ⟨wr.heap.size, 0, none⟩)) := by unfold ptO; simp [hq, hn, ebi]
  have ei : ifV l (updB pb i wr.heap.size) i = .iface 123 (.pointer (some ⟨wr.heap.size, 0, none⟩)) := by unfold ifV; simp [hq, hn, ebi]
  refine ⟨?_, ?_, fun j r hj hr hrn => ?_, fun j j' r r' h1 h2 h3 h4' h5 h6 => ?_, (h'.chg.trans c5 (H := fun _ => False) (fun _ _ x => x) (fun k hk e => by have := (row_typ h'.r7 e).1; omega)).trans c6 (fun _ _ x => x) (fun k hk e => by have := (row_typ r8' e).1; omega)⟩
  · rw [ifL_succ, ifL_congr eb, ei]
    refine rowB_kept r1 (fun g hg => ?_)
    obtain ⟨_, cur, hc⟩ := row_typ r1 hg
    exact c6.block g (lt_of hc) (fun e => by obtain ⟨_, cur', hc'⟩ := row_typ r8' e; exact typ_ne hc hc' (by decide) rfl)
  · rw [ptL_succ, ptL_congr eb, eo]
    simp only [Option.toList_some, List.length_append, List.length_cons, List.length_nil]
    exact s1
  · by_cases e : j = i
    · subst e
      rw [hq] at hr; injection hr with hr; subst hr
      rw [ebi]
      exact ⟨keep hb4, sz⟩
    · rw [eb j (by omega)]
      have hp := h'.pr j r (by omega) hr hrn
      exact ⟨keep hp.1, hp.2⟩
  · by_cases e : j' = i
    · subst e
      rw [ebi, eb j (by omega)]
      exact lt_of (h.pr j r (by omega) h3 h5).1
    · rw [eb j (by omega), eb j' (by omega)]
      exact h.inj j j' r r' h1 (by omega) h3 h4' h5 h6
end Go.Proofs.YtnhiodmigmmfgaaGreat
/- The law's procs of one list of plans, walked. -/
namespace Go.Proofs.YtnhiodmigmmfgaaGreat
open Go.RowKit Go.Shelf
set_option linter.unusedVariables false

theorem infoPy : (Tryz.prog.info? 91).map (fun i => (i.zero, i.size, i.bytes)) = some (some .nilIface, 1, 16) := by kernel_rfl
theorem infoQy : (Tryz.prog.info? 123).map (fun i => (i.zero, i.size, i.bytes)) = some (some (.pointer none), 1, 8) := by kernel_rfl
theorem infoPsy : (Tryz.prog.info? 76).map (fun i => (i.zero, i.size, i.bytes)) = some (some (.slice none 0 0), 1, 24) := by kernel_rfl
theorem infoQsy : (Tryz.prog.info? 120).map (fun i => (i.zero, i.size, i.bytes)) = some (some (.slice none 0 0), 1, 24) := by kernel_rfl
theorem slice_row {W : World} {B : Nat} {e : TypeId} {s : Nat} {v : Value} {n : Nat} {xs : List Value} (h : W.ownsRow B e s v n xs) : ∃ p c, v = .slice p n c := by
  rcases h.2 with ⟨rfl, h0⟩ | ⟨g, cap, cur, rfl, _⟩
  · exact ⟨none, 0, by rw [h0]⟩
  · exact ⟨_, cap, rfl⟩
end Go.Proofs.YtnhiodmigmmfgaaGreat
