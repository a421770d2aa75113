/- The document's memory: an access with values is noted; Alloc, Left. -/
import Derived.Test.YtjodechhnobkhaaGreatDoorRMemB
namespace Go.Proofs.YtjodechhnobkhaaGreatDoor
open Go.RowKit Go.Shelf
set_option linter.unusedVariables false

theorem rnote_endV {pv : Option Addr} {cv : Nat} {vals : List Nat} {W w2 w3 : World} {R : Nat → Prop} {nm nc n next g' c3 : Nat} {av : Value} {os cs : List Nat} {l : List Acc} {th : Int} {kind addr x y got : Nat} {ok : Bool}
    (h : RMemAt W R nm nc av n next os cs l) (hvs : W.ownsRow 0 42 1 (.slice pv vals.length cv) vals.length (vals.map u64V)) (hvR : ∀ k, (.slice pv vals.length cv : Value).ownBlock = some k → ¬ R k) (hk2 : ∀ k, k < W.heap.size → w2.heap[k]? = W.heap[k]?) (hc2 : Chg R W w2) (hg : w2.grownBy w3 av.ownBlock)
    (hb3 : w3.heap[nm]? = some (.cells (rmCells nc n next av) 54 (0, 0)))
    (ho : w3.ownsRow 0 44 8 (.slice (some ⟨g', 0, none⟩) (l.length + 1) c3) (l.length + 1) (accRow l ++ [.int .i64 th, .int .u8 (kind : Int), .int .u64 (addr : Int), .int .u64 (x : Int), .int .u64 (y : Int), .slice pv vals.length cv, .int .u64 (got : Int), .bool ok]))
    (hw2 : av.ownBlock = some g' ∨ W.heap.size ≤ g') :
    ∃ R', RMem (w3.setCell ⟨nm, 2, none⟩ (.slice (some ⟨g', 0, none⟩) (l.length + 1) c3)) R' nm n next cs (l ++ [⟨th, kind, addr, x, y, .slice pv vals.length cv, vals, got, ok⟩]) ∧ Chg R W (w3.setCell ⟨nm, 2, none⟩ (.slice (some ⟨g', 0, none⟩) (l.length + 1) c3)) ∧ ∀ k, R' k → R k ∨ W.heap.size ≤ k ∨ (.slice pv vals.length cv : Value).ownBlock = some k := by
  have gb : g' ≠ nm := fun e => block_apart ho hb3 (by decide) (by rw [e]; rfl)
  have szW := hc2.size
  have sz3 := hg.size
  have hsz : (w3.setCell ⟨nm, 2, none⟩ (.slice (some ⟨g', 0, none⟩) (l.length + 1) c3)).heap.size = w3.heap.size := by simp [World.setCell]
  have k3 : ∀ k, k < W.heap.size → k ≠ nm → av.ownBlock ≠ some k → (w3.setCell ⟨nm, 2, none⟩ (.slice (some ⟨g', 0, none⟩) (l.length + 1) c3)).heap[k]? = W.heap[k]? := fun k hk h1 h2 =>
    (Below.heap_setCell _ _ _ _ h1).trans ((hg.block k (by omega) (fun e => h2 e.symm)).trans (hk2 k hk))
  refine ⟨fun k => (R k ∨ k = g') ∨ (.slice pv vals.length cv : Value).ownBlock = some k, ⟨nc, .slice (some ⟨g', 0, none⟩) (l.length + 1) c3, os, ?_, ?_, h.os, ?_, ?_, .inl (.inl h.inn), .inl (.inl h.inc), ?_, ?_, ?_, ?_, h.nn, h.small⟩, ?_, ?_⟩
  · exact set_of hb3 2 _
  · refine (k3 nc (h.lt nc h.inc) (fun e => ?_) (fun e => block_apart h.acc h.own (by decide) e)).trans h.own
    have e1 := h.own
    rw [IsOwn, e, h.blk] at e1
    simp at e1
  · have r := row_kept (W' := w3.setCell ⟨nm, 2, none⟩ (.slice (some ⟨g', 0, none⟩) (l.length + 1) c3)) ho fun k e => Below.heap_setCell _ _ _ _ (by simp [Value.ownBlock] at e; rw [← e]; exact gb)
    simpa [accRow, Acc.cells] using r
  · intro z hz
    rcases List.mem_append.1 hz with hz | hz
    · exact row_kept (h.vals z hz) fun k e => k3 k (h.lt k (h.inv z hz k e)) (fun e2 => block_apart (h.vals z hz) h.blk (by decide) (by rw [e, e2])) (fun e2 => rows_apart (h.vals z hz) h.acc (by decide) k e e2)
    · obtain rfl := List.mem_singleton.1 hz
      exact row_kept hvs fun k e => k3 k (row_lt hvs k e) (fun e2 => hvR k e (by rw [e2]; exact h.inn)) (fun e2 => hvR k e (h.ina k e2))
  · intro k e
    simp [Value.ownBlock] at e
    exact .inl (.inr e.symm)
  · intro z hz k e
    rcases List.mem_append.1 hz with hz | hz
    · exact .inl (.inl (h.inv z hz k e))
    · obtain rfl := List.mem_singleton.1 hz
      exact .inr e
  · intro z hz e
    rcases List.mem_append.1 hz with hz | hz
    · exact h.ne z hz e
    · obtain rfl := List.mem_singleton.1 hz
      exact hvR nc e h.inc
  · rw [hsz]
    rintro k ((hk | rfl) | e)
    · have := h.lt k hk
      omega
    · exact row_lt ho k rfl
    · have := row_lt hvs k e
      omega
  · exact ((hc2.grown hg (fun k e _ => h.ina k e))).setCell (fun _ => h.inn) _
  · rintro k ((hk | rfl) | e)
    · exact .inl hk
    · rcases hw2 with e | e
      · exact .inl (h.ina k e)
      · exact .inr (.inl e)
    · exact .inr (.inr e)

set_option maxRecDepth 100000 in
theorem r_noteV (pv : Option Addr) (cv : Nat) (vals : List Nat) (nm n next : Nat) (th : Int) (kind addr x y got : Nat) (ok : Bool) (R : Nat → Prop) (cs : List Nat) (l : List Acc) (W : World) (h : RMem W R nm n next cs l) (hl : l.length < 1099511627776) (hvs : W.ownsRow 0 42 1 (.slice pv vals.length cv) vals.length (vals.map u64V)) (hvR : ∀ k, (.slice pv vals.length cv : Value).ownBlock = some k → ¬ R k) :
    Calls Tryz.prog 75 #[.pointer (some ⟨nm, 0, none⟩), accV th kind addr x y (.slice pv vals.length cv) got ok] W fun e W' => e = .returned (.tuple #[]) ∧ ∃ R', RMem W' R' nm n next cs (l ++ [⟨th, kind, addr, x, y, .slice pv vals.length cv, vals, got, ok⟩]) ∧ Chg R W W' ∧ ∀ k, R' k → R k ∨ W.heap.size ≤ k ∨ (.slice pv vals.length cv : Value).ownBlock = some k := by
  obtain ⟨i0, hi, hz0, hz1, hz2⟩ := info_parts infoA
  unfold accV
  obtain ⟨nc, av, os, h⟩ := h
  have hbl := lt_of h.blk
  obtain ⟨pa, ca, rfl⟩ := slice_of h.acc
  obtain ⟨w1, hw1⟩ : ∃ w1, w1 = W.alloc (.cells #[.int .i64 th, .int .u8 (kind : Int), .int .u64 (addr : Int), .int .u64 (x : Int), .int .u64 (y : Int), .slice pv vals.length cv, .int .u64 (got : Int), .bool ok] 44) := ⟨_, rfl⟩
  have hB1 : Hid (w1.heap[W.heap.size]? = some (.cells #[.int .i64 th, .int .u8 (kind : Int), .int .u64 (addr : Int), .int .u64 (x : Int), .int .u64 (y : Int), .slice pv vals.length cv, .int .u64 (got : Int), .bool ok] 44 (0, 0))) := by rw [hw1]; exact heap_alloc_new _ _
  have hk1 : Hid (∀ k, k < W.heap.size → w1.heap[k]? = W.heap[k]?) := fun k hk => by rw [hw1]; exact Below.heap_alloc _ _ _ hk
  have hs1 : w1.heap.size = W.heap.size + 1 := by rw [hw1]; simp
  have hC1 : Hid (Chg R W w1) := by rw [hw1]; exact (Chg.refl R W).alloc _
  have hb1 : Hid (w1.heap[nm]? = some (.cells (rmCells nc n next (.slice pa l.length ca)) 54 (0, 0))) := (hk1.out nm hbl).trans h.blk
  have HA : Hid (w1.drew.ownsRow 0 44 8 (.slice pa l.length ca) l.length (accRow l)) := row_kept (W := W) h.acc fun k e => (hk1.out k (row_lt h.acc k e))
  have q0 := (cell_of hB1.out 0).trans rfl
  have q1 := (cell_of hB1.out 1).trans rfl
  have q2 := (cell_of hB1.out 2).trans rfl
  have q3 := (cell_of hB1.out 3).trans rfl
  have q4 := (cell_of hB1.out 4).trans rfl
  have q5 := (cell_of hB1.out 5).trans rfl
  have q6 := (cell_of hB1.out 6).trans rfl
  have q7 := (cell_of hB1.out 7).trans rfl
  have r2 : w1.cell? ⟨nm, 2, none⟩ = some (.slice pa l.length ca) := cell_of hb1.out 2
  have r3 : w1.cell? ⟨nm, 3, none⟩ = some (.bool false) := cell_of hb1.out 3
  have H := keepH h
  have HVS := keepH hvs
  have HVR := keepH hvR
  clear hvs hvR
  have ne1 : ¬ nm = w1.heap.size := by omega
  have qa : ∀ o, (w1.alloc o).cell? ⟨nm, 2, none⟩ = some (.slice pa l.length ca) := fun o => cell_of (alloc_of hb1.out o) 2
  have HS1 := keepH hs1
  have HW1 := keepH hw1
  clear h hs1 hw1
  go_enter Tryz.func75, Tryz.ntmps75
  go_upto_region 1 with fail
  rw [← HW1.out]
  clear HW1
  go_wp2_with fail
  go_region_law (refine step_append_own rfl (.tmp 13) (.tmp 15) 22 rfl 44 i0 (accV 0 0 0 0 0 (.slice none 0 0) 0 false) 8 80 Tryz.underlying22 hi hz0 hz1 hz2 rfl (by decide) (.slice pa l.length ca) l.length (accRow l) rfl (HA.out.alloc _) ⟨w1.heap.size, 0, none⟩ 1 1 [.int .i64 th, .int .u8 (kind : Int), .int .u64 (addr : Int), .int .u64 (x : Int), .int .u64 (y : Int), .slice pv vals.length cv, .int .u64 (got : Int), .bool ok] rfl rfl (cells_new _ _ rfl _ _) (by simp [Value.oneCell']) (by unfold maxLen; omega) (by omega) ?_; intro v' w3 hown3 hgr3 _ hwh3; obtain ⟨g', c3, rfl⟩ := slice_pos hown3 (Nat.succ_pos _); have hb3 : Hid (w3.heap[nm]? = some (.cells (rmCells nc n next (.slice pa l.length ca)) 54 (0, 0))) := (hgr3.block nm (by have := lt_of hb1.out; simp; omega) (fun e => block_apart H.out.acc H.out.blk (by decide) e.symm)).trans (alloc_of (W := w1.drew) hb1.out _); have r8 : w3.cell? ⟨nm, 2, none⟩ = some (.slice pa l.length ca) := cell_of hb3.out 2; have rf := free_of hb3.out 2; have HO := keepH hown3; have HW3 := keepH hwh3; have HG3 := keepH hgr3; clear hown3 hwh3 hgr3)
  all_goals (go_wp2_with fail)
  all_goals go_end0
  all_goals (refine ⟨rfl, rnote_endV H.out HVS.out HVR.out (fun k hk => ?_) ?_ HG3.out hb3.out HO.out ?_⟩)
  all_goals first
    | exact (Below.heap_alloc w1.drew _ _ (by have := HS1.out; show _ < w1.heap.size; omega)).trans (hk1.out k hk)
    | exact hC1.out.drew.alloc _
    | (rcases HW3.out with e2 | e2
       · exact .inl e2.symm
       · simp [Value.ownBlock] at e2; exact .inr (by have := HS1.out; omega))
set_option maxRecDepth 100000 in
theorem r_left (nm n next : Nat) (R : Nat → Prop) (cs : List Nat) (l : List Acc) (W : World) (h : RMem W R nm n next cs l) (hnx : next ≤ n) : Calls Tryz.prog 77 #[.pointer (some ⟨nm, 0, none⟩)] W fun e W' => e = .returned (.int .i64 ((n - next : Nat) : Int)) ∧ ∃ q, W' = W.drewN q := by
  obtain ⟨nc, av, os, h⟩ := h
  have c0 : W.cell? ⟨nm, 0, none⟩ = some (.slice (some ⟨nc, 0, none⟩) n n) := cell_of h.blk 0
  have c1 : W.cell? ⟨nm, 1, none⟩ = some (.int .i64 (next : Int)) := cell_of h.blk 1
  have nn := h.nn
  have kw : IntKind.i64.wrap ((n : Int) - (next : Int)) = ((n - next : Nat) : Int) := by rw [IntKind.wrap_i64]; omega
  clear h
  go_enter Tryz.func77, Tryz.ntmps77
  go_wp2_with fail
  go_quiet (fail)
  go_wp2_with fail
  all_goals first
    | exact ⟨rfl, nq, rfl⟩
    | (go_ret; exact ⟨rfl, nq, rfl⟩)
    | (go_ret; trace_state)
end Go.Proofs.YtjodechhnobkhaaGreatDoor
