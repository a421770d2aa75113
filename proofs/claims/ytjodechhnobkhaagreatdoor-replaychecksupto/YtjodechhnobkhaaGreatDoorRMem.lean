/- The document's memory (shutterref03), plain: what it holds, and what its accesses do. -/
import Derived.BigQuiet
import Derived.Deep.Cut
import Derived.Deep.CutBlock
import Derived.Deep.DeepCutAuto
import Derived.Test.YtjodechhnobkhaaGreatDoorOps
namespace Go.Proofs.YtjodechhnobkhaaGreatDoor
open Go.RowKit Go.Shelf

def Own (os cs : List Nat) (n : Nat) : Prop := os.length = n ∧ (∀ i, i < n → cellN os i = cellN cs i) ∧ ∀ i, n ≤ i → cellN cs i = 0
def IsOwn (W : World) (g : Nat) (os : List Nat) : Prop := W.heap[g]? = some (.cells (os.map u64V).toArray 42 (0, 0))
theorem IsOwn.set {W : World} {g : Nat} {os : List Nat} (h : IsOwn W g os) (i v : Nat) : IsOwn (W.setCell ⟨g, i, none⟩ (.int .u64 (v : Int))) g (os.set i v) := by
  have e := set_of h i (.int .u64 (v : Int))
  rw [IsOwn, e, List.map_set]
  simp [u64V]
theorem IsOwn.cell {W : World} {g : Nat} {os : List Nat} (h : IsOwn W g os) (i : Nat) (hi : i < os.length) : W.cell? ⟨g, i, none⟩ = some (.int .u64 (cellN os i : Int)) := by
  rw [cell_of h i]
  simp [cellN, u64V, List.getElem?_eq_getElem hi]
theorem cellN_set (os : List Nat) (i v j : Nat) (hi : i < os.length) : cellN (os.set i v) j = if j = i then v else cellN os j := by
  simp only [cellN, List.getD_eq_getElem?_getD, List.getElem?_set]
  by_cases e : i = j
  · subst e
    simp [hi]
  · rw [if_neg e, if_neg (fun x => e x.symm)]
theorem Own.set {os cs : List Nat} {n i v : Nat} (h : Own os cs n) (hi : i < n) : Own (os.set i v) (stN n cs i v) n := by
  refine ⟨by simp [h.1], fun j hj => ?_, fun j hj => ?_⟩
  · rw [cellN_set _ _ _ _ (by rw [h.1]; exact hi), stN_cell]
    simp [hi, h.2.1 j hj]
  · rw [stN_cell, if_neg (by omega)]
    exact h.2.2 j hj
theorem own_zero (n : Nat) : Own (List.replicate n 0) [] n := by
  refine ⟨by simp, fun i hi => ?_, fun i hi => by simp [cellN]⟩
  simp only [cellN, List.getD_eq_getElem?_getD, List.getElem?_replicate]
  split <;> simp
theorem infoU64m : (Tryz.prog.info? 42).map (fun i => (i.zero, i.size, i.bytes)) = some (some (.int .u64 0), 1, 8) := by kernel_rfl
theorem make_u64s (n : Nat) (hn : n ≤ 4194304) (u : World) : ∃ w, (Instr.makeSlice 27 (.int .i64 (n : Int)) (.int .i64 (n : Int))).run Tryz.prog u = .ok (.slice (some ⟨u.heap.size, 0, none⟩) n n) w ∧ IsOwn w u.heap.size (List.replicate n 0) ∧ Chg (fun _ => False) u w ∧ w.heap.size = u.heap.size + 1 := by
  obtain ⟨i0, hi, hz0, hz1, hz2⟩ := info_parts infoU64m
  have h := run_make (P := Tryz.prog) u 27 42 i0 (.int .u64 0) Tryz.underlying27 hi hz0 .i64 .i64 (n : Int) (n : Int) (by omega) (Int.le_refl _) (by rw [hz2]; omega) (by omega)
  refine ⟨u.alloc (.cells (madeCells #[Value.int .u64 0] n) 42), by simpa [hz1, Value.cells] using h, ?_, (Chg.refl _ _).alloc _, by simp⟩
  have e : madeCells #[Value.int .u64 0] n = ((List.replicate n 0).map u64V).toArray := by
    apply Array.ext'
    rw [toList_madeCells_one]
    simp [u64V]
  unfold IsOwn
  rw [e]
  exact heap_alloc_new _ _

def rmCells (nc n next : Nat) (av : Value) : Array Value := #[.slice (some ⟨nc, 0, none⟩) n n, .int .i64 (next : Int), av, .bool false]
structure RMemAt (W : World) (R : Nat → Prop) (nm nc : Nat) (av : Value) (n next : Nat) (os cs : List Nat) (l : List Acc) : Prop where
  blk : W.heap[nm]? = some (.cells (rmCells nc n next av) 54 (0, 0))
  own : IsOwn W nc os
  os : Own os cs n
  acc : W.ownsRow 0 44 8 av l.length (accRow l)
  vals : ∀ x ∈ l, W.ownsRow 0 42 1 x.vs x.vals.length (x.vals.map u64V)
  inn : R nm
  inc : R nc
  ina : ∀ k, av.ownBlock = some k → R k
  inv : ∀ x ∈ l, ∀ k, x.vs.ownBlock = some k → R k
  ne : ∀ x ∈ l, x.vs.ownBlock ≠ some nc
  lt : ∀ k, R k → k < W.heap.size
  nn : 128 ≤ n ∧ n ≤ 4194304
  small : ∀ i, cellN cs i < 18446744073709551616
def RMem (W : World) (R : Nat → Prop) (nm n next : Nat) (cs : List Nat) (l : List Acc) : Prop := ∃ nc av os, RMemAt W R nm nc av n next os cs l
theorem RMemAt.kept {W W' : World} {R : Nat → Prop} {nm nc n next : Nat} {av : Value} {os cs : List Nat} {l : List Acc} (h : RMemAt W R nm nc av n next os cs l) (hs : W.heap.size ≤ W'.heap.size) (hk : ∀ k, R k → W'.heap[k]? = W.heap[k]?) : RMemAt W' R nm nc av n next os cs l :=
  ⟨(hk nm h.inn).trans h.blk, (hk nc h.inc).trans h.own, h.os, row_kept h.acc fun k e => hk k (h.ina k e), fun x hx => row_kept (h.vals x hx) fun k e => hk k (h.inv x hx k e), h.inn, h.inc, h.ina, h.inv, h.ne, fun k e => Nat.lt_of_lt_of_le (h.lt k e) hs, h.nn, h.small⟩
theorem RMem.chg {W W' : World} {R G : Nat → Prop} {nm n next : Nat} {cs : List Nat} {l : List Acc} (h : RMem W R nm n next cs l) (hc : Chg G W W') (hd : ∀ k, R k → ¬ G k) : RMem W' R nm n next cs l := by
  obtain ⟨nc, av, os, h⟩ := h
  exact ⟨nc, av, os, h.kept hc.size fun k e => hc.block k (h.lt k e) (hd k e)⟩
theorem RMem.lt {W : World} {R : Nat → Prop} {nm n next : Nat} {cs : List Nat} {l : List Acc} (h : RMem W R nm n next cs l) (k : Nat) (hk : R k) : k < W.heap.size := by
  obtain ⟨nc, av, os, h⟩ := h
  exact h.lt k hk
theorem RMem.inn {W : World} {R : Nat → Prop} {nm n next : Nat} {cs : List Nat} {l : List Acc} (h : RMem W R nm n next cs l) : R nm := by
  obtain ⟨nc, av, os, h⟩ := h
  exact h.inn
theorem Bank.lt {W : World} {F : Nat → Prop} {b most next : Nat} {cs : List Nat} {l : List Acc} (h : Bank W F b most next cs l) (k : Nat) (hk : F k) : k < W.heap.size := by
  obtain ⟨cv, av, h⟩ := h
  exact h.lt k hk

theorem rnote_end {W w2 w3 : World} {R : Nat → Prop} {nm nc n next g' c3 : Nat} {av : Value} {os cs : List Nat} {l : List Acc} {th : Int} {kind addr x y got : Nat} {ok : Bool}
    (h : RMemAt W R nm nc av n next os cs l) (hk2 : ∀ k, k < W.heap.size → w2.heap[k]? = W.heap[k]?) (hc2 : Chg R W w2) (hg : w2.grownBy w3 av.ownBlock)
    (hb3 : w3.heap[nm]? = some (.cells (rmCells nc n next av) 54 (0, 0)))
    (ho : w3.ownsRow 0 44 8 (.slice (some ⟨g', 0, none⟩) (l.length + 1) c3) (l.length + 1) (accRow l ++ [.int .i64 th, .int .u8 (kind : Int), .int .u64 (addr : Int), .int .u64 (x : Int), .int .u64 (y : Int), .slice none 0 0, .int .u64 (got : Int), .bool ok]))
    (hw2 : av.ownBlock = some g' ∨ W.heap.size ≤ g') :
    ∃ R', RMem (w3.setCell ⟨nm, 2, none⟩ (.slice (some ⟨g', 0, none⟩) (l.length + 1) c3)) R' nm n next cs (l ++ [⟨th, kind, addr, x, y, .slice none 0 0, [], got, ok⟩]) ∧ Goes W (w3.setCell ⟨nm, 2, none⟩ (.slice (some ⟨g', 0, none⟩) (l.length + 1) c3)) R R' := by
  have gb : g' ≠ nm := fun e => block_apart ho hb3 (by decide) (by rw [e]; rfl)
  have szW := hc2.size
  have sz3 := hg.size
  have hsz : (w3.setCell ⟨nm, 2, none⟩ (.slice (some ⟨g', 0, none⟩) (l.length + 1) c3)).heap.size = w3.heap.size := by simp [World.setCell]
  have k3 : ∀ k, k < W.heap.size → k ≠ nm → av.ownBlock ≠ some k → (w3.setCell ⟨nm, 2, none⟩ (.slice (some ⟨g', 0, none⟩) (l.length + 1) c3)).heap[k]? = W.heap[k]? := fun k hk h1 h2 =>
    (Below.heap_setCell _ _ _ _ h1).trans ((hg.block k (by omega) (fun e => h2 e.symm)).trans (hk2 k hk))
  refine ⟨fun k => R k ∨ k = g', ⟨nc, .slice (some ⟨g', 0, none⟩) (l.length + 1) c3, os, ?_, ?_, h.os, ?_, ?_, .inl h.inn, .inl h.inc, ?_, ?_, ?_, ?_, h.nn, h.small⟩, ⟨?_, ?_⟩⟩
  · exact set_of hb3 2 _
  · refine (k3 nc (h.lt nc h.inc) (fun e => ?_) (fun e => block_apart h.acc h.own (by decide) e)).trans h.own
    have e1 := h.own
    rw [IsOwn, e, h.blk] at e1
    simp at e1
  · have r := row_kept (W' := w3.setCell ⟨nm, 2, none⟩ (.slice (some ⟨g', 0, none⟩) (l.length + 1) c3)) ho fun k e => Below.heap_setCell _ _ _ _ (by simp [Value.ownBlock] at e; rw [← e]; exact gb)
    simpa [accRow, Acc.cells] using r
  · intro z hz
    rcases List.mem_append.1 hz with hz | hz
    · exact row_kept (h.vals z hz) fun k e => k3 k (h.lt k (h.inv z hz k e)) (fun e2 => block_apart (h.vals z hz) h.blk (by decide) (by rw [e, e2])) (fun e2 => rows_apart (h.vals z hz) h.acc (by decide) k e e2)
    · obtain rfl := List.mem_singleton.1 hz
      exact World.ownsRow_nil _ _ _ _
  · intro k e
    simp [Value.ownBlock] at e
    exact .inr e.symm
  · intro z hz k e
    rcases List.mem_append.1 hz with hz | hz
    · exact .inl (h.inv z hz k e)
    · obtain rfl := List.mem_singleton.1 hz
      simp [Value.ownBlock] at e
  · intro z hz e
    rcases List.mem_append.1 hz with hz | hz
    · exact h.ne z hz e
    · obtain rfl := List.mem_singleton.1 hz
      simp [Value.ownBlock] at e
  · rw [hsz]
    rintro k (hk | rfl)
    · have := h.lt k hk
      omega
    · exact row_lt ho k rfl
  · exact ((hc2.grown hg (fun k e _ => h.ina k e))).setCell (fun _ => h.inn) _
  · rintro k (hk | rfl)
    · exact .inl hk
    · rcases hw2 with e | e
      · exact .inl (h.ina k e)
      · exact .inr e

set_option maxRecDepth 100000 in
theorem r_note (nm n next : Nat) (th : Int) (kind addr x y got : Nat) (ok : Bool) (R : Nat → Prop) (cs : List Nat) (l : List Acc) (W : World) (h : RMem W R nm n next cs l) (hl : l.length < 1099511627776) :
    Calls Tryz.prog 75 #[.pointer (some ⟨nm, 0, none⟩), accV th kind addr x y (.slice none 0 0) got ok] W fun e W' => e = .returned (.tuple #[]) ∧ ∃ R', RMem W' R' nm n next cs (l ++ [⟨th, kind, addr, x, y, .slice none 0 0, [], got, ok⟩]) ∧ Goes W W' R R' := by
  obtain ⟨i0, hi, hz0, hz1, hz2⟩ := info_parts infoA
  unfold accV
  obtain ⟨nc, av, os, h⟩ := h
  have hbl := lt_of h.blk
  obtain ⟨pa, ca, rfl⟩ := slice_of h.acc
  obtain ⟨w1, hw1⟩ : ∃ w1, w1 = W.alloc (.cells #[.int .i64 th, .int .u8 (kind : Int), .int .u64 (addr : Int), .int .u64 (x : Int), .int .u64 (y : Int), .slice none 0 0, .int .u64 (got : Int), .bool ok] 44) := ⟨_, rfl⟩
  have hB1 : Hid (w1.heap[W.heap.size]? = some (.cells #[.int .i64 th, .int .u8 (kind : Int), .int .u64 (addr : Int), .int .u64 (x : Int), .int .u64 (y : Int), .slice none 0 0, .int .u64 (got : Int), .bool ok] 44 (0, 0))) := by rw [hw1]; exact heap_alloc_new _ _
  have hk1 : Hid (∀ k, k < W.heap.size → w1.heap[k]? = W.heap[k]?) := fun k hk => by rw [hw1]; exact Below.heap_alloc _ _ _ hk
  have hs1 : w1.heap.size = W.heap.size + 1 := by rw [hw1]; simp
  have hC1 : Hid (Chg R W w1) := by rw [hw1]; exact (Chg.refl R W).alloc _
  have hb1 : Hid (w1.heap[nm]? = some (.cells (rmCells nc n next (.slice pa l.length ca)) 54 (0, 0))) := (hk1.out nm hbl).trans h.blk
  have HA : Hid (w1.drew.ownsRow 0 44 8 (.slice pa l.length ca) l.length (accRow l)) := row_kept (W := W) h.acc fun k e => (hk1.out k (row_lt h.acc k e))
  have q0 := (cell_of hB1.out 0).trans rfl
  have q1 := (cell_of hB1.out 1).trans rfl
  have q2 := (cell_of hB1.out 2).trans rfl
  have q3 := (cell_of hB1.out 3).trans rfl
  have q4 := (cell_of hB1.out 4).trans rfl
  have q5 := (cell_of hB1.out 5).trans rfl
  have q6 := (cell_of hB1.out 6).trans rfl
  have q7 := (cell_of hB1.out 7).trans rfl
  have r2 : w1.cell? ⟨nm, 2, none⟩ = some (.slice pa l.length ca) := cell_of hb1.out 2
  have r3 : w1.cell? ⟨nm, 3, none⟩ = some (.bool false) := cell_of hb1.out 3
  have H := keepH h
  have ne1 : ¬ nm = w1.heap.size := by omega
  have qa : ∀ o, (w1.alloc o).cell? ⟨nm, 2, none⟩ = some (.slice pa l.length ca) := fun o => cell_of (alloc_of hb1.out o) 2
  have HS1 := keepH hs1
  have HW1 := keepH hw1
  clear h hs1 hw1
  go_enter Tryz.func75, Tryz.ntmps75
  go_upto_region 1 with fail
  rw [← HW1.out]
  clear HW1
  go_wp2_with fail
  go_region_law (refine step_append_own rfl (.tmp 13) (.tmp 15) 22 rfl 44 i0 (accV 0 0 0 0 0 (.slice none 0 0) 0 false) 8 80 Tryz.underlying22 hi hz0 hz1 hz2 rfl (by decide) (.slice pa l.length ca) l.length (accRow l) rfl (HA.out.alloc _) ⟨w1.heap.size, 0, none⟩ 1 1 [.int .i64 th, .int .u8 (kind : Int), .int .u64 (addr : Int), .int .u64 (x : Int), .int .u64 (y : Int), .slice none 0 0, .int .u64 (got : Int), .bool ok] rfl rfl (cells_new _ _ rfl _ _) (by simp [Value.oneCell']) (by unfold maxLen; omega) (by omega) ?_; intro v' w3 hown3 hgr3 _ hwh3; obtain ⟨g', c3, rfl⟩ := slice_pos hown3 (Nat.succ_pos _); have hb3 : Hid (w3.heap[nm]? = some (.cells (rmCells nc n next (.slice pa l.length ca)) 54 (0, 0))) := (hgr3.block nm (by have := lt_of hb1.out; simp; omega) (fun e => block_apart H.out.acc H.out.blk (by decide) e.symm)).trans (alloc_of (W := w1.drew) hb1.out _); have r8 : w3.cell? ⟨nm, 2, none⟩ = some (.slice pa l.length ca) := cell_of hb3.out 2; have rf := free_of hb3.out 2; have HO := keepH hown3; have HW3 := keepH hwh3; have HG3 := keepH hgr3; clear hown3 hwh3 hgr3)
  all_goals (go_wp2_with fail)
  all_goals go_end0
  all_goals (refine ⟨rfl, rnote_end H.out (fun k hk => ?_) ?_ HG3.out hb3.out HO.out ?_⟩)
  all_goals first
    | exact (Below.heap_alloc w1.drew _ _ (by have := HS1.out; show _ < w1.heap.size; omega)).trans (hk1.out k hk)
    | exact hC1.out.drew.alloc _
    | (rcases HW3.out with e2 | e2
       · exact .inl e2.symm
       · simp [Value.ownBlock] at e2; exact .inr (by have := HS1.out; omega))
end Go.Proofs.YtjodechhnobkhaaGreatDoor
