/- The document's memory (shutterref03), plain: what it holds, and what its accesses do. -/
import Derived.BigQuiet
import Derived.Deep.Cut
import Derived.Deep.CutBlock
import Derived.Deep.DeepCutAuto
import Derived.Test.YtmmaniolaljjlaaGreatDoorP9Ops
namespace Go.Proofs.YtmmaniolaljjlaaGreatDoor
open Go.RowKit Go.Shelf

def Own (os cs : List Nat) (n : Nat) : Prop := os.length = n ∧ (∀ i, i < n → cellN os i = cellN cs i) ∧ ∀ i, n ≤ i → cellN cs i = 0
def IsOwn (W : World) (g : Nat) (os : List Nat) : Prop := W.heap[g]? = some (.cells (os.map u64V).toArray 23 (0, 0))
theorem IsOwn.set {W : World} {g : Nat} {os : List Nat} (h : IsOwn W g os) (i v : Nat) : IsOwn (W.setCell ⟨g, i, none⟩ (.int .u64 (v : Int))) g (os.set i v) := by
  have e := set_of h i (.int .u64 (v : Int))
  rw [IsOwn, e, List.map_set]
  simp [u64V]
theorem IsOwn.cell {W : World} {g : Nat} {os : List Nat} (h : IsOwn W g os) (i : Nat) (hi : i < os.length) : W.cell? ⟨g, i, none⟩ = some (.int .u64 (cellN os i : Int)) := by
  rw [cell_of h i]
  simp [cellN, u64V, List.getElem?_eq_getElem hi]
theorem cellN_set (os : List Nat) (i v j : Nat) (hi : i < os.length) : cellN (os.set i v) j = if j = i then v else cellN os j := by
  simp only [cellN, List.getD_eq_getElem?_getD, List.getElem?_set]
  by_cases e : i = j
  · subst e
    simp [hi]
  · rw [if_neg e, if_neg (fun x => e x.symm)]
theorem Own.set {os cs : List Nat} {n i v : Nat} (h : Own os cs n) (hi : i < n) : Own (os.set i v) (stN n cs i v) n := by
  refine ⟨by simp [h.1], fun j hj => ?_, fun j hj => ?_⟩
  · rw [cellN_set _ _ _ _ (by rw [h.1]; exact hi), stN_cell]
    simp [hi, h.2.1 j hj]
  · rw [stN_cell, if_neg (by omega)]
    exact h.2.2 j hj
theorem own_zero (n : Nat) : Own (List.replicate n 0) [] n := by
  refine ⟨by simp, fun i hi => ?_, fun i hi => by simp [cellN]⟩
  simp only [cellN, List.getD_eq_getElem?_getD, List.getElem?_replicate]
  split <;> simp
theorem infoU64m : (Tryz.prog.info? 23).map (fun i => (i.zero, i.size, i.bytes)) = some (some (.int .u64 0), 1, 8) := by kernel_rfl
theorem make_u64s (n : Nat) (hn : n ≤ 4194304) (u : World) : ∃ w, (Instr.makeSlice 26 (.int .i64 (n : Int)) (.int .i64 (n : Int))).run Tryz.prog u = .ok (.slice (some ⟨u.heap.size, 0, none⟩) n n) w ∧ IsOwn w u.heap.size (List.replicate n 0) ∧ Chg (fun _ => False) u w ∧ w.heap.size = u.heap.size + 1 := by
  obtain ⟨i0, hi, hz0, hz1, hz2⟩ := info_parts infoU64m
  have h := run_make (P := Tryz.prog) u 26 23 i0 (.int .u64 0) Tryz.underlying26 hi hz0 .i64 .i64 (n : Int) (n : Int) (by omega) (Int.le_refl _) (by rw [hz2]; omega) (by omega)
  refine ⟨u.alloc (.cells (madeCells #[Value.int .u64 0] n) 23), by simpa [hz1, Value.cells] using h, ?_, (Chg.refl _ _).alloc _, by simp⟩
  have e : madeCells #[Value.int .u64 0] n = ((List.replicate n 0).map u64V).toArray := by
    apply Array.ext'
    rw [toList_madeCells_one]
    simp [u64V]
  unfold IsOwn
  rw [e]
  exact heap_alloc_new _ _

def rmCells (nc n next : Nat) (av : Value) : Array Value := #[.slice (some ⟨nc, 0, none⟩) n n, .int .i64 (next : Int), av, .bool false]
structure RMemAt (W : World) (R : Nat → Prop) (nm nc : Nat) (av : Value) (n next : Nat) (os cs : List Nat) (l : List Acc) : Prop where
  blk : W.heap[nm]? = some (.cells (rmCells nc n next av) 176 (0, 0))
  own : IsOwn W nc os
  os : Own os cs n
  acc : W.ownsRow 0 208 8 av l.length (accRow l)
  vals : ∀ x ∈ l, W.ownsRow 0 23 1 x.vs x.vals.length (x.vals.map u64V)
  inn : R nm
  inc : R nc
  ina : ∀ k, av.ownBlock = some k → R k
  inv : ∀ x ∈ l, ∀ k, x.vs.ownBlock = some k → R k
  ne : ∀ x ∈ l, x.vs.ownBlock ≠ some nc
  lt : ∀ k, R k → k < W.heap.size
  nn : 128 ≤ n ∧ n ≤ 4194304
  small : ∀ i, cellN cs i < 18446744073709551616
def RMem (W : World) (R : Nat → Prop) (nm n next : Nat) (cs : List Nat) (l : List Acc) : Prop := ∃ nc av os, RMemAt W R nm nc av n next os cs l
theorem RMemAt.kept {W W' : World} {R : Nat → Prop} {nm nc n next : Nat} {av : Value} {os cs : List Nat} {l : List Acc} (h : RMemAt W R nm nc av n next os cs l) (hs : W.heap.size ≤ W'.heap.size) (hk : ∀ k, R k → W'.heap[k]? = W.heap[k]?) : RMemAt W' R nm nc av n next os cs l :=
  ⟨(hk nm h.inn).trans h.blk, (hk nc h.inc).trans h.own, h.os, row_kept h.acc fun k e => hk k (h.ina k e), fun x hx => row_kept (h.vals x hx) fun k e => hk k (h.inv x hx k e), h.inn, h.inc, h.ina, h.inv, h.ne, fun k e => Nat.lt_of_lt_of_le (h.lt k e) hs, h.nn, h.small⟩
theorem RMem.chg {W W' : World} {R G : Nat → Prop} {nm n next : Nat} {cs : List Nat} {l : List Acc} (h : RMem W R nm n next cs l) (hc : Chg G W W') (hd : ∀ k, R k → ¬ G k) : RMem W' R nm n next cs l := by
  obtain ⟨nc, av, os, h⟩ := h
  exact ⟨nc, av, os, h.kept hc.size fun k e => hc.block k (h.lt k e) (hd k e)⟩
theorem RMem.lt {W : World} {R : Nat → Prop} {nm n next : Nat} {cs : List Nat} {l : List Acc} (h : RMem W R nm n next cs l) (k : Nat) (hk : R k) : k < W.heap.size := by
  obtain ⟨nc, av, os, h⟩ := h
  exact h.lt k hk
theorem RMem.inn {W : World} {R : Nat → Prop} {nm n next : Nat} {cs : List Nat} {l : List Acc} (h : RMem W R nm n next cs l) : R nm := by
  obtain ⟨nc, av, os, h⟩ := h
  exact h.inn
theorem Bank.lt {W : World} {F : Nat → Prop} {b most next : Nat} {cs : List Nat} {l : List Acc} (h : Bank W F b most next cs l) (k : Nat) (hk : F k) : k < W.heap.size := by
  obtain ⟨cv, av, h⟩ := h
  exact h.lt k hk

end Go.Proofs.YtmmaniolaljjlaaGreatDoor
/- The document's memory: Peek, Load, Store, Cas, New. -/
namespace Go.Proofs.YtmmaniolaljjlaaGreatDoor
open Go.RowKit Go.Shelf
set_option linter.unusedVariables false

theorem RMemAt.put {W : World} {R : Nat → Prop} {nm nc n next : Nat} {av : Value} {os cs : List Nat} {l : List Acc} (h : RMemAt W R nm nc av n next os cs l) (i v : Nat) (hi : i < n) (hv : v < 18446744073709551616) : RMemAt (W.setCell ⟨nc, i, none⟩ (.int .u64 (v : Int))) R nm nc av n next (os.set i v) (stN n cs i v) l ∧ Goes W (W.setCell ⟨nc, i, none⟩ (.int .u64 (v : Int))) R R := by
  have ne : nm ≠ nc := fun e => by
    have e1 := h.own
    rw [IsOwn, ← e, h.blk] at e1
    simp at e1
  refine ⟨⟨other_of h.blk ne _, h.own.set i v, h.os.set hi, row_kept h.acc fun k e => Below.heap_setCell _ _ _ _ (fun e2 => block_apart h.acc h.own (by decide) (by rw [e, e2])), fun x hx => row_kept (h.vals x hx) fun k e => Below.heap_setCell _ _ _ _ (fun e2 => h.ne x hx (by rw [e, e2])), h.inn, h.inc, h.ina, h.inv, h.ne, fun k e => by have := h.lt k e; simpa [World.setCell] using this, h.nn, fun j => ?_⟩, ⟨(Chg.refl R W).setCell (p := ⟨nc, i, none⟩) (fun _ => h.inc) _, fun k e => .inl e⟩⟩
  rw [stN_cell]
  split
  · exact hv
  · exact h.small j

theorem RMemAt.out {W : World} {R : Nat → Prop} {nm nc n next : Nat} {av : Value} {os cs : List Nat} {l : List Acc} (h : RMemAt W R nm nc av n next os cs l) (i : Nat) (hi : n ≤ i) : cellN cs i = 0 := h.os.2.2 i hi

set_option maxRecDepth 100000 in
theorem r_new (n : Nat) (W : World) (hn : 128 ≤ n ∧ n ≤ 4194304) :
    Calls Tryz.prog 85 #[.int .i64 (n : Int), .bool false] W fun e W' => e = .returned (.tuple #[.pointer (some ⟨W.heap.size + 1, 0, none⟩), .int .i64 0]) ∧ RMem W' (fun k => k = W.heap.size ∨ k = W.heap.size + 1) (W.heap.size + 1) n 1 [] [] ∧ Chg (fun _ => False) W W' ∧ W'.heap.size = W.heap.size + 2 := by
  have t1 : ¬ (n : Int) < 128 := by omega
  have t2 : ¬ (4194304 : Int) < (n : Int) := by omega
  obtain ⟨w3, hmk, hO3, hC3, hS3⟩ := make_u64s n hn.2 W
  have HO3 := keepH hO3
  have HC3 := keepH hC3
  have HS3 := keepH hS3
  clear hO3 hC3
  go_enter Tryz.func85, Tryz.ntmps85
  go_wp2_with fail
  go_ret2
  have hs := HS3.out
  have eN := heap_alloc_new w3 (.cells (rmCells W.heap.size n 1 (.slice none 0 0)) 176)
  rw [hs] at eN
  refine ⟨by simp, ⟨W.heap.size, .slice none 0 0, List.replicate n 0, eN, (Below.heap_alloc _ _ _ (by omega)).trans HO3.out, own_zero n, World.ownsRow_nil _ _ _ _, fun x hx => by simp at hx, .inr rfl, .inl rfl, fun k e => by simp [Value.ownBlock] at e, fun x hx => by simp at hx, fun x hx => by simp at hx, fun k e => by simp; omega, hn, fun i => by simp [cellN]⟩, HC3.out.alloc _, by simp [hs]⟩
end Go.Proofs.YtmmaniolaljjlaaGreatDoor
/- The document's memory: an access with values is noted; Alloc, Left. -/
namespace Go.Proofs.YtmmaniolaljjlaaGreatDoor
open Go.RowKit Go.Shelf
set_option linter.unusedVariables false

theorem rnote_endV {pv : Option Addr} {cv : Nat} {vals : List Nat} {W w2 w3 : World} {R : Nat → Prop} {nm nc n next g' c3 : Nat} {av : Value} {os cs : List Nat} {l : List Acc} {th : Int} {kind addr x y got : Nat} {ok : Bool}
    (h : RMemAt W R nm nc av n next os cs l) (hvs : W.ownsRow 0 23 1 (.slice pv vals.length cv) vals.length (vals.map u64V)) (hvR : ∀ k, (.slice pv vals.length cv : Value).ownBlock = some k → ¬ R k) (hk2 : ∀ k, k < W.heap.size → w2.heap[k]? = W.heap[k]?) (hc2 : Chg R W w2) (hg : w2.grownBy w3 av.ownBlock)
    (hb3 : w3.heap[nm]? = some (.cells (rmCells nc n next av) 176 (0, 0)))
    (ho : w3.ownsRow 0 208 8 (.slice (some ⟨g', 0, none⟩) (l.length + 1) c3) (l.length + 1) (accRow l ++ [.int .i64 th, .int .u8 (kind : Int), .int .u64 (addr : Int), .int .u64 (x : Int), .int .u64 (y : Int), .slice pv vals.length cv, .int .u64 (got : Int), .bool ok]))
    (hw2 : av.ownBlock = some g' ∨ W.heap.size ≤ g') :
    ∃ R', RMem (w3.setCell ⟨nm, 2, none⟩ (.slice (some ⟨g', 0, none⟩) (l.length + 1) c3)) R' nm n next cs (l ++ [⟨th, kind, addr, x, y, .slice pv vals.length cv, vals, got, ok⟩]) ∧ Chg R W (w3.setCell ⟨nm, 2, none⟩ (.slice (some ⟨g', 0, none⟩) (l.length + 1) c3)) ∧ ∀ k, R' k → R k ∨ W.heap.size ≤ k ∨ (.slice pv vals.length cv : Value).ownBlock = some k := by
  have gb : g' ≠ nm := fun e => block_apart ho hb3 (by decide) (by rw [e]; rfl)
  have szW := hc2.size
  have sz3 := hg.size
  have hsz : (w3.setCell ⟨nm, 2, none⟩ (.slice (some ⟨g', 0, none⟩) (l.length + 1) c3)).heap.size = w3.heap.size := by simp [World.setCell]
  have k3 : ∀ k, k < W.heap.size → k ≠ nm → av.ownBlock ≠ some k → (w3.setCell ⟨nm, 2, none⟩ (.slice (some ⟨g', 0, none⟩) (l.length + 1) c3)).heap[k]? = W.heap[k]? := fun k hk h1 h2 =>
    (Below.heap_setCell _ _ _ _ h1).trans ((hg.block k (by omega) (fun e => h2 e.symm)).trans (hk2 k hk))
  refine ⟨fun k => (R k ∨ k = g') ∨ (.slice pv vals.length cv : Value).ownBlock = some k, ⟨nc, .slice (some ⟨g', 0, none⟩) (l.length + 1) c3, os, ?_, ?_, h.os, ?_, ?_, .inl (.inl h.inn), .inl (.inl h.inc), ?_, ?_, ?_, ?_, h.nn, h.small⟩, ?_, ?_⟩
  · exact set_of hb3 2 _
  · refine (k3 nc (h.lt nc h.inc) (fun e => ?_) (fun e => block_apart h.acc h.own (by decide) e)).trans h.own
    have e1 := h.own
    rw [IsOwn, e, h.blk] at e1
    simp at e1
  · have r := row_kept (W' := w3.setCell ⟨nm, 2, none⟩ (.slice (some ⟨g', 0, none⟩) (l.length + 1) c3)) ho fun k e => Below.heap_setCell _ _ _ _ (by simp [Value.ownBlock] at e; rw [← e]; exact gb)
    simpa [accRow, Acc.cells] using r
  · intro z hz
    rcases List.mem_append.1 hz with hz | hz
    · exact row_kept (h.vals z hz) fun k e => k3 k (h.lt k (h.inv z hz k e)) (fun e2 => block_apart (h.vals z hz) h.blk (by decide) (by rw [e, e2])) (fun e2 => rows_apart (h.vals z hz) h.acc (by decide) k e e2)
    · obtain rfl := List.mem_singleton.1 hz
      exact row_kept hvs fun k e => k3 k (row_lt hvs k e) (fun e2 => hvR k e (by rw [e2]; exact h.inn)) (fun e2 => hvR k e (h.ina k e2))
  · intro k e
    simp [Value.ownBlock] at e
    exact .inl (.inr e.symm)
  · intro z hz k e
    rcases List.mem_append.1 hz with hz | hz
    · exact .inl (.inl (h.inv z hz k e))
    · obtain rfl := List.mem_singleton.1 hz
      exact .inr e
  · intro z hz e
    rcases List.mem_append.1 hz with hz | hz
    · exact h.ne z hz e
    · obtain rfl := List.mem_singleton.1 hz
      exact hvR nc e h.inc
  · rw [hsz]
    rintro k ((hk | rfl) | e)
    · have := h.lt k hk
      omega
    · exact row_lt ho k rfl
    · have := row_lt hvs k e
      omega
  · exact ((hc2.grown hg (fun k e _ => h.ina k e))).setCell (fun _ => h.inn) _
  · rintro k ((hk | rfl) | e)
    · exact .inl hk
    · rcases hw2 with e | e
      · exact .inl (h.ina k e)
      · exact .inr (.inl e)
    · exact .inr (.inr e)

set_option maxRecDepth 100000 in
theorem r_noteV (pv : Option Addr) (cv : Nat) (vals : List Nat) (nm n next : Nat) (th : Int) (kind addr x y got : Nat) (ok : Bool) (R : Nat → Prop) (cs : List Nat) (l : List Acc) (W : World) (h : RMem W R nm n next cs l) (hl : l.length < 1099511627776) (hvs : W.ownsRow 0 23 1 (.slice pv vals.length cv) vals.length (vals.map u64V)) (hvR : ∀ k, (.slice pv vals.length cv : Value).ownBlock = some k → ¬ R k) :
    Calls Tryz.prog 132 #[.pointer (some ⟨nm, 0, none⟩), accV th kind addr x y (.slice pv vals.length cv) got ok] W fun e W' => e = .returned (.tuple #[]) ∧ ∃ R', RMem W' R' nm n next cs (l ++ [⟨th, kind, addr, x, y, .slice pv vals.length cv, vals, got, ok⟩]) ∧ Chg R W W' ∧ ∀ k, R' k → R k ∨ W.heap.size ≤ k ∨ (.slice pv vals.length cv : Value).ownBlock = some k := by
  obtain ⟨i0, hi, hz0, hz1, hz2⟩ := info_parts infoA
  unfold accV
  obtain ⟨nc, av, os, h⟩ := h
  have hbl := lt_of h.blk
  obtain ⟨pa, ca, rfl⟩ := slice_of h.acc
  obtain ⟨w1, hw1⟩ : ∃ w1, w1 = W.alloc (.cells #[.int .i64 th, .int .u8 (kind : Int), .int .u64 (addr : Int), .int .u64 (x : Int), .int .u64 (y : Int), .slice pv vals.length cv, .int .u64 (got : Int), .bool ok] 208) := ⟨_, rfl⟩
  have hB1 : Hid (w1.heap[W.heap.size]? = some (.cells #[.int .i64 th, .int .u8 (kind : Int), .int .u64 (addr : Int), .int .u64 (x : Int), .int .u64 (y : Int), .slice pv vals.length cv, .int .u64 (got : Int), .bool ok] 208 (0, 0))) := by rw [hw1]; exact heap_alloc_new _ _
  have hk1 : Hid (∀ k, k < W.heap.size → w1.heap[k]? = W.heap[k]?) := fun k hk => by rw [hw1]; exact Below.heap_alloc _ _ _ hk
  have hs1 : w1.heap.size = W.heap.size + 1 := by rw [hw1]; simp
  have hC1 : Hid (Chg R W w1) := by rw [hw1]; exact (Chg.refl R W).alloc _
  have hb1 : Hid (w1.heap[nm]? = some (.cells (rmCells nc n next (.slice pa l.length ca)) 176 (0, 0))) := (hk1.out nm hbl).trans h.blk
  have HA : Hid (w1.drew.ownsRow 0 208 8 (.slice pa l.length ca) l.length (accRow l)) := row_kept (W := W) h.acc fun k e => (hk1.out k (row_lt h.acc k e))
  have q0 := (cell_of hB1.out 0).trans rfl
  have q1 := (cell_of hB1.out 1).trans rfl
  have q2 := (cell_of hB1.out 2).trans rfl
  have q3 := (cell_of hB1.out 3).trans rfl
  have q4 := (cell_of hB1.out 4).trans rfl
  have q5 := (cell_of hB1.out 5).trans rfl
  have q6 := (cell_of hB1.out 6).trans rfl
  have q7 := (cell_of hB1.out 7).trans rfl
  have r2 : w1.cell? ⟨nm, 2, none⟩ = some (.slice pa l.length ca) := cell_of hb1.out 2
  have r3 : w1.cell? ⟨nm, 3, none⟩ = some (.bool false) := cell_of hb1.out 3
  have H := keepH h
  have HVS := keepH hvs
  have HVR := keepH hvR
  clear hvs hvR
  have ne1 : ¬ nm = w1.heap.size := by omega
  have qa : ∀ o, (w1.alloc o).cell? ⟨nm, 2, none⟩ = some (.slice pa l.length ca) := fun o => cell_of (alloc_of hb1.out o) 2
  have HS1 := keepH hs1
  have HW1 := keepH hw1
  clear h hs1 hw1
  go_enter Tryz.func132, Tryz.ntmps132
  go_upto_region 1 with fail
  rw [← HW1.out]
  clear HW1
  go_wp2_with fail
  go_region_law (refine step_append_own rfl (.tmp 13) (.tmp 15) 174 rfl 208 i0 (accV 0 0 0 0 0 (.slice none 0 0) 0 false) 8 80 Tryz.underlying174 hi hz0 hz1 hz2 rfl (by decide) (.slice pa l.length ca) l.length (accRow l) rfl (HA.out.alloc _) ⟨w1.heap.size, 0, none⟩ 1 1 [.int .i64 th, .int .u8 (kind : Int), .int .u64 (addr : Int), .int .u64 (x : Int), .int .u64 (y : Int), .slice pv vals.length cv, .int .u64 (got : Int), .bool ok] rfl rfl (cells_new _ _ rfl _ _) (by simp [Value.oneCell']) (by unfold maxLen; omega) (by omega) ?_; intro v' w3 hown3 hgr3 _ hwh3; obtain ⟨g', c3, rfl⟩ := slice_pos hown3 (Nat.succ_pos _); have hb3 : Hid (w3.heap[nm]? = some (.cells (rmCells nc n next (.slice pa l.length ca)) 176 (0, 0))) := (hgr3.block nm (by have := lt_of hb1.out; simp; omega) (fun e => block_apart H.out.acc H.out.blk (by decide) e.symm)).trans (alloc_of (W := w1.drew) hb1.out _); have r8 : w3.cell? ⟨nm, 2, none⟩ = some (.slice pa l.length ca) := cell_of hb3.out 2; have rf := free_of hb3.out 2; have HO := keepH hown3; have HW3 := keepH hwh3; have HG3 := keepH hgr3; clear hown3 hwh3 hgr3)
  all_goals (go_wp2_with fail)
  all_goals go_end0
  all_goals (refine ⟨rfl, rnote_endV H.out HVS.out HVR.out (fun k hk => ?_) ?_ HG3.out hb3.out HO.out ?_⟩)
  all_goals first
    | exact (Below.heap_alloc w1.drew _ _ (by have := HS1.out; show _ < w1.heap.size; omega)).trans (hk1.out k hk)
    | exact hC1.out.drew.alloc _
    | (rcases HW3.out with e2 | e2
       · exact .inl e2.symm
       · simp [Value.ownBlock] at e2; exact .inr (by have := HS1.out; omega))
set_option maxRecDepth 100000 in
theorem r_left (nm n next : Nat) (R : Nat → Prop) (cs : List Nat) (l : List Acc) (W : World) (h : RMem W R nm n next cs l) (hnx : next ≤ n) : Calls Tryz.prog 131 #[.pointer (some ⟨nm, 0, none⟩)] W fun e W' => e = .returned (.int .i64 ((n - next : Nat) : Int)) ∧ ∃ q, W' = W.drewN q := by
  obtain ⟨nc, av, os, h⟩ := h
  have c0 : W.cell? ⟨nm, 0, none⟩ = some (.slice (some ⟨nc, 0, none⟩) n n) := cell_of h.blk 0
  have c1 : W.cell? ⟨nm, 1, none⟩ = some (.int .i64 (next : Int)) := cell_of h.blk 1
  have nn := h.nn
  have kw : IntKind.i64.wrap ((n : Int) - (next : Int)) = ((n - next : Nat) : Int) := by rw [IntKind.wrap_i64]; omega
  clear h
  go_enter Tryz.func131, Tryz.ntmps131
  go_wp2_with fail
  go_quiet (fail)
  go_wp2_with fail
  all_goals first
    | exact ⟨rfl, nq, rfl⟩
    | (go_ret; exact ⟨rfl, nq, rfl⟩)
    | (go_ret; trace_state)
end Go.Proofs.YtmmaniolaljjlaaGreatDoor
/- The document's memory: Alloc. -/
namespace Go.Proofs.YtmmaniolaljjlaaGreatDoor
open Go.RowKit Go.Shelf
set_option linter.unusedVariables false

theorem RMem.drewN {W : World} {R : Nat → Prop} {nm n next : Nat} {cs : List Nat} {l : List Acc} (h : RMem W R nm n next cs l) (q : Nat) : RMem (W.drewN q) R nm n next cs l := by
  obtain ⟨nc, av, os, h⟩ := h
  exact ⟨nc, av, os, h.kept (Nat.le_refl _) (fun _ _ => rfl)⟩
theorem RMem.grown {W W' : World} {R : Nat → Prop} {nm n next : Nat} {cs : List Nat} {l : List Acc} (h : RMem W R nm n next cs l) (hg : W.grownBy W' none) : RMem W' R nm n next cs l := by
  obtain ⟨nc, av, os, h⟩ := h
  exact ⟨nc, av, os, h.kept hg.size (fun k e => hg.block k (h.lt k e) (by simp))⟩

set_option maxRecDepth 100000 in
theorem r_alloc0 (nm n next : Nat) (th : Int) (p : Option Addr) (c : Nat) (R : Nat → Prop) (cs : List Nat) (l : List Acc) (W : World) (h : RMem W R nm n next cs l) (hnx : next ≤ n) (hl : l.length < 1099511627776) :
    Calls Tryz.prog 111 #[.pointer (some ⟨nm, 0, none⟩), .int .i64 th, .slice p 0 c] W fun e W' => e = .returned (.int .u64 0) ∧ ∃ R' vs, RMem W' R' nm n next cs (l ++ [⟨th, 5, 0, 0, 0, vs, [], 0, false⟩]) ∧ Goes W W' R R' := by
  obtain ⟨i0, hi, hz0, hz1, hz2⟩ := info_parts infoU
  have hrun := fun W ty => run_append_empty (P := Tryz.prog) W 26 ty 23 i0 Tryz.underlying26 hi p c
  have HB := keepH h
  clear h
  go_enter Tryz.func111, Tryz.ntmps111
  go_wp2_with (at_builtin; refine Lib.wpList_append_run _ rfl _ _ 26 26 rfl (.slice none 0 0) (.slice p 0 c) rfl rfl _ _ (hrun _ _) ?_)
  refine (r_noteV none 0 [] nm n next th 5 0 0 0 0 false R cs l _ HB.out hl (World.ownsRow_nil _ _ _ _) (by simp [Value.ownBlock])).mono ?_
  rintro e w' ⟨rfl, R', hR, hC, hN⟩
  have HR := keepH hR
  clear hR
  go_wp2_with fail
  go_ret
  exact ⟨by simp, R', _, HR.out, hC, fun k hk => (hN k hk).imp_right fun e => e.elim id (by simp [Value.ownBlock])⟩
theorem grown_goes {W w1 W' : World} {R R' : Nat → Prop} {v : Value} (hg : W.grownBy w1 none) (hv : v.ownBlock = none ∨ v.ownBlock = some W.heap.size) (hC : Chg R w1 W') (hN : ∀ k, R' k → R k ∨ w1.heap.size ≤ k ∨ v.ownBlock = some k) : Goes W W' R R' := by
  have h1 : Chg R W w1 := ⟨hg.os, hg.tape, hg.output, hg.size, fun k hk _ => hg.block k hk (by simp)⟩
  refine ⟨h1.trans hC (fun _ _ x => x) (fun _ _ x => x), fun k hk => ?_⟩
  rcases hN k hk with e | e | e
  · exact .inl e
  · exact .inr (Nat.le_trans hg.size e)
  · rcases hv with e2 | e2
    · rw [e2] at e; simp at e
    · rw [e2] at e; simp at e; exact .inr (by omega)

set_option maxRecDepth 100000 in
theorem r_alloc1 (nm n next : Nat) (th : Int) (ad : Addr) (c : Nat) (vals : List Nat) (R : Nat → Prop) (cs : List Nat) (l : List Acc) (W : World) (h : RMem W R nm n next cs l) (hnx : next ≤ n) (hl : l.length < 1099511627776)
    (hr : ∀ j u, (vals.map u64V)[j]? = some u → W.cell? (ad.add j) = some u) (h0 : 0 < vals.length) (hno : n - next < vals.length) (hvl : vals.length ≤ 17592186043904) :
    Calls Tryz.prog 111 #[.pointer (some ⟨nm, 0, none⟩), .int .i64 th, .slice (some ad) vals.length c] W fun e W' => e = .returned (.int .u64 0) ∧ ∃ R' vs, RMem W' R' nm n next cs (l ++ [⟨th, 5, 0, 0, 0, vs, vals, 0, false⟩]) ∧ Goes W W' R R' := by
  obtain ⟨i0, hi, hz0, hz1, hz2⟩ := info_parts infoU
  have t0 : (0 : Int) < (vals.length : Int) := by omega
  have t1 : ¬ (vals.length : Int) ≤ ((n - next : Nat) : Int) := by omega
  have t1' : ¬ vals.length ≤ n - next := by omega
  have HB := keepH h
  have HR := keepH hr
  have HLt : Hid (∀ k, R k → k < W.heap.size) := fun k hk => h.lt k hk
  clear h hr
  go_enter Tryz.func111, Tryz.ntmps111
  go_wp2_with fail
  refine (r_left nm n next R cs l _ HB.out hnx).mono ?_
  rintro e w' ⟨rfl, q, rfl⟩
  go_wp2_with (at_builtin; refine wpList_append_own_at _ rfl _ _ 26 rfl 0 23 i0 (.int .u64 0) 1 8 Tryz.underlying26 hi hz0 hz1 hz2 rfl (by decide) (.slice none 0 0) 0 [] rfl (World.ownsRow_nil _ _ _ _) ad vals.length c (vals.map u64V) rfl (by simp) HR.out (by intro u hu; obtain ⟨x, _, rfl⟩ := List.mem_map.1 hu; rfl) (by unfold maxLen; omega) (by omega) (Nat.zero_le _) ?_; intro v w1 h1 h2 h3 h4; obtain ⟨g', c3, rfl⟩ := slice_pos h1 (by omega); have H1 := keepH h1; have H2 := keepH h2; have H4 := keepH h4; clear h1 h2 h3 h4)
  have H1' : w1.ownsRow 0 23 1 (.slice (some ⟨g', 0, none⟩) vals.length c3) vals.length (vals.map u64V) := by simpa using H1.out
  have G1 : (W.drewN q).grownBy w1 none := H2.out
  have V1 : (.slice (some ⟨g', 0, none⟩) vals.length c3 : Value).ownBlock = none ∨ (.slice (some ⟨g', 0, none⟩) vals.length c3 : Value).ownBlock = some (W.drewN q).heap.size := by have e := H4.out; rw [Nat.zero_add] at e; exact e
  have hvR : ∀ k, (.slice (some ⟨g', 0, none⟩) vals.length c3 : Value).ownBlock = some k → ¬ R k := fun k e hk => by
    have := HLt.out k hk
    rcases V1 with e2 | e2 <;> rw [e2] at e <;> simp at e
    have e3 : W.heap.size = k := e
    omega
  refine (r_noteV (some ⟨g', 0, none⟩) c3 vals nm n next th 5 0 0 0 0 false R cs l _ ((HB.out.drewN q).grown G1) hl H1' hvR).mono ?_
  have HG := keepH G1
  have HV1 := keepH V1
  clear H1' G1 V1 hvR H1 H2 H4 HB HR
  rintro e w' ⟨rfl, R', hR, hC, hN⟩
  have HR' := keepH hR
  have HC := keepH hC
  have HN := keepH hN
  clear hR hC hN
  go_wp2_with fail
  go_ret
  exact ⟨by simp, R', _, HR'.out, (Goes.drewN W R q).trans (grown_goes HG.out HV1.out HC.out HN.out)⟩

theorem RMemAt.setNext {W : World} {R : Nat → Prop} {nm nc n next : Nat} {av : Value} {os cs : List Nat} {l : List Acc} (h : RMemAt W R nm nc av n next os cs l) (nx : Nat) : RMemAt (W.setCell ⟨nm, 1, none⟩ (.int .i64 (nx : Int))) R nm nc av n nx os cs l := by
  have ne : nc ≠ nm := fun e => by
    have e1 := h.own
    rw [IsOwn, e, h.blk] at e1
    simp at e1
  have ob : ∀ k, k ≠ nm → (W.setCell ⟨nm, 1, none⟩ (.int .i64 (nx : Int))).heap[k]? = W.heap[k]? := fun k hk => Below.heap_setCell _ _ _ _ hk
  refine ⟨?_, (ob nc ne).trans h.own, h.os, row_kept h.acc fun k e => ob k (fun e2 => block_apart h.acc h.blk (by decide) (by rw [e, e2])), fun x hx => row_kept (h.vals x hx) fun k e => ob k (fun e2 => block_apart (h.vals x hx) h.blk (by decide) (by rw [e, e2])), h.inn, h.inc, h.ina, h.inv, h.ne, fun k e => by simpa [World.setCell] using h.lt k e, h.nn, h.small⟩
  exact set_of h.blk 1 (.int .i64 (nx : Int))
theorem RMemAt.cells {W : World} {R : Nat → Prop} {nm nc n next : Nat} {av : Value} {os cs cs' : List Nat} {l : List Acc} (h : RMemAt W R nm nc av n next os cs l) (hc : ∀ j, cellN cs' j = cellN cs j) : RMemAt W R nm nc av n next os cs' l :=
  ⟨h.blk, h.own, ⟨h.os.1, fun i hi => (h.os.2.1 i hi).trans (hc i).symm, fun i hi => (hc i).trans (h.os.2.2 i hi)⟩, h.acc, h.vals, h.inn, h.inc, h.ina, h.inv, h.ne, h.lt, h.nn, fun i => by rw [hc]; exact h.small i⟩

def PutR (cs csi vals : List Nat) (next i : Nat) : Prop := ∀ j, cellN csi j = if next ≤ j ∧ j < next + i then cellN vals (j - next) else cellN cs j
theorem PutR.zero (cs vals : List Nat) (next : Nat) : PutR cs cs vals next 0 := fun j => by rw [if_neg (by omega)]
theorem PutR.more {cs csi vals : List Nat} {n next i : Nat} (h : PutR cs csi vals next i) (hn : next + i < n) : PutR cs (stN n csi (next + i) (cellN vals i)) vals next (i + 1) := fun j => by
  rw [stN_cell, h j]
  by_cases e : j = next + i
  · subst e
    rw [if_pos ⟨rfl, hn⟩, if_pos (by omega)]
    congr 1
    omega
  · rw [if_neg (fun x => e x.1)]
    by_cases e2 : next ≤ j ∧ j < next + i
    · rw [if_pos e2, if_pos (by omega)]
    · rw [if_neg e2, if_neg (by omega)]
theorem PutR.all {cs csi vals : List Nat} {n next : Nat} (h : PutR cs csi vals next vals.length) (hok : alOk n next vals.length) (j : Nat) : cellN (alN n next cs vals) j = cellN csi j := by
  unfold alN
  rw [if_pos hok, spliceN_cell _ _ _ (by rw [padN_length]; omega), padN_cell, h j]

set_option maxRecDepth 100000 in
theorem r_alloc2 (nm n next : Nat) (th : Int) (ad : Addr) (c : Nat) (vals : List Nat) (R : Nat → Prop) (cs : List Nat) (l : List Acc) (W : World) (h : RMem W R nm n next cs l) (hnx : next ≤ n) (hl : l.length < 1099511627776)
    (hr : ∀ j u, (vals.map u64V)[j]? = some u → W.cell? (ad.add j) = some u) (hap : ¬ R ad.block) (hv : ∀ x ∈ vals, x < 18446744073709551616) (h0 : 0 < vals.length) (hro : vals.length ≤ n - next) :
    Calls Tryz.prog 111 #[.pointer (some ⟨nm, 0, none⟩), .int .i64 th, .slice (some ad) vals.length c] W fun e W' => e = .returned (.int .u64 (next : Int)) ∧ ∃ R' vs, RMem W' R' nm n (next + vals.length) (alN n next cs vals) (l ++ [⟨th, 5, next, 0, 0, vs, vals, 0, false⟩]) ∧ Goes W W' R R' := by
  obtain ⟨i0, hi, hz0, hz1, hz2⟩ := info_parts infoU
  have t0 : (0 : Int) < (vals.length : Int) := by omega
  have t1 : (vals.length : Int) ≤ ((n - next : Nat) : Int) := by omega
  have HB := keepH h
  have HR := keepH hr
  have HLt : Hid (∀ k, R k → k < W.heap.size) := fun k hk => h.lt k hk
  have HV := keepH hv
  have HAP := keepH hap
  obtain ⟨nc, av, os, h⟩ := h
  have nn := h.nn
  have c1 : W.cell? ⟨nm, 1, none⟩ = some (.int .i64 (next : Int)) := cell_of h.blk 1
  have f1 := free_of h.blk 1
  obtain ⟨nx, hnx2⟩ : ∃ nx, nx = next + vals.length := ⟨_, rfl⟩
  have wn : IntKind.i64.wrap ((next : Int) + (vals.length : Int)) = (nx : Int) := by rw [IntKind.wrap_i64]; omega
  have wm : IntKind.u64.wrap (next : Int) = (next : Int) := u64_lt (by omega)
  have H0 := keepH h
  have HNX := keepH hnx2
  have hle : next + vals.length ≤ n := by omega
  have hin : Hid (R nm) := h.inn
  have hic : Hid (R nc) := h.inc
  clear h hr hv hap hnx2
  go_enter Tryz.func111, Tryz.ntmps111
  go_wp2_with fail
  refine (r_left nm n next R cs l _ HB.out hnx).mono ?_
  rintro e w' ⟨rfl, q, rfl⟩
  go_wp2_with fail
  obtain ⟨X, hX⟩ : ∃ X, X = (W.drewN q).setCell ⟨nm, 1, none⟩ (.int .i64 (nx : Int)) := ⟨_, rfl⟩
  have HX : Hid (RMemAt X R nm nc av n nx os cs l) := by rw [hX]; exact (H0.out.kept (W' := W.drewN q) (Nat.le_refl _) (fun _ _ => rfl)).setNext nx
  have CX : Hid (Chg R W X) := by rw [hX]; exact ((Goes.drewN W R q).chg).setCell (p := ⟨nm, 1, none⟩) (fun _ => hin.out) _
  try rw [← hX]
  clear hX c1 f1 H0 HB
  go_loopw [8] (fun sv wr => ∃ (i : Nat), i ≤ vals.length ∧ sv = .int .i64 (i : Int) ∧ Hid (∃ osi csi, RMemAt wr R nm nc av n nx osi csi l ∧ PutR cs csi vals next i) ∧ Hid (Chg R W wr)) (fun sv _ => vals.length - (intOf sv).toNat)
  case atStart => exact ⟨0, by omega, rfl, ⟨os, cs, HX.out, PutR.zero _ _ _⟩, CX⟩
  case round =>
    obtain ⟨i, hil, rfl, HM, HCh⟩ := hrel
    by_cases hlt : i < vals.length
    · have q1 : (i : Int) < (vals.length : Int) := by omega
      obtain ⟨osi, csi, M, P⟩ := HM.out
      have k0 : wr.cell? ⟨nm, 0, none⟩ = some (.slice (some ⟨nc, 0, none⟩) n n) := cell_of M.blk 0
      have kc := M.own.cell (next + i) (by rw [M.os.1]; omega)
      have kf := free_of M.own (next + i)
      have kv : wr.cell? (ad.add i) = some (.int .u64 (cellN vals i : Int)) := cell_chg HCh.out (HR.out i _ (by simp [cellN, u64V, List.getElem?_eq_getElem hlt])) (by rw [add_block]; exact HAP.out)
      have wi : IntKind.i64.wrap ((next : Int) + (i : Int)) = ((next + i : Nat) : Int) := by rw [IntKind.wrap_i64]; omega
      have wb : ((next + i : Nat) : Int) < (n : Int) := by omega
      have hM := keepH M
      have hP := keepH P
      clear M P
      go_wp2_with fail
      go_region
      all_goals (go_wp2_with fail)
      have hput := hM.out.put (next + i) (cellN vals i) (by omega) (HV.out _ (by simp [cellN, List.getElem?_eq_getElem hlt]))
      exact ⟨⟨i + 1, by omega, by simp, ⟨_, _, hput.1.kept (Nat.le_refl _) (fun _ _ => rfl), hP.out.more (by omega)⟩, (HCh.out.trans hput.2.chg (fun _ _ x => x) (fun _ _ x => x)).drew⟩, by simp [intOf]; omega⟩
    · have q1 : ¬ (i : Int) < (vals.length : Int) := by omega
      obtain rfl : i = vals.length := by omega
      have hsrc : Hid (∀ j u, (vals.map u64V)[j]? = some u → wr.cell? (ad.add j) = some u) := fun j u hj => cell_chg HCh.out (HR.out j u hj) (by rw [add_block]; exact HAP.out)
      have hwl : Hid (∀ k, R k → k < wr.heap.size) := fun k hk => Nat.lt_of_lt_of_le (HLt.out k hk) HCh.out.size
      clear HR HLt
      go_wp2_with (at_builtin; refine wpList_append_own_at _ rfl _ _ 26 rfl 0 23 i0 (.int .u64 0) 1 8 Tryz.underlying26 hi hz0 hz1 hz2 rfl (by decide) (.slice none 0 0) 0 [] rfl (World.ownsRow_nil _ _ _ _) ad vals.length c (vals.map u64V) rfl (by simp) hsrc.out (by intro u hu; obtain ⟨x, _, rfl⟩ := List.mem_map.1 hu; rfl) (by unfold maxLen; omega) (by omega) (Nat.zero_le _) ?_; intro v w1 h1 h2 h3 h4; obtain ⟨g', c3, rfl⟩ := slice_pos h1 (by omega); have H1 := keepH h1; have H2 := keepH h2; have H4 := keepH h4; clear h1 h2 h3 h4)
      have H1' : w1.ownsRow 0 23 1 (.slice (some ⟨g', 0, none⟩) vals.length c3) vals.length (vals.map u64V) := by simpa using H1.out
      have G1 : wr.grownBy w1 none := H2.out
      have V1 : (.slice (some ⟨g', 0, none⟩) vals.length c3 : Value).ownBlock = none ∨ (.slice (some ⟨g', 0, none⟩) vals.length c3 : Value).ownBlock = some wr.heap.size := by have e := H4.out; rw [Nat.zero_add] at e; exact e
      have hvR : ∀ k, (.slice (some ⟨g', 0, none⟩) vals.length c3 : Value).ownBlock = some k → ¬ R k := fun k e hk => by
        have := hwl.out k hk
        rcases V1 with e2 | e2 <;> rw [e2] at e <;> simp at e
        have e3 : wr.heap.size = k := e
        omega
      have hm : RMem wr R nm n nx (alN n next cs vals) l := by
        obtain ⟨osi, csi, M, P⟩ := HM.out
        exact ⟨nc, av, osi, M.cells (fun j => P.all ⟨h0, hro⟩ j)⟩
      refine (r_noteV (some ⟨g', 0, none⟩) c3 vals nm n nx th 5 next 0 0 0 false R (alN n next cs vals) l _ (hm.grown G1) hl H1' hvR).mono ?_
      have HG := keepH G1
      have HV1 := keepH V1
      clear H1' G1 V1 hvR H1 H2 H4 hm HM hsrc HX
      rintro e w' ⟨rfl, R', hR, hC, hN⟩
      have HR' := keepH hR
      have HC := keepH hC
      have HN := keepH hN
      clear hR hC hN
      go_wp2_with fail
      go_ret
      have G3 : Goes W wr R R := ⟨HCh.out, fun _ h => .inl h⟩
      exact ⟨by simp, R', _, by rw [← HNX.out]; exact HR'.out, G3.trans (grown_goes HG.out HV1.out HC.out HN.out)⟩

theorem r_alloc (nm n next : Nat) (th : Int) (p : Option Addr) (c : Nat) (vals : List Nat) (R : Nat → Prop) (cs : List Nat) (l : List Acc) (W : World) (h : RMem W R nm n next cs l) (hnx : next ≤ n) (hl : l.length < 1099511627776)
    (hr : Reads W p vals) (hap : ∀ ad, p = some ad → vals ≠ [] → ¬ R ad.block) (hv : ∀ x ∈ vals, x < 18446744073709551616) (hvl : vals.length ≤ 17592186043904) :
    Calls Tryz.prog 111 #[.pointer (some ⟨nm, 0, none⟩), .int .i64 th, .slice p vals.length c] W fun e W' => e = .returned (.int .u64 (alAt n next vals.length : Int)) ∧ ∃ R' vs, RMem W' R' nm n (alNext n next vals.length) (alN n next cs vals) (l ++ [⟨th, 5, alAt n next vals.length, 0, 0, vs, vals, 0, false⟩]) ∧ Goes W W' R R' := by
  by_cases h1 : vals = []
  · subst h1
    have e0 : ¬ alOk n next ([] : List Nat).length := by simp [alOk]
    have e1 : alAt n next ([] : List Nat).length = 0 := by rw [alAt, if_neg e0]
    have e2 : alNext n next ([] : List Nat).length = next := by rw [alNext, if_neg e0]
    have e3 : alN n next cs [] = cs := by rw [alN, if_neg e0]
    rw [e1, e2, e3]
    exact r_alloc0 nm n next th p c R cs l W h hnx hl
  · have h0 : 0 < vals.length := List.length_pos_iff.2 h1
    obtain ⟨ad, rfl, hrd⟩ : ∃ ad, p = some ad ∧ ∀ j u, (vals.map u64V)[j]? = some u → W.cell? (ad.add j) = some u := by
      rcases hr with hr | hr
      · exact absurd hr h1
      · exact hr
    by_cases h2 : vals.length ≤ n - next
    · have e0 : alOk n next vals.length := ⟨h0, h2⟩
      have e1 : alAt n next vals.length = next := by rw [alAt, if_pos e0]
      have e2 : alNext n next vals.length = next + vals.length := by rw [alNext, if_pos e0]
      rw [e1, e2]
      exact r_alloc2 nm n next th ad c vals R cs l W h hnx hl hrd (hap ad rfl h1) hv h0 h2
    · have e0 : ¬ alOk n next vals.length := fun e => h2 e.2
      have e1 : alAt n next vals.length = 0 := by rw [alAt, if_neg e0]
      have e2 : alNext n next vals.length = next := by rw [alNext, if_neg e0]
      have e3 : alN n next cs vals = cs := by rw [alN, if_neg e0]
      rw [e1, e2, e3]
      exact r_alloc1 nm n next th ad c vals R cs l W h hnx hl hrd h0 (by omega) hvl
end Go.Proofs.YtmmaniolaljjlaaGreatDoor
/- The memory below a new store, of both sides: what lies in it does not count. -/
namespace Go.Proofs.YtmmaniolaljjlaaGreatDoor
open Go.RowKit Go.Shelf
set_option linter.unusedVariables false

theorem reads_newN (W : World) (vals : List Nat) (g : Nat) (hg : W.heap.size = g) : Reads (W.alloc (.cells (vals.map u64V).toArray 23)) (some ⟨g, 0, none⟩) vals :=
  .inr ⟨_, rfl, fun j u hj => cells_new W g hg (vals.map u64V).toArray 23 j u (by simpa using hj)⟩
/-- the program's memory and its view, made behind W; blocks D lie apart from it -/
def NS (W X : World) (v b most next made : Nat) (D : Nat → Prop) : Prop := ∃ F cs l, Bank X F b most next cs l ∧ IsView X v b (-1) made ∧ ¬ F v ∧ (∀ k, F k → W.heap.size ≤ k) ∧ W.heap.size ≤ v ∧ Chg (fun _ => False) W X ∧ l.length ≤ made ∧ (∀ k, F k → k < X.heap.size) ∧ ∀ k, D k → ¬ F k ∧ k ≠ v ∧ W.heap.size ≤ k ∧ k < X.heap.size
theorem NS.put {W X Y : World} {v b most next made : Nat} {D G : Nat → Prop} (h : NS W X v b most next made D) (c : Chg G X Y) (hG : ∀ k, G k → D k) : NS W Y v b most next made D := by
  obtain ⟨F, cs, l, B, V, nv, inF, hv, C, L, lt, A⟩ := h
  exact ⟨F, cs, l, B.chg c (fun k hk e => (A k (hG k e)).1 hk), V.chg c (fun e => (A _ (hG _ e)).2.1 rfl), nv, inF, hv, C.trans c (fun _ _ x => x) (fun i hi x => by have := (A i (hG i x)).2.2.1; omega), L, fun k e => Nat.lt_of_lt_of_le (lt k e) c.size, fun k e => ⟨(A k e).1, (A k e).2.1, (A k e).2.2.1, Nat.lt_of_lt_of_le (A k e).2.2.2 c.size⟩⟩
theorem NS.new {W X : World} {v b most next made : Nat} {D : Nat → Prop} (h : NS W X v b most next made D) (o : Obj) : NS W (X.alloc o) v b most next made (fun k => D k ∨ k = X.heap.size) := by
  obtain ⟨F, cs, l, B, V, nv, inF, hv, C, L, lt, A⟩ := h
  have c : Chg (fun _ => False) X (X.alloc o) := (Chg.refl _ _).alloc _
  have vl := V.lt
  have s0 := C.size
  refine ⟨F, cs, l, B.chg c (fun _ _ h => h), V.chg c (fun h => h), nv, inF, hv, C.alloc _, L, fun k e => Nat.lt_of_lt_of_le (lt k e) c.size, fun k e => ?_⟩
  rcases e with e | rfl
  · exact ⟨(A k e).1, (A k e).2.1, (A k e).2.2.1, Nat.lt_of_lt_of_le (A k e).2.2.2 c.size⟩
  · exact ⟨fun x => by have := lt _ x; omega, by omega, by omega, by simp⟩
theorem NS.mono {W X : World} {v b most next made : Nat} {D E : Nat → Prop} (h : NS W X v b most next made D) (hE : ∀ k, E k → D k) : NS W X v b most next made E := by
  obtain ⟨F, cs, l, B, V, nv, inF, hv, C, L, lt, A⟩ := h
  exact ⟨F, cs, l, B, V, nv, inF, hv, C, L, lt, fun k e => A k (hE k e)⟩
theorem NS.chg {W X : World} {v b most next made : Nat} {D : Nat → Prop} (h : NS W X v b most next made D) : Chg (fun _ => False) W X := by
  obtain ⟨F, cs, l, B, V, nv, inF, hv, C, L, lt, A⟩ := h
  exact C
theorem NS.lt {W X : World} {v b most next made : Nat} {D : Nat → Prop} (h : NS W X v b most next made D) (k : Nat) (hk : D k) : k < X.heap.size := by
  obtain ⟨F, cs, l, B, V, nv, inF, hv, C, L, lt, A⟩ := h
  exact (A k hk).2.2.2
theorem NS.aloc {W X : World} {v b most next made : Nat} {D : Nat → Prop} (h : NS W X v b most next made D) (vals : List Nat) (g c : Nat) (hg : X.heap.size = g) (hv : ∀ x ∈ vals, x < 18446744073709551616) (hvl : vals.length ≤ 17592186043904) (h1 : made < 1000000) :
    Calls Tryz.prog 130 #[.pointer (some ⟨v, 0, none⟩), .slice (some ⟨g, 0, none⟩) vals.length c] (X.alloc (.cells (vals.map u64V).toArray 23)) fun e Y => e = .returned (.int .u64 (alAt most next vals.length : Int)) ∧ NS W Y v b most (alNext most next vals.length) (made + 1) D ∧ ∀ k, D k → Y.heap[k]? = X.heap[k]? := by
  have hn := h.new (.cells (vals.map u64V).toArray 23)
  have hlt := h.lt
  obtain ⟨F, cs, l, B, V, nv, inF, hvv, C, L, lt, A⟩ := hn
  have sz : (X.alloc (.cells (vals.map u64V).toArray 23)).heap.size = X.heap.size + 1 := by simp
  refine (v_alloc v b most next made (-1) (some ⟨g, 0, none⟩) c vals F cs l _ V B nv (by omega) (by omega) (reads_newN X vals g hg) (fun ad e _ => by cases e; exact (A g (.inr hg.symm)).1) (fun ad e _ => by cases e; exact (A g (.inr hg.symm)).2.1) hv hvl).mono ?_
  rintro e Y ⟨rfl, F', vs, B', V', G⟩
  have keep : ∀ k, D k → Y.heap[k]? = (X.alloc (.cells (vals.map u64V).toArray 23)).heap[k]? := fun k hk => G.chg.block k (A k (.inl hk)).2.2.2 (fun e => e.elim (A k (.inl hk)).1 (A k (.inl hk)).2.1)
  refine ⟨rfl, ⟨F', _, _, B', V', fun x => (G.new v x).elim nv (fun y => by have := V.lt; omega), fun k x => (G.new k x).elim (inF k) (fun y => Nat.le_trans C.size y), hvv, C.trans G.chg (fun _ _ x => x) (fun i hi x => x.elim (fun y => by have := inF i y; omega) (fun y => by omega)), by simp; omega, fun k x => ?_, fun k hk => ⟨fun x => (G.new k x).elim (A k (.inl hk)).1 (fun y => by have := (A k (.inl hk)).2.2.2; omega), (A k (.inl hk)).2.1, (A k (.inl hk)).2.2.1, Nat.lt_of_lt_of_le (A k (.inl hk)).2.2.2 G.chg.size⟩⟩, fun k hk => (keep k hk).trans (Below.heap_alloc _ _ _ (hlt k hk))⟩
  obtain ⟨_, _, h0⟩ := B'
  exact h0.lt k x
/-- the document's memory, made behind W; blocks D lie apart from it -/
def NR (W X : World) (nm most next made : Nat) (D : Nat → Prop) : Prop := ∃ R cs l, RMem X R nm most next cs l ∧ (∀ k, R k → W.heap.size ≤ k) ∧ Chg (fun _ => False) W X ∧ l.length ≤ made ∧ next ≤ most ∧ ∀ k, D k → ¬ R k ∧ W.heap.size ≤ k ∧ k < X.heap.size
theorem NR.chg {W X : World} {nm most next made : Nat} {D : Nat → Prop} (h : NR W X nm most next made D) : Chg (fun _ => False) W X := by
  obtain ⟨R, cs, l, B, inF, C, L, N, A⟩ := h
  exact C
theorem NR.lt {W X : World} {nm most next made : Nat} {D : Nat → Prop} (h : NR W X nm most next made D) (k : Nat) (hk : D k) : k < X.heap.size := by
  obtain ⟨R, cs, l, B, inF, C, L, N, A⟩ := h
  exact (A k hk).2.2
theorem NR.mono {W X : World} {nm most next made : Nat} {D E : Nat → Prop} (h : NR W X nm most next made D) (hE : ∀ k, E k → D k) : NR W X nm most next made E := by
  obtain ⟨R, cs, l, B, inF, C, L, N, A⟩ := h
  exact ⟨R, cs, l, B, inF, C, L, N, fun k e => A k (hE k e)⟩
theorem NR.put {W X Y : World} {nm most next made : Nat} {D G : Nat → Prop} (h : NR W X nm most next made D) (c : Chg G X Y) (hG : ∀ k, G k → D k) : NR W Y nm most next made D := by
  obtain ⟨R, cs, l, B, inF, C, L, N, A⟩ := h
  exact ⟨R, cs, l, B.chg c (fun k hk e => (A k (hG k e)).1 hk), inF, C.trans c (fun _ _ x => x) (fun i hi x => by have := (A i (hG i x)).2.1; omega), L, N, fun k e => ⟨(A k e).1, (A k e).2.1, Nat.lt_of_lt_of_le (A k e).2.2 c.size⟩⟩
theorem NR.new {W X : World} {nm most next made : Nat} {D : Nat → Prop} (h : NR W X nm most next made D) (o : Obj) : NR W (X.alloc o) nm most next made (fun k => D k ∨ k = X.heap.size) := by
  obtain ⟨R, cs, l, B, inF, C, L, N, A⟩ := h
  have c : Chg (fun _ => False) X (X.alloc o) := (Chg.refl _ _).alloc _
  have s0 := C.size
  refine ⟨R, cs, l, B.chg c (fun _ _ h => h), inF, C.alloc _, L, N, fun k e => ?_⟩
  rcases e with e | rfl
  · exact ⟨(A k e).1, (A k e).2.1, Nat.lt_of_lt_of_le (A k e).2.2 c.size⟩
  · exact ⟨fun x => by have := B.lt _ x; omega, by omega, by simp⟩
theorem NR.aloc {W X : World} {nm most next made : Nat} {D : Nat → Prop} (h : NR W X nm most next made D) (vals : List Nat) (g c : Nat) (hg : X.heap.size = g) (hv : ∀ x ∈ vals, x < 18446744073709551616) (hvl : vals.length ≤ 17592186043904) (h1 : made < 1000000) :
    Calls Tryz.prog 111 #[.pointer (some ⟨nm, 0, none⟩), .int .i64 (-1), .slice (some ⟨g, 0, none⟩) vals.length c] (X.alloc (.cells (vals.map u64V).toArray 23)) fun e Y => e = .returned (.int .u64 (alAt most next vals.length : Int)) ∧ NR W Y nm most (alNext most next vals.length) (made + 1) D ∧ ∀ k, D k → Y.heap[k]? = X.heap[k]? := by
  have hn := h.new (.cells (vals.map u64V).toArray 23)
  have hlt := h.lt
  obtain ⟨R, cs, l, B, inF, C, L, N, A⟩ := hn
  refine (r_alloc nm most next (-1) (some ⟨g, 0, none⟩) c vals R cs l _ B N (by omega) (reads_newN X vals g hg) (fun ad e _ => by cases e; exact (A g (.inr hg.symm)).1) hv hvl).mono ?_
  rintro e Y ⟨rfl, R', vs, B', G⟩
  have keep : ∀ k, D k → Y.heap[k]? = (X.alloc (.cells (vals.map u64V).toArray 23)).heap[k]? := fun k hk => G.chg.block k (A k (.inl hk)).2.2 (A k (.inl hk)).1
  refine ⟨rfl, ⟨R', _, _, B', fun k x => (G.new k x).elim (inF k) (fun y => Nat.le_trans C.size y), C.trans G.chg (fun _ _ x => x) (fun i hi x => by have := inF i x; omega), by simp; omega, ?_, fun k hk => ⟨fun x => (G.new k x).elim (A k (.inl hk)).1 (fun y => by have := (A k (.inl hk)).2.2; omega), (A k (.inl hk)).2.1, Nat.lt_of_lt_of_le (A k (.inl hk)).2.2 G.chg.size⟩⟩, fun k hk => (keep k hk).trans (Below.heap_alloc _ _ _ (hlt k hk))⟩
  unfold alNext
  split
  · rename_i h; have := h.2; omega
  · exact N
end Go.Proofs.YtmmaniolaljjlaaGreatDoor
