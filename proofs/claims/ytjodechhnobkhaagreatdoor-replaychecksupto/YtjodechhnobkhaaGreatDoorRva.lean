/- The document's again: an access done once more on its memory. (mkRva.py) -/
import Derived.Test.YtjodechhnobkhaaGreatDoorRpo
import Derived.Test.YtjodechhnobkhaaGreatDoorRua
import Derived.Test.YtjodechhnobkhaaGreatDoorRMemW
import Derived.Test.YtjodechhnobkhaaGreatDoorRMemX
namespace Go.Proofs.YtjodechhnobkhaaGreatDoor
open Go.RowKit Go.Shelf
set_option linter.unusedVariables false

def accAx (a : Acc) : Ax := ⟨a.th, a.kind, a.addr, a.a, a.b, a.vals, a.got, a.ok⟩
/-- the document's memory, gone through again -/
structure DE (W : World) (nm n : Nat) (s : Ms) (k : Nat) (R : Nat → Prop) (wr : World) : Prop where
  bel : Below W.heap.size W wr
  mem : ∃ l, l.length ≤ k ∧ RMem wr R nm n s.next s.cs l
  new : ∀ j, R j → W.heap.size ≤ j
  nx : s.next ≤ n
theorem DE.on {W : World} {nm n : Nat} {s : Ms} {k : Nat} {R : Nat → Prop} {wr w' : World} (h : DE W nm n s k R wr) (hb : Below wr.heap.size wr w') : DE W nm n s k R w' := by
  obtain ⟨l, h1, h2⟩ := h.mem
  exact ⟨below_chain h.bel hb, ⟨l, h1, h2.chg (belowC hb) (fun _ _ x => x)⟩, h.new, h.nx⟩
theorem DE.goes {W : World} {nm n : Nat} {s s' : Ms} {k : Nat} {R R' : Nat → Prop} {wr w' : World} {l' : List Acc} (h : DE W nm n s k R wr) (hg : Goes wr w' R R') (hl : l'.length ≤ k + 1) (hm : RMem w' R' nm n s'.next s'.cs l') (hx : s'.next ≤ n) : DE W nm n s' (k + 1) R' w' := by
  have hz := h.bel.size
  refine ⟨h.bel.trans ⟨hg.chg.os, hg.chg.tape, hg.chg.output, hg.chg.size, fun i hi => hg.chg.block i (by omega) (fun e => by have := h.new i e; omega)⟩, ⟨l', hl, hm⟩, fun j hj => ?_, hx⟩
  rcases hg.new j hj with q | q
  · exact h.new j q
  · omega
/-- the last access of the memory's trace, and the box of the one that is given -/
structure LastAt (nm AB g L cap : Nat) (a x : Ax) (avs xvs : Value) (w : World) : Prop where
  c2 : w.cell? ⟨nm, 2, none⟩ = some (.slice (some ⟨g, 0, none⟩) (L + 1) cap)
  lc : ∀ j v, (bxA a avs)[j]? = some v → w.cell? ⟨g, L * 8 + j, none⟩ = some v
  bx : w.heap[AB]? = some (.cells (bxA x xvs) 44 (0, 0))
theorem LastAt.on {nm AB g L cap : Nat} {a x : Ax} {avs xvs : Value} {w w' : World} (h : LastAt nm AB g L cap a x avs xvs w) (hb : Below w.heap.size w w') : LastAt nm AB g L cap a x avs xvs w' :=
  ⟨cell_below h.c2 hb, fun j v hj => cell_below (h.lc j v hj) hb, heap_below h.bx hb⟩
theorem accRow_len (l : List Acc) : (accRow l).length = l.length * 8 := by
  induction l with
  | nil => rfl
  | cons y r ih =>
    have : accRow (y :: r) = y.cells ++ accRow r := by simp [accRow]
    rw [this, List.length_append, ih, List.length_cons]
    simp [Acc.cells]
    omega
theorem last_of {W : World} {R : Nat → Prop} {nm n next AB : Nat} {cs : List Nat} {l : List Acc} {a : Acc} {x : Ax} {xvs : Value} (h : RMem W R nm n next cs (l ++ [a])) (hb : W.heap[AB]? = some (.cells (bxA x xvs) 44 (0, 0))) :
    ∃ g cap, LastAt nm AB g l.length cap (accAx a) x a.vs xvs W ∧ W.ownsRow 0 42 1 a.vs a.vals.length (u64L a.vals) := by
  obtain ⟨nc, av, os, hm⟩ := h
  have hr := hm.acc
  have hl : (l ++ [a]).length = l.length + 1 := by simp
  rw [hl] at hr
  rcases hr.2 with ⟨_, e⟩ | ⟨g, cap, cur, e, _⟩
  · omega
  · subst e
    refine ⟨g, cap, ⟨cell_of hm.blk 2, fun j v hj => ?_, hb⟩, hm.vals a (by simp)⟩
    have hj8 : j < 8 := (Array.getElem?_eq_some_iff.1 hj).1
    rw [World.ownsRow.cellAt hr (l.length * 8 + j) (by omega)]
    have hal := accRow_len l
    have hsp : accRow (l ++ [a]) = accRow l ++ a.cells := by simp [accRow]
    rw [hsp, List.getElem?_append_right (by omega), hal, show l.length * 8 + j - l.length * 8 = j by omega]
    have : j = 0 ∨ j = 1 ∨ j = 2 ∨ j = 3 ∨ j = 4 ∨ j = 5 ∨ j = 6 ∨ j = 7 := by omega
    rcases this with rfl | rfl | rfl | rfl | rfl | rfl | rfl | rfl <;> exact hj
theorem rd_of {W : World} {p : Option Addr} {vals : List Nat} (hu : URd W p vals) : Reads W p vals := by
  rcases hu with h | ⟨bk, off, h1, h2, h3⟩
  · exact Or.inl h
  · subst h1
    refine Or.inr ⟨_, rfl, fun j u hj => ?_⟩
    rw [List.getElem?_map] at hj
    obtain ⟨x, hx, rfl⟩ := Option.map_eq_some_iff.mp hj
    rw [show (⟨bk, off, none⟩ : Addr).add j = ⟨bk, off + j, none⟩ by unfold Addr.add; split <;> simp_all]
    exact h3 j x hx
theorem alNext_le {n next k : Nat} (h : next ≤ n) : alNext n next k ≤ n := by
  unfold alNext
  split
  · rename_i q
    unfold alOk at q
    omega
  · exact h
/-- what is told of an access that is done again, and what is left -/
def AgQ (W : World) (nm n : Nat) (s : Ms) (k : Nat) (x : Ax) (v : Value) (w' : World) : Prop := ∃ r R', v = .bool r ∧ (r = true ↔ msTell n s x = true) ∧ DE W nm n (msStep n s x) (k + 1) R' w'

set_option maxRecDepth 100000 in
set_option maxHeartbeats 4000000 in
theorem again_1 {W : World} {nm n : Nat} {s : Ms} {k : Nat} {R : Nat → Prop} {w : World} (h : DE W nm n s k R w) (hk : k ≤ 1000000000) (xth : Int) (xad xa xb xgot vn c : Nat) (p : Option Addr) (xok : Bool) (xvals : List Nat) (hvn : vn = xvals.length) (hu : URd w p xvals) (hpb : ∀ ad, p = some ad → xvals ≠ [] → ad.block < W.heap.size) (o1 : isU xad) (o2 : isU xa) (o3 : isU xb) (o5 : ∀ u ∈ xvals, isU u) (hvl : xvals.length ≤ 1048576) (hr : RightA ⟨xth, 1, xad, xa, xb, xvals, xgot, xok⟩) :
    Calls Tryz.prog 35 #[.pointer (some ⟨nm, 0, none⟩), .agg #[.int .i64 xth, .int .u8 1, .int .u64 (xad : Int), .int .u64 (xa : Int), .int .u64 (xb : Int), .slice p vn c, .int .u64 (xgot : Int), .bool xok]] w fun e w' => ∃ v, e = .returned v ∧ AgQ W nm n s k ⟨xth, 1, xad, xa, xb, xvals, xgot, xok⟩ v w' := by
  obtain ⟨l, hl, hM0⟩ := h.mem
  obtain ⟨AB, hAB⟩ : ∃ AB, AB = w.heap.size := ⟨_, rfl⟩
  obtain ⟨w1, hw1⟩ : ∃ w1, w1 = w.alloc (.cells #[.int .i64 xth, .int .u8 1, .int .u64 (xad : Int), .int .u64 (xa : Int), .int .u64 (xb : Int), .slice p vn c, .int .u64 (xgot : Int), .bool xok] 44) := ⟨_, rfl⟩
  have C1 : Below w.heap.size w w1 := by rw [hw1]; exact below_alloc _ _
  have X1 : w1.heap[AB]? = some (.cells #[.int .i64 xth, .int .u8 1, .int .u64 (xad : Int), .int .u64 (xa : Int), .int .u64 (xb : Int), .slice p vn c, .int .u64 (xgot : Int), .bool xok] 44 (0, 0)) := by rw [hw1, hAB]; exact heap_alloc_new _ _
  have hM : RMem w1 R nm n s.next s.cs l := hM0.chg (belowC C1) (fun _ _ x => x)
  have hap : ∀ ad, p = some ad → xvals ≠ [] → ¬ R ad.block := fun ad e1 e2 q => by have := hpb ad e1 e2; have := h.new _ q; omega
  have hnAB : ¬ R AB := fun q => by have := hM0.lt AB q; omega
  have hcl := r_load nm n s.next xad xth R s.cs l w1 hM (by omega) o1
  have D1 := h.on C1
  have HAF : Hid (∀ w2 R' (a : Acc), accAx a = ⟨xth, 1, xad, 0, 0, [], cellN s.cs xad, false⟩ → RMem w2 R' nm n (s : Ms).next (s : Ms).cs (l ++ [a]) → Goes w1 w2 R R' → DE W nm n s (k + 1) R' w2 ∧ (∃ g cap, LastAt nm AB g l.length cap ⟨xth, 1, xad, 0, 0, [], cellN s.cs xad, false⟩ ⟨xth, 1, xad, xa, xb, xvals, xgot, xok⟩ a.vs (.slice p vn c) w2) ∧ URd w2 p xvals ∧ w2.ownsRow 0 42 1 a.vs a.vals.length (u64L a.vals)) := keepH (fun w2 R' a ha hm hg => by
    have D2 := D1.goes (s' := s) hg (by simp; omega) hm (D1.nx)
    obtain ⟨g, cap, q1, q2⟩ := last_of (x := ⟨xth, 1, xad, xa, xb, xvals, xgot, xok⟩) (xvs := .slice p vn c) hm ((hg.chg.block AB (lt_of X1) hnAB).trans X1)
    rw [ha] at q1
    refine ⟨D2, ⟨g, cap, q1⟩, ?_, q2⟩
    rcases hu.on C1 with q | ⟨bk, off, e1, e2, e3⟩
    · exact Or.inl q
    · by_cases hx : xvals = []
      · exact Or.inl hx
      · refine Or.inr ⟨bk, off, e1, Nat.lt_of_lt_of_le e2 hg.chg.size, fun i x hi => ?_⟩
        have := hap _ e1 hx
        rw [← e3 i x hi]
        simp [World.cell?, hg.chg.block bk e2 this])
  have a0 : w1.cell? ⟨AB, 0, none⟩ = some (.int .i64 xth) := cell_of X1 0
  have a1 : w1.cell? ⟨AB, 1, none⟩ = some (.int .u8 1) := cell_of X1 1
  have a2 : w1.cell? ⟨AB, 2, none⟩ = some (.int .u64 (xad : Int)) := cell_of X1 2
  have a3 : w1.cell? ⟨AB, 3, none⟩ = some (.int .u64 (xa : Int)) := cell_of X1 3
  have a4 : w1.cell? ⟨AB, 4, none⟩ = some (.int .u64 (xb : Int)) := cell_of X1 4
  have a5 : w1.cell? ⟨AB, 5, none⟩ = some (.slice p vn c) := cell_of X1 5
  have HTL : Hid (∀ r : Bool, (r = true ↔ (⟨xth, 1, xad, 0, 0, [], cellN s.cs xad, false⟩ : Ax) = ⟨xth, 1, xad, xa, xb, xvals, xgot, xok⟩) → (r = true ↔ msTell n s ⟨xth, 1, xad, xa, xb, xvals, xgot, xok⟩ = true)) := keepH (fun r hq => hq.trans (by
    rcases hr with ⟨q, e⟩ | ⟨q, e⟩ | ⟨q, e⟩ | ⟨q, e⟩ | ⟨q, e⟩ <;> simp only at q e <;> first | omega | skip
    simp [msTell, e]))
  have HVN := keepH hvn
  have HHL : Hid (l.length ≤ k) := keepH hl
  have HHK := keepH hk
  have HVL := keepH hvl
  clear hM0 hM hap hnAB h D1 hu hpb o1 o2 o3 o5 hvl hr X1 hl hk hvn
  go_enter Tryz.func35, Tryz.ntmps35
  go_upto_region 1 with fail
  rw [← hw1, ← hAB]
  clear hw1 hAB C1
  go_upto_region 12 with (first | (go_at_call 61; refine hcl.mono ?_; rintro e w2 ⟨rfl, R', hm, hg⟩; obtain ⟨hD, ⟨g, cap, hS⟩, hu2, hrow⟩ := HAF.out w2 R' _ (rfl) hm hg; have HD := keepH hD; have HS1 := keepH hS; have HU2 := keepH hu2; have HROW := keepH hrow; clear hm hg hD hS hu2 hrow hcl HAF))
  obtain ⟨L, hL⟩ : ∃ L, L = l.length := ⟨_, rfl⟩
  have HS0 : Hid (LastAt nm AB g L cap ⟨xth, 1, xad, 0, 0, [], cellN s.cs xad, false⟩ ⟨xth, 1, xad, xa, xb, xvals, xgot, xok⟩ (.slice none 0 0) (.slice p vn c) w2) := keepH (by rw [hL]; exact HS1.out)
  have hL1 : L ≤ 1000000000 := by rw [hL]; have := HHL.out; have := HHK.out; omega
  have q9 : IntKind.i64.wrap (L : Int) = (L : Int) := by rw [IntKind.wrap_i64]; omega
  have q7 : (0 : Int) ≤ (L : Int) := by omega
  have q6 : (L : Int) < (L : Int) + 1 := by omega
  have HSM : Hid (∀ m, Calls Tryz.prog 21 #[.agg #[.int .i64 xth, .int .u8 1, .int .u64 (xad : Int), .int .u64 0, .int .u64 0, .slice none 0 0, .int .u64 (cellN s.cs xad : Int), .bool false], .agg #[.int .i64 xth, .int .u8 1, .int .u64 (xad : Int), .int .u64 (xa : Int), .int .u64 (xb : Int), .slice p vn c, .int .u64 (xgot : Int), .bool xok]] (w2.drewN m) fun e w' => ∃ v, e = .returned v ∧ SameQ ⟨xth, 1, xad, 0, 0, [], cellN s.cs xad, false⟩ ⟨xth, 1, xad, xa, xb, xvals, xgot, xok⟩ v ∧ Below w2.heap.size w2 w') := keepH (fun m => by
    have hb := below_drewN (Below.refl w2.heap.size w2) m
    have e := s_any ⟨xth, 1, xad, 0, 0, [], cellN s.cs xad, false⟩ ⟨xth, 1, xad, xa, xb, xvals, xgot, xok⟩ (none) p (0) c (w2.drewN m) (Or.inl rfl) (HU2.out.on hb) (by simp) HVL.out
    simp only at e
    rw [← HVN.out] at e
    refine e.mono ?_
    rintro e w' ⟨v, h1, h2, h3⟩
    exact ⟨v, h1, h2, below_chain hb h3⟩)
  clear hL HS1 a0 a1 a2 a3 a4 a5
  refine wp_region_held_drew (S := LastAt nm AB g L cap ⟨xth, 1, xad, 0, 0, [], cellN s.cs xad, false⟩ ⟨xth, 1, xad, xa, xb, xvals, xgot, xok⟩ (.slice none 0 0) (.slice p vn c)) (by kernel_rfl) (HS0.out.on (below_drew1 (Below.refl _ _))) ?_
  intro hHeld
  refine wpAnyH_take (i := 0) (v := ?_) rfl (by kernel_rfl) (by kernel_rfl) (by kernel_rfl) (fun _ _ _ h => h) (Or.inl ⟨by rfl, ?_⟩) hHeld ?_
  rotate_left
  · intro w hSw
    (try dsimp only at hSw)
    go_simp
    try with_reducible rfl
  (try simp only [Act.put]); (try simp only [List.setIfInBounds_toArray]); (try simp only [List.getElem_toArray]); (repeat (first | simp only [List.getElem_cons_succ] | simp only [List.getElem_cons_zero])); (repeat (first | simp only [List.set_cons_succ] | simp only [List.set_cons_zero]))
  refine wpAnyH_take (i := 1) (v := ?_) rfl (by kernel_rfl) (by kernel_rfl) (by kernel_rfl) (fun _ _ _ h => h) (Or.inl ⟨by rfl, ?_⟩) hHeld ?_
  rotate_left
  · intro w hSw
    (try dsimp only at hSw)
    go_simp
    try with_reducible rfl
  (try simp only [Act.put]); (try simp only [List.setIfInBounds_toArray]); (try simp only [List.getElem_toArray]); (repeat (first | simp only [List.getElem_cons_succ] | simp only [List.getElem_cons_zero])); (repeat (first | simp only [List.set_cons_succ] | simp only [List.set_cons_zero]))
  refine wpAnyH_take (i := 2) (v := ?_) rfl (by kernel_rfl) (by kernel_rfl) (by kernel_rfl) (fun _ _ _ h => h) (Or.inl ⟨by rfl, ?_⟩) hHeld ?_
  rotate_left
  · intro w hSw
    (try dsimp only at hSw)
    go_simp
    try with_reducible rfl
  (try simp only [Act.put]); (try simp only [List.setIfInBounds_toArray]); (try simp only [List.getElem_toArray]); (repeat (first | simp only [List.getElem_cons_succ] | simp only [List.getElem_cons_zero])); (repeat (first | simp only [List.set_cons_succ] | simp only [List.set_cons_zero]))
  refine wpAnyH_take (i := 3) (v := ?_) rfl (by kernel_rfl) (by kernel_rfl) (by kernel_rfl) (fun _ _ _ h => h) (Or.inl ⟨by rfl, ?_⟩) hHeld ?_
  rotate_left
  · intro w hSw
    (try dsimp only at hSw)
    have y2 := hSw.c2
    go_simp
    try with_reducible rfl
  (try simp only [Act.put]); (try simp only [List.setIfInBounds_toArray]); (try simp only [List.getElem_toArray]); (repeat (first | simp only [List.getElem_cons_succ] | simp only [List.getElem_cons_zero])); (repeat (first | simp only [List.set_cons_succ] | simp only [List.set_cons_zero]))
  refine wpAnyH_take (i := 4) (v := ?_) rfl (by kernel_rfl) (by kernel_rfl) (by kernel_rfl) (fun _ _ _ h => h) (Or.inl ⟨by rfl, ?_⟩) hHeld ?_
  rotate_left
  · intro w hSw
    (try dsimp only at hSw)
    go_simp
    try with_reducible rfl
  (try simp only [Act.put]); (try simp only [List.setIfInBounds_toArray]); (try simp only [List.getElem_toArray]); (repeat (first | simp only [List.getElem_cons_succ] | simp only [List.getElem_cons_zero])); (repeat (first | simp only [List.set_cons_succ] | simp only [List.set_cons_zero]))
  refine wpAnyH_take (i := 5) (v := ?_) rfl (by kernel_rfl) (by kernel_rfl) (by kernel_rfl) (fun _ _ _ h => h) (Or.inl ⟨by rfl, ?_⟩) hHeld ?_
  rotate_left
  · intro w hSw
    (try dsimp only at hSw)
    go_simp
    try with_reducible rfl
  (try simp only [Act.put]); (try simp only [List.setIfInBounds_toArray]); (try simp only [List.getElem_toArray]); (repeat (first | simp only [List.getElem_cons_succ] | simp only [List.getElem_cons_zero])); (repeat (first | simp only [List.set_cons_succ] | simp only [List.set_cons_zero]))
  refine wpAnyH_take (i := 6) (v := ?_) rfl (by kernel_rfl) (by kernel_rfl) (by kernel_rfl) (fun _ _ _ h => h) (Or.inl ⟨by rfl, ?_⟩) hHeld ?_
  rotate_left
  · intro w hSw
    (try dsimp only at hSw)
    go_simp
    try with_reducible rfl
  (try simp only [Act.put]); (try simp only [List.setIfInBounds_toArray]); (try simp only [List.getElem_toArray]); (repeat (first | simp only [List.getElem_cons_succ] | simp only [List.getElem_cons_zero])); (repeat (first | simp only [List.set_cons_succ] | simp only [List.set_cons_zero]))
  refine wpAnyH_take (i := 7) (v := ?_) rfl (by kernel_rfl) (by kernel_rfl) (by kernel_rfl) (fun _ _ _ h => h) (Or.inl ⟨by rfl, ?_⟩) hHeld ?_
  rotate_left
  · intro w hSw
    (try dsimp only at hSw)
    have y2 := hSw.c2
    go_simp
    try with_reducible rfl
  (try simp only [Act.put]); (try simp only [List.setIfInBounds_toArray]); (try simp only [List.getElem_toArray]); (repeat (first | simp only [List.getElem_cons_succ] | simp only [List.getElem_cons_zero])); (repeat (first | simp only [List.set_cons_succ] | simp only [List.set_cons_zero]))
  refine wpAnyH_take (i := 8) (v := ?_) rfl (by kernel_rfl) (by kernel_rfl) (by kernel_rfl) (fun _ _ _ h => h) (Or.inl ⟨by rfl, ?_⟩) hHeld ?_
  rotate_left
  · intro w hSw
    (try dsimp only at hSw)
    go_simp
    try with_reducible rfl
  (try simp only [Act.put]); (try simp only [List.setIfInBounds_toArray]); (try simp only [List.getElem_toArray]); (repeat (first | simp only [List.getElem_cons_succ] | simp only [List.getElem_cons_zero])); (repeat (first | simp only [List.set_cons_succ] | simp only [List.set_cons_zero]))
  refine wpAnyH_take (i := 9) (v := ?_) rfl (by kernel_rfl) (by kernel_rfl) (by kernel_rfl) (fun _ _ _ h => h) (Or.inl ⟨by rfl, ?_⟩) hHeld ?_
  rotate_left
  · intro w hSw
    (try dsimp only at hSw)
    go_simp
    try with_reducible rfl
  (try simp only [Act.put]); (try simp only [List.setIfInBounds_toArray]); (try simp only [List.getElem_toArray]); (repeat (first | simp only [List.getElem_cons_succ] | simp only [List.getElem_cons_zero])); (repeat (first | simp only [List.set_cons_succ] | simp only [List.set_cons_zero]))
  refine wpAnyH_take (i := 10) (v := ?_) rfl (by kernel_rfl) (by kernel_rfl) (by kernel_rfl) (fun _ _ _ h => h) (Or.inl ⟨by rfl, ?_⟩) hHeld ?_
  rotate_left
  · intro w hSw
    (try dsimp only at hSw)
    go_simp
    try with_reducible rfl
  (try simp only [Act.put]); (try simp only [List.setIfInBounds_toArray]); (try simp only [List.getElem_toArray]); (repeat (first | simp only [List.getElem_cons_succ] | simp only [List.getElem_cons_zero])); (repeat (first | simp only [List.set_cons_succ] | simp only [List.set_cons_zero]))
  refine wpAnyH_take (i := 11) (v := ?_) rfl (by kernel_rfl) (by kernel_rfl) (by kernel_rfl) (fun _ _ _ h => h) (Or.inl ⟨by rfl, ?_⟩) hHeld ?_
  rotate_left
  · intro w hSw
    (try dsimp only at hSw)
    have y0 : w.cell? ⟨g, L * 8, none⟩ = some (.int .i64 xth) := hSw.lc 0 _ rfl
    have y1 : w.cell? ⟨g, L * 8 + 1, none⟩ = some (.int .u8 1) := hSw.lc 1 _ rfl
    have y2 : w.cell? ⟨g, L * 8 + 2, none⟩ = some (.int .u64 (xad : Int)) := hSw.lc 2 _ rfl
    have y3 : w.cell? ⟨g, L * 8 + 3, none⟩ = some (.int .u64 0) := hSw.lc 3 _ rfl
    have y4 : w.cell? ⟨g, L * 8 + 4, none⟩ = some (.int .u64 0) := hSw.lc 4 _ rfl
    have y5 : w.cell? ⟨g, L * 8 + 5, none⟩ = some (.slice none 0 0) := hSw.lc 5 _ rfl
    have y6 : w.cell? ⟨g, L * 8 + 6, none⟩ = some (.int .u64 (cellN s.cs xad : Int)) := hSw.lc 6 _ rfl
    have y7 : w.cell? ⟨g, L * 8 + 7, none⟩ = some (.bool false) := hSw.lc 7 _ rfl
    go_simp
    try with_reducible rfl
  (try simp only [Act.put]); (try simp only [List.setIfInBounds_toArray]); (try simp only [List.getElem_toArray]); (repeat (first | simp only [List.getElem_cons_succ] | simp only [List.getElem_cons_zero])); (repeat (first | simp only [List.set_cons_succ] | simp only [List.set_cons_zero]))
  refine wpAnyH_take (i := 12) (v := ?_) rfl (by kernel_rfl) (by kernel_rfl) (by kernel_rfl) (fun _ _ _ h => h) (Or.inl ⟨by rfl, ?_⟩) hHeld ?_
  rotate_left
  · intro w hSw
    (try dsimp only at hSw)
    have y0 : w.cell? ⟨AB, 0, none⟩ = some (.int .i64 xth) := cell_of hSw.bx 0
    have y1 : w.cell? ⟨AB, 1, none⟩ = some (.int .u8 1) := cell_of hSw.bx 1
    have y2 : w.cell? ⟨AB, 2, none⟩ = some (.int .u64 (xad : Int)) := cell_of hSw.bx 2
    have y3 : w.cell? ⟨AB, 3, none⟩ = some (.int .u64 (xa : Int)) := cell_of hSw.bx 3
    have y4 : w.cell? ⟨AB, 4, none⟩ = some (.int .u64 (xb : Int)) := cell_of hSw.bx 4
    have y5 : w.cell? ⟨AB, 5, none⟩ = some (.slice p vn c) := cell_of hSw.bx 5
    have y6 : w.cell? ⟨AB, 6, none⟩ = some (.int .u64 (xgot : Int)) := cell_of hSw.bx 6
    have y7 : w.cell? ⟨AB, 7, none⟩ = some (.bool xok) := cell_of hSw.bx 7
    go_simp
    try with_reducible rfl
  (try simp only [Act.put]); (try simp only [List.setIfInBounds_toArray]); (try simp only [List.getElem_toArray]); (repeat (first | simp only [List.getElem_cons_succ] | simp only [List.getElem_cons_zero])); (repeat (first | simp only [List.set_cons_succ] | simp only [List.set_cons_zero]))
  refine wpAnyH_ready (rs := [13]) (by kernel_rfl) (by simp) ?_
  refine AllReadyH.cons rfl (fun KK hKK => ?_) AllReadyH.nil
  go_simp
  refine (HSM.out _).mono ?_
  rintro e w5 ⟨v, rfl, hv, h5⟩
  obtain ⟨rr, rfl, hrr⟩ := hv
  have C5 := keepH h5
  clear h5
  refine hKK.out _ _ ?_ (fun hHeld => ?_)
  · exact HS0.out.on C5.out
  clear hKK KK
  (try simp only [Act.put]); (try simp only [List.setIfInBounds_toArray]); (try simp only [List.getElem_toArray]); (repeat (first | simp only [List.getElem_cons_succ] | simp only [List.getElem_cons_zero])); (repeat (first | simp only [List.set_cons_succ] | simp only [List.set_cons_zero]))
  refine wpAnyH_take (i := 14) (v := ?_) rfl (by kernel_rfl) (by kernel_rfl) (by kernel_rfl) (fun _ _ _ h => h) (Or.inl ⟨by rfl, ?_⟩) hHeld ?_
  rotate_left
  · intro w hSw
    (try dsimp only at hSw)
    go_simp
    try with_reducible rfl
  (try simp only [Act.put]); (try simp only [List.setIfInBounds_toArray]); (try simp only [List.getElem_toArray]); (repeat (first | simp only [List.getElem_cons_succ] | simp only [List.getElem_cons_zero])); (repeat (first | simp only [List.set_cons_succ] | simp only [List.set_cons_zero]))
  refine wpAnyH_done (by kernel_rfl) ?_ _
  go_simp
  clear hHeld
  go_wp2_with fail
  go_ret
  exact ⟨.bool rr, by first | rfl | simp, rr, R', rfl, HTL.out rr hrr, HD.out.on C5.out⟩

set_option maxRecDepth 100000 in
set_option maxHeartbeats 4000000 in
theorem again_2 {W : World} {nm n : Nat} {s : Ms} {k : Nat} {R : Nat → Prop} {w : World} (h : DE W nm n s k R w) (hk : k ≤ 1000000000) (xth : Int) (xad xa xb xgot vn c : Nat) (p : Option Addr) (xok : Bool) (xvals : List Nat) (hvn : vn = xvals.length) (hu : URd w p xvals) (hpb : ∀ ad, p = some ad → xvals ≠ [] → ad.block < W.heap.size) (o1 : isU xad) (o2 : isU xa) (o3 : isU xb) (o5 : ∀ u ∈ xvals, isU u) (hvl : xvals.length ≤ 1048576) (hr : RightA ⟨xth, 2, xad, xa, xb, xvals, xgot, xok⟩) :
    Calls Tryz.prog 35 #[.pointer (some ⟨nm, 0, none⟩), .agg #[.int .i64 xth, .int .u8 2, .int .u64 (xad : Int), .int .u64 (xa : Int), .int .u64 (xb : Int), .slice p vn c, .int .u64 (xgot : Int), .bool xok]] w fun e w' => ∃ v, e = .returned v ∧ AgQ W nm n s k ⟨xth, 2, xad, xa, xb, xvals, xgot, xok⟩ v w' := by
  obtain ⟨l, hl, hM0⟩ := h.mem
  obtain ⟨AB, hAB⟩ : ∃ AB, AB = w.heap.size := ⟨_, rfl⟩
  obtain ⟨w1, hw1⟩ : ∃ w1, w1 = w.alloc (.cells #[.int .i64 xth, .int .u8 2, .int .u64 (xad : Int), .int .u64 (xa : Int), .int .u64 (xb : Int), .slice p vn c, .int .u64 (xgot : Int), .bool xok] 44) := ⟨_, rfl⟩
  have C1 : Below w.heap.size w w1 := by rw [hw1]; exact below_alloc _ _
  have X1 : w1.heap[AB]? = some (.cells #[.int .i64 xth, .int .u8 2, .int .u64 (xad : Int), .int .u64 (xa : Int), .int .u64 (xb : Int), .slice p vn c, .int .u64 (xgot : Int), .bool xok] 44 (0, 0)) := by rw [hw1, hAB]; exact heap_alloc_new _ _
  have hM : RMem w1 R nm n s.next s.cs l := hM0.chg (belowC C1) (fun _ _ x => x)
  have hap : ∀ ad, p = some ad → xvals ≠ [] → ¬ R ad.block := fun ad e1 e2 q => by have := hpb ad e1 e2; have := h.new _ q; omega
  have hnAB : ¬ R AB := fun q => by have := hM0.lt AB q; omega
  have hcl := r_store nm n s.next xad xa xth R s.cs l w1 hM (by omega) o1 o2
  have D1 := h.on C1
  have HAF : Hid (∀ w2 R' (a : Acc), accAx a = ⟨xth, 2, xad, xa, 0, [], 0, false⟩ → RMem w2 R' nm n (⟨s.next, stN n s.cs xad xa⟩ : Ms).next (⟨s.next, stN n s.cs xad xa⟩ : Ms).cs (l ++ [a]) → Goes w1 w2 R R' → DE W nm n ⟨s.next, stN n s.cs xad xa⟩ (k + 1) R' w2 ∧ (∃ g cap, LastAt nm AB g l.length cap ⟨xth, 2, xad, xa, 0, [], 0, false⟩ ⟨xth, 2, xad, xa, xb, xvals, xgot, xok⟩ a.vs (.slice p vn c) w2) ∧ URd w2 p xvals ∧ w2.ownsRow 0 42 1 a.vs a.vals.length (u64L a.vals)) := keepH (fun w2 R' a ha hm hg => by
    have D2 := D1.goes (s' := ⟨s.next, stN n s.cs xad xa⟩) hg (by simp; omega) hm (D1.nx)
    obtain ⟨g, cap, q1, q2⟩ := last_of (x := ⟨xth, 2, xad, xa, xb, xvals, xgot, xok⟩) (xvs := .slice p vn c) hm ((hg.chg.block AB (lt_of X1) hnAB).trans X1)
    rw [ha] at q1
    refine ⟨D2, ⟨g, cap, q1⟩, ?_, q2⟩
    rcases hu.on C1 with q | ⟨bk, off, e1, e2, e3⟩
    · exact Or.inl q
    · by_cases hx : xvals = []
      · exact Or.inl hx
      · refine Or.inr ⟨bk, off, e1, Nat.lt_of_lt_of_le e2 hg.chg.size, fun i x hi => ?_⟩
        have := hap _ e1 hx
        rw [← e3 i x hi]
        simp [World.cell?, hg.chg.block bk e2 this])
  have a0 : w1.cell? ⟨AB, 0, none⟩ = some (.int .i64 xth) := cell_of X1 0
  have a1 : w1.cell? ⟨AB, 1, none⟩ = some (.int .u8 2) := cell_of X1 1
  have a2 : w1.cell? ⟨AB, 2, none⟩ = some (.int .u64 (xad : Int)) := cell_of X1 2
  have a3 : w1.cell? ⟨AB, 3, none⟩ = some (.int .u64 (xa : Int)) := cell_of X1 3
  have a4 : w1.cell? ⟨AB, 4, none⟩ = some (.int .u64 (xb : Int)) := cell_of X1 4
  have a5 : w1.cell? ⟨AB, 5, none⟩ = some (.slice p vn c) := cell_of X1 5
  have HTL : Hid (∀ r : Bool, (r = true ↔ (⟨xth, 2, xad, xa, 0, [], 0, false⟩ : Ax) = ⟨xth, 2, xad, xa, xb, xvals, xgot, xok⟩) → (r = true ↔ msTell n s ⟨xth, 2, xad, xa, xb, xvals, xgot, xok⟩ = true)) := keepH (fun r hq => hq.trans (by
    rcases hr with ⟨q, e⟩ | ⟨q, e⟩ | ⟨q, e⟩ | ⟨q, e⟩ | ⟨q, e⟩ <;> simp only at q e <;> first | omega | skip
    simp [msTell, e]))
  have HVN := keepH hvn
  have HHL : Hid (l.length ≤ k) := keepH hl
  have HHK := keepH hk
  have HVL := keepH hvl
  clear hM0 hM hap hnAB h D1 hu hpb o1 o2 o3 o5 hvl hr X1 hl hk hvn
  go_enter Tryz.func35, Tryz.ntmps35
  go_upto_region 1 with fail
  rw [← hw1, ← hAB]
  clear hw1 hAB C1
  go_upto_region 12 with (first | (go_at_call 62; refine hcl.mono ?_; rintro e w2 ⟨rfl, R', hm, hg⟩; obtain ⟨hD, ⟨g, cap, hS⟩, hu2, hrow⟩ := HAF.out w2 R' _ (rfl) hm hg; have HD := keepH hD; have HS1 := keepH hS; have HU2 := keepH hu2; have HROW := keepH hrow; clear hm hg hD hS hu2 hrow hcl HAF))
  obtain ⟨L, hL⟩ : ∃ L, L = l.length := ⟨_, rfl⟩
  have HS0 : Hid (LastAt nm AB g L cap ⟨xth, 2, xad, xa, 0, [], 0, false⟩ ⟨xth, 2, xad, xa, xb, xvals, xgot, xok⟩ (.slice none 0 0) (.slice p vn c) w2) := keepH (by rw [hL]; exact HS1.out)
  have hL1 : L ≤ 1000000000 := by rw [hL]; have := HHL.out; have := HHK.out; omega
  have q9 : IntKind.i64.wrap (L : Int) = (L : Int) := by rw [IntKind.wrap_i64]; omega
  have q7 : (0 : Int) ≤ (L : Int) := by omega
  have q6 : (L : Int) < (L : Int) + 1 := by omega
  have HSM : Hid (∀ m, Calls Tryz.prog 21 #[.agg #[.int .i64 xth, .int .u8 2, .int .u64 (xad : Int), .int .u64 (xa : Int), .int .u64 0, .slice none 0 0, .int .u64 0, .bool false], .agg #[.int .i64 xth, .int .u8 2, .int .u64 (xad : Int), .int .u64 (xa : Int), .int .u64 (xb : Int), .slice p vn c, .int .u64 (xgot : Int), .bool xok]] (w2.drewN m) fun e w' => ∃ v, e = .returned v ∧ SameQ ⟨xth, 2, xad, xa, 0, [], 0, false⟩ ⟨xth, 2, xad, xa, xb, xvals, xgot, xok⟩ v ∧ Below w2.heap.size w2 w') := keepH (fun m => by
    have hb := below_drewN (Below.refl w2.heap.size w2) m
    have e := s_any ⟨xth, 2, xad, xa, 0, [], 0, false⟩ ⟨xth, 2, xad, xa, xb, xvals, xgot, xok⟩ (none) p (0) c (w2.drewN m) (Or.inl rfl) (HU2.out.on hb) (by simp) HVL.out
    simp only at e
    rw [← HVN.out] at e
    refine e.mono ?_
    rintro e w' ⟨v, h1, h2, h3⟩
    exact ⟨v, h1, h2, below_chain hb h3⟩)
  clear hL HS1 a0 a1 a2 a3 a4 a5
  refine wp_region_held_drew (S := LastAt nm AB g L cap ⟨xth, 2, xad, xa, 0, [], 0, false⟩ ⟨xth, 2, xad, xa, xb, xvals, xgot, xok⟩ (.slice none 0 0) (.slice p vn c)) (by kernel_rfl) (HS0.out.on (below_drew1 (Below.refl _ _))) ?_
  intro hHeld
  refine wpAnyH_take (i := 0) (v := ?_) rfl (by kernel_rfl) (by kernel_rfl) (by kernel_rfl) (fun _ _ _ h => h) (Or.inl ⟨by rfl, ?_⟩) hHeld ?_
  rotate_left
  · intro w hSw
    (try dsimp only at hSw)
    go_simp
    try with_reducible rfl
  (try simp only [Act.put]); (try simp only [List.setIfInBounds_toArray]); (try simp only [List.getElem_toArray]); (repeat (first | simp only [List.getElem_cons_succ] | simp only [List.getElem_cons_zero])); (repeat (first | simp only [List.set_cons_succ] | simp only [List.set_cons_zero]))
  refine wpAnyH_take (i := 1) (v := ?_) rfl (by kernel_rfl) (by kernel_rfl) (by kernel_rfl) (fun _ _ _ h => h) (Or.inl ⟨by rfl, ?_⟩) hHeld ?_
  rotate_left
  · intro w hSw
    (try dsimp only at hSw)
    go_simp
    try with_reducible rfl
  (try simp only [Act.put]); (try simp only [List.setIfInBounds_toArray]); (try simp only [List.getElem_toArray]); (repeat (first | simp only [List.getElem_cons_succ] | simp only [List.getElem_cons_zero])); (repeat (first | simp only [List.set_cons_succ] | simp only [List.set_cons_zero]))
  refine wpAnyH_take (i := 2) (v := ?_) rfl (by kernel_rfl) (by kernel_rfl) (by kernel_rfl) (fun _ _ _ h => h) (Or.inl ⟨by rfl, ?_⟩) hHeld ?_
  rotate_left
  · intro w hSw
    (try dsimp only at hSw)
    go_simp
    try with_reducible rfl
  (try simp only [Act.put]); (try simp only [List.setIfInBounds_toArray]); (try simp only [List.getElem_toArray]); (repeat (first | simp only [List.getElem_cons_succ] | simp only [List.getElem_cons_zero])); (repeat (first | simp only [List.set_cons_succ] | simp only [List.set_cons_zero]))
  refine wpAnyH_take (i := 3) (v := ?_) rfl (by kernel_rfl) (by kernel_rfl) (by kernel_rfl) (fun _ _ _ h => h) (Or.inl ⟨by rfl, ?_⟩) hHeld ?_
  rotate_left
  · intro w hSw
    (try dsimp only at hSw)
    have y2 := hSw.c2
    go_simp
    try with_reducible rfl
  (try simp only [Act.put]); (try simp only [List.setIfInBounds_toArray]); (try simp only [List.getElem_toArray]); (repeat (first | simp only [List.getElem_cons_succ] | simp only [List.getElem_cons_zero])); (repeat (first | simp only [List.set_cons_succ] | simp only [List.set_cons_zero]))
  refine wpAnyH_take (i := 4) (v := ?_) rfl (by kernel_rfl) (by kernel_rfl) (by kernel_rfl) (fun _ _ _ h => h) (Or.inl ⟨by rfl, ?_⟩) hHeld ?_
  rotate_left
  · intro w hSw
    (try dsimp only at hSw)
    go_simp
    try with_reducible rfl
  (try simp only [Act.put]); (try simp only [List.setIfInBounds_toArray]); (try simp only [List.getElem_toArray]); (repeat (first | simp only [List.getElem_cons_succ] | simp only [List.getElem_cons_zero])); (repeat (first | simp only [List.set_cons_succ] | simp only [List.set_cons_zero]))
  refine wpAnyH_take (i := 5) (v := ?_) rfl (by kernel_rfl) (by kernel_rfl) (by kernel_rfl) (fun _ _ _ h => h) (Or.inl ⟨by rfl, ?_⟩) hHeld ?_
  rotate_left
  · intro w hSw
    (try dsimp only at hSw)
    go_simp
    try with_reducible rfl
  (try simp only [Act.put]); (try simp only [List.setIfInBounds_toArray]); (try simp only [List.getElem_toArray]); (repeat (first | simp only [List.getElem_cons_succ] | simp only [List.getElem_cons_zero])); (repeat (first | simp only [List.set_cons_succ] | simp only [List.set_cons_zero]))
  refine wpAnyH_take (i := 6) (v := ?_) rfl (by kernel_rfl) (by kernel_rfl) (by kernel_rfl) (fun _ _ _ h => h) (Or.inl ⟨by rfl, ?_⟩) hHeld ?_
  rotate_left
  · intro w hSw
    (try dsimp only at hSw)
    go_simp
    try with_reducible rfl
  (try simp only [Act.put]); (try simp only [List.setIfInBounds_toArray]); (try simp only [List.getElem_toArray]); (repeat (first | simp only [List.getElem_cons_succ] | simp only [List.getElem_cons_zero])); (repeat (first | simp only [List.set_cons_succ] | simp only [List.set_cons_zero]))
  refine wpAnyH_take (i := 7) (v := ?_) rfl (by kernel_rfl) (by kernel_rfl) (by kernel_rfl) (fun _ _ _ h => h) (Or.inl ⟨by rfl, ?_⟩) hHeld ?_
  rotate_left
  · intro w hSw
    (try dsimp only at hSw)
    have y2 := hSw.c2
    go_simp
    try with_reducible rfl
  (try simp only [Act.put]); (try simp only [List.setIfInBounds_toArray]); (try simp only [List.getElem_toArray]); (repeat (first | simp only [List.getElem_cons_succ] | simp only [List.getElem_cons_zero])); (repeat (first | simp only [List.set_cons_succ] | simp only [List.set_cons_zero]))
  refine wpAnyH_take (i := 8) (v := ?_) rfl (by kernel_rfl) (by kernel_rfl) (by kernel_rfl) (fun _ _ _ h => h) (Or.inl ⟨by rfl, ?_⟩) hHeld ?_
  rotate_left
  · intro w hSw
    (try dsimp only at hSw)
    go_simp
    try with_reducible rfl
  (try simp only [Act.put]); (try simp only [List.setIfInBounds_toArray]); (try simp only [List.getElem_toArray]); (repeat (first | simp only [List.getElem_cons_succ] | simp only [List.getElem_cons_zero])); (repeat (first | simp only [List.set_cons_succ] | simp only [List.set_cons_zero]))
  refine wpAnyH_take (i := 9) (v := ?_) rfl (by kernel_rfl) (by kernel_rfl) (by kernel_rfl) (fun _ _ _ h => h) (Or.inl ⟨by rfl, ?_⟩) hHeld ?_
  rotate_left
  · intro w hSw
    (try dsimp only at hSw)
    go_simp
    try with_reducible rfl
  (try simp only [Act.put]); (try simp only [List.setIfInBounds_toArray]); (try simp only [List.getElem_toArray]); (repeat (first | simp only [List.getElem_cons_succ] | simp only [List.getElem_cons_zero])); (repeat (first | simp only [List.set_cons_succ] | simp only [List.set_cons_zero]))
  refine wpAnyH_take (i := 10) (v := ?_) rfl (by kernel_rfl) (by kernel_rfl) (by kernel_rfl) (fun _ _ _ h => h) (Or.inl ⟨by rfl, ?_⟩) hHeld ?_
  rotate_left
  · intro w hSw
    (try dsimp only at hSw)
    go_simp
    try with_reducible rfl
  (try simp only [Act.put]); (try simp only [List.setIfInBounds_toArray]); (try simp only [List.getElem_toArray]); (repeat (first | simp only [List.getElem_cons_succ] | simp only [List.getElem_cons_zero])); (repeat (first | simp only [List.set_cons_succ] | simp only [List.set_cons_zero]))
  refine wpAnyH_take (i := 11) (v := ?_) rfl (by kernel_rfl) (by kernel_rfl) (by kernel_rfl) (fun _ _ _ h => h) (Or.inl ⟨by rfl, ?_⟩) hHeld ?_
  rotate_left
  · intro w hSw
    (try dsimp only at hSw)
    have y0 : w.cell? ⟨g, L * 8, none⟩ = some (.int .i64 xth) := hSw.lc 0 _ rfl
    have y1 : w.cell? ⟨g, L * 8 + 1, none⟩ = some (.int .u8 2) := hSw.lc 1 _ rfl
    have y2 : w.cell? ⟨g, L * 8 + 2, none⟩ = some (.int .u64 (xad : Int)) := hSw.lc 2 _ rfl
    have y3 : w.cell? ⟨g, L * 8 + 3, none⟩ = some (.int .u64 (xa : Int)) := hSw.lc 3 _ rfl
    have y4 : w.cell? ⟨g, L * 8 + 4, none⟩ = some (.int .u64 0) := hSw.lc 4 _ rfl
    have y5 : w.cell? ⟨g, L * 8 + 5, none⟩ = some (.slice none 0 0) := hSw.lc 5 _ rfl
    have y6 : w.cell? ⟨g, L * 8 + 6, none⟩ = some (.int .u64 0) := hSw.lc 6 _ rfl
    have y7 : w.cell? ⟨g, L * 8 + 7, none⟩ = some (.bool false) := hSw.lc 7 _ rfl
    go_simp
    try with_reducible rfl
  (try simp only [Act.put]); (try simp only [List.setIfInBounds_toArray]); (try simp only [List.getElem_toArray]); (repeat (first | simp only [List.getElem_cons_succ] | simp only [List.getElem_cons_zero])); (repeat (first | simp only [List.set_cons_succ] | simp only [List.set_cons_zero]))
  refine wpAnyH_take (i := 12) (v := ?_) rfl (by kernel_rfl) (by kernel_rfl) (by kernel_rfl) (fun _ _ _ h => h) (Or.inl ⟨by rfl, ?_⟩) hHeld ?_
  rotate_left
  · intro w hSw
    (try dsimp only at hSw)
    have y0 : w.cell? ⟨AB, 0, none⟩ = some (.int .i64 xth) := cell_of hSw.bx 0
    have y1 : w.cell? ⟨AB, 1, none⟩ = some (.int .u8 2) := cell_of hSw.bx 1
    have y2 : w.cell? ⟨AB, 2, none⟩ = some (.int .u64 (xad : Int)) := cell_of hSw.bx 2
    have y3 : w.cell? ⟨AB, 3, none⟩ = some (.int .u64 (xa : Int)) := cell_of hSw.bx 3
    have y4 : w.cell? ⟨AB, 4, none⟩ = some (.int .u64 (xb : Int)) := cell_of hSw.bx 4
    have y5 : w.cell? ⟨AB, 5, none⟩ = some (.slice p vn c) := cell_of hSw.bx 5
    have y6 : w.cell? ⟨AB, 6, none⟩ = some (.int .u64 (xgot : Int)) := cell_of hSw.bx 6
    have y7 : w.cell? ⟨AB, 7, none⟩ = some (.bool xok) := cell_of hSw.bx 7
    go_simp
    try with_reducible rfl
  (try simp only [Act.put]); (try simp only [List.setIfInBounds_toArray]); (try simp only [List.getElem_toArray]); (repeat (first | simp only [List.getElem_cons_succ] | simp only [List.getElem_cons_zero])); (repeat (first | simp only [List.set_cons_succ] | simp only [List.set_cons_zero]))
  refine wpAnyH_ready (rs := [13]) (by kernel_rfl) (by simp) ?_
  refine AllReadyH.cons rfl (fun KK hKK => ?_) AllReadyH.nil
  go_simp
  refine (HSM.out _).mono ?_
  rintro e w5 ⟨v, rfl, hv, h5⟩
  obtain ⟨rr, rfl, hrr⟩ := hv
  have C5 := keepH h5
  clear h5
  refine hKK.out _ _ ?_ (fun hHeld => ?_)
  · exact HS0.out.on C5.out
  clear hKK KK
  (try simp only [Act.put]); (try simp only [List.setIfInBounds_toArray]); (try simp only [List.getElem_toArray]); (repeat (first | simp only [List.getElem_cons_succ] | simp only [List.getElem_cons_zero])); (repeat (first | simp only [List.set_cons_succ] | simp only [List.set_cons_zero]))
  refine wpAnyH_take (i := 14) (v := ?_) rfl (by kernel_rfl) (by kernel_rfl) (by kernel_rfl) (fun _ _ _ h => h) (Or.inl ⟨by rfl, ?_⟩) hHeld ?_
  rotate_left
  · intro w hSw
    (try dsimp only at hSw)
    go_simp
    try with_reducible rfl
  (try simp only [Act.put]); (try simp only [List.setIfInBounds_toArray]); (try simp only [List.getElem_toArray]); (repeat (first | simp only [List.getElem_cons_succ] | simp only [List.getElem_cons_zero])); (repeat (first | simp only [List.set_cons_succ] | simp only [List.set_cons_zero]))
  refine wpAnyH_done (by kernel_rfl) ?_ _
  go_simp
  clear hHeld
  go_wp2_with fail
  go_ret
  exact ⟨.bool rr, by first | rfl | simp, rr, R', rfl, HTL.out rr hrr, HD.out.on C5.out⟩

set_option maxRecDepth 100000 in
set_option maxHeartbeats 4000000 in
theorem again_3 {W : World} {nm n : Nat} {s : Ms} {k : Nat} {R : Nat → Prop} {w : World} (h : DE W nm n s k R w) (hk : k ≤ 1000000000) (xth : Int) (xad xa xb xgot vn c : Nat) (p : Option Addr) (xok : Bool) (xvals : List Nat) (hvn : vn = xvals.length) (hu : URd w p xvals) (hpb : ∀ ad, p = some ad → xvals ≠ [] → ad.block < W.heap.size) (o1 : isU xad) (o2 : isU xa) (o3 : isU xb) (o5 : ∀ u ∈ xvals, isU u) (hvl : xvals.length ≤ 1048576) (hr : RightA ⟨xth, 3, xad, xa, xb, xvals, xgot, xok⟩) :
    Calls Tryz.prog 35 #[.pointer (some ⟨nm, 0, none⟩), .agg #[.int .i64 xth, .int .u8 3, .int .u64 (xad : Int), .int .u64 (xa : Int), .int .u64 (xb : Int), .slice p vn c, .int .u64 (xgot : Int), .bool xok]] w fun e w' => ∃ v, e = .returned v ∧ AgQ W nm n s k ⟨xth, 3, xad, xa, xb, xvals, xgot, xok⟩ v w' := by
  obtain ⟨l, hl, hM0⟩ := h.mem
  obtain ⟨AB, hAB⟩ : ∃ AB, AB = w.heap.size := ⟨_, rfl⟩
  obtain ⟨w1, hw1⟩ : ∃ w1, w1 = w.alloc (.cells #[.int .i64 xth, .int .u8 3, .int .u64 (xad : Int), .int .u64 (xa : Int), .int .u64 (xb : Int), .slice p vn c, .int .u64 (xgot : Int), .bool xok] 44) := ⟨_, rfl⟩
  have C1 : Below w.heap.size w w1 := by rw [hw1]; exact below_alloc _ _
  have X1 : w1.heap[AB]? = some (.cells #[.int .i64 xth, .int .u8 3, .int .u64 (xad : Int), .int .u64 (xa : Int), .int .u64 (xb : Int), .slice p vn c, .int .u64 (xgot : Int), .bool xok] 44 (0, 0)) := by rw [hw1, hAB]; exact heap_alloc_new _ _
  have hM : RMem w1 R nm n s.next s.cs l := hM0.chg (belowC C1) (fun _ _ x => x)
  have hap : ∀ ad, p = some ad → xvals ≠ [] → ¬ R ad.block := fun ad e1 e2 q => by have := hpb ad e1 e2; have := h.new _ q; omega
  have hnAB : ¬ R AB := fun q => by have := hM0.lt AB q; omega
  have hcl := r_cas nm n s.next xad xa xb xth R s.cs l w1 hM (by omega) o1 o3
  have D1 := h.on C1
  have HAF : Hid (∀ w2 R' (a : Acc), accAx a = ⟨xth, 3, xad, xa, xb, [], 0, casOk n s.cs xad xa⟩ → RMem w2 R' nm n (⟨s.next, casN n s.cs xad xa xb⟩ : Ms).next (⟨s.next, casN n s.cs xad xa xb⟩ : Ms).cs (l ++ [a]) → Goes w1 w2 R R' → DE W nm n ⟨s.next, casN n s.cs xad xa xb⟩ (k + 1) R' w2 ∧ (∃ g cap, LastAt nm AB g l.length cap ⟨xth, 3, xad, xa, xb, [], 0, casOk n s.cs xad xa⟩ ⟨xth, 3, xad, xa, xb, xvals, xgot, xok⟩ a.vs (.slice p vn c) w2) ∧ URd w2 p xvals ∧ w2.ownsRow 0 42 1 a.vs a.vals.length (u64L a.vals)) := keepH (fun w2 R' a ha hm hg => by
    have D2 := D1.goes (s' := ⟨s.next, casN n s.cs xad xa xb⟩) hg (by simp; omega) hm (D1.nx)
    obtain ⟨g, cap, q1, q2⟩ := last_of (x := ⟨xth, 3, xad, xa, xb, xvals, xgot, xok⟩) (xvs := .slice p vn c) hm ((hg.chg.block AB (lt_of X1) hnAB).trans X1)
    rw [ha] at q1
    refine ⟨D2, ⟨g, cap, q1⟩, ?_, q2⟩
    rcases hu.on C1 with q | ⟨bk, off, e1, e2, e3⟩
    · exact Or.inl q
    · by_cases hx : xvals = []
      · exact Or.inl hx
      · refine Or.inr ⟨bk, off, e1, Nat.lt_of_lt_of_le e2 hg.chg.size, fun i x hi => ?_⟩
        have := hap _ e1 hx
        rw [← e3 i x hi]
        simp [World.cell?, hg.chg.block bk e2 this])
  have a0 : w1.cell? ⟨AB, 0, none⟩ = some (.int .i64 xth) := cell_of X1 0
  have a1 : w1.cell? ⟨AB, 1, none⟩ = some (.int .u8 3) := cell_of X1 1
  have a2 : w1.cell? ⟨AB, 2, none⟩ = some (.int .u64 (xad : Int)) := cell_of X1 2
  have a3 : w1.cell? ⟨AB, 3, none⟩ = some (.int .u64 (xa : Int)) := cell_of X1 3
  have a4 : w1.cell? ⟨AB, 4, none⟩ = some (.int .u64 (xb : Int)) := cell_of X1 4
  have a5 : w1.cell? ⟨AB, 5, none⟩ = some (.slice p vn c) := cell_of X1 5
  have HTL : Hid (∀ r : Bool, (r = true ↔ (⟨xth, 3, xad, xa, xb, [], 0, casOk n s.cs xad xa⟩ : Ax) = ⟨xth, 3, xad, xa, xb, xvals, xgot, xok⟩) → (r = true ↔ msTell n s ⟨xth, 3, xad, xa, xb, xvals, xgot, xok⟩ = true)) := keepH (fun r hq => hq.trans (by
    rcases hr with ⟨q, e⟩ | ⟨q, e⟩ | ⟨q, e⟩ | ⟨q, e⟩ | ⟨q, e⟩ <;> simp only at q e <;> first | omega | skip
    simp [msTell, e]))
  have HVN := keepH hvn
  have HHL : Hid (l.length ≤ k) := keepH hl
  have HHK := keepH hk
  have HVL := keepH hvl
  clear hM0 hM hap hnAB h D1 hu hpb o1 o2 o3 o5 hvl hr X1 hl hk hvn
  go_enter Tryz.func35, Tryz.ntmps35
  go_upto_region 1 with fail
  rw [← hw1, ← hAB]
  clear hw1 hAB C1
  go_upto_region 12 with (first | (go_at_call 63; refine hcl.mono ?_; rintro e w2 ⟨rfl, R', hm, hg⟩; obtain ⟨hD, ⟨g, cap, hS⟩, hu2, hrow⟩ := HAF.out w2 R' _ (rfl) hm hg; have HD := keepH hD; have HS1 := keepH hS; have HU2 := keepH hu2; have HROW := keepH hrow; clear hm hg hD hS hu2 hrow hcl HAF))
  obtain ⟨L, hL⟩ : ∃ L, L = l.length := ⟨_, rfl⟩
  have HS0 : Hid (LastAt nm AB g L cap ⟨xth, 3, xad, xa, xb, [], 0, casOk n s.cs xad xa⟩ ⟨xth, 3, xad, xa, xb, xvals, xgot, xok⟩ (.slice none 0 0) (.slice p vn c) w2) := keepH (by rw [hL]; exact HS1.out)
  have hL1 : L ≤ 1000000000 := by rw [hL]; have := HHL.out; have := HHK.out; omega
  have q9 : IntKind.i64.wrap (L : Int) = (L : Int) := by rw [IntKind.wrap_i64]; omega
  have q7 : (0 : Int) ≤ (L : Int) := by omega
  have q6 : (L : Int) < (L : Int) + 1 := by omega
  have HSM : Hid (∀ m, Calls Tryz.prog 21 #[.agg #[.int .i64 xth, .int .u8 3, .int .u64 (xad : Int), .int .u64 (xa : Int), .int .u64 (xb : Int), .slice none 0 0, .int .u64 0, .bool (casOk n s.cs xad xa)], .agg #[.int .i64 xth, .int .u8 3, .int .u64 (xad : Int), .int .u64 (xa : Int), .int .u64 (xb : Int), .slice p vn c, .int .u64 (xgot : Int), .bool xok]] (w2.drewN m) fun e w' => ∃ v, e = .returned v ∧ SameQ ⟨xth, 3, xad, xa, xb, [], 0, casOk n s.cs xad xa⟩ ⟨xth, 3, xad, xa, xb, xvals, xgot, xok⟩ v ∧ Below w2.heap.size w2 w') := keepH (fun m => by
    have hb := below_drewN (Below.refl w2.heap.size w2) m
    have e := s_any ⟨xth, 3, xad, xa, xb, [], 0, casOk n s.cs xad xa⟩ ⟨xth, 3, xad, xa, xb, xvals, xgot, xok⟩ (none) p (0) c (w2.drewN m) (Or.inl rfl) (HU2.out.on hb) (by simp) HVL.out
    simp only at e
    rw [← HVN.out] at e
    refine e.mono ?_
    rintro e w' ⟨v, h1, h2, h3⟩
    exact ⟨v, h1, h2, below_chain hb h3⟩)
  clear hL HS1 a0 a1 a2 a3 a4 a5
  refine wp_region_held_drew (S := LastAt nm AB g L cap ⟨xth, 3, xad, xa, xb, [], 0, casOk n s.cs xad xa⟩ ⟨xth, 3, xad, xa, xb, xvals, xgot, xok⟩ (.slice none 0 0) (.slice p vn c)) (by kernel_rfl) (HS0.out.on (below_drew1 (Below.refl _ _))) ?_
  intro hHeld
  refine wpAnyH_take (i := 0) (v := ?_) rfl (by kernel_rfl) (by kernel_rfl) (by kernel_rfl) (fun _ _ _ h => h) (Or.inl ⟨by rfl, ?_⟩) hHeld ?_
  rotate_left
  · intro w hSw
    (try dsimp only at hSw)
    go_simp
    try with_reducible rfl
  (try simp only [Act.put]); (try simp only [List.setIfInBounds_toArray]); (try simp only [List.getElem_toArray]); (repeat (first | simp only [List.getElem_cons_succ] | simp only [List.getElem_cons_zero])); (repeat (first | simp only [List.set_cons_succ] | simp only [List.set_cons_zero]))
  refine wpAnyH_take (i := 1) (v := ?_) rfl (by kernel_rfl) (by kernel_rfl) (by kernel_rfl) (fun _ _ _ h => h) (Or.inl ⟨by rfl, ?_⟩) hHeld ?_
  rotate_left
  · intro w hSw
    (try dsimp only at hSw)
    go_simp
    try with_reducible rfl
  (try simp only [Act.put]); (try simp only [List.setIfInBounds_toArray]); (try simp only [List.getElem_toArray]); (repeat (first | simp only [List.getElem_cons_succ] | simp only [List.getElem_cons_zero])); (repeat (first | simp only [List.set_cons_succ] | simp only [List.set_cons_zero]))
  refine wpAnyH_take (i := 2) (v := ?_) rfl (by kernel_rfl) (by kernel_rfl) (by kernel_rfl) (fun _ _ _ h => h) (Or.inl ⟨by rfl, ?_⟩) hHeld ?_
  rotate_left
  · intro w hSw
    (try dsimp only at hSw)
    go_simp
    try with_reducible rfl
  (try simp only [Act.put]); (try simp only [List.setIfInBounds_toArray]); (try simp only [List.getElem_toArray]); (repeat (first | simp only [List.getElem_cons_succ] | simp only [List.getElem_cons_zero])); (repeat (first | simp only [List.set_cons_succ] | simp only [List.set_cons_zero]))
  refine wpAnyH_take (i := 3) (v := ?_) rfl (by kernel_rfl) (by kernel_rfl) (by kernel_rfl) (fun _ _ _ h => h) (Or.inl ⟨by rfl, ?_⟩) hHeld ?_
  rotate_left
  · intro w hSw
    (try dsimp only at hSw)
    have y2 := hSw.c2
    go_simp
    try with_reducible rfl
  (try simp only [Act.put]); (try simp only [List.setIfInBounds_toArray]); (try simp only [List.getElem_toArray]); (repeat (first | simp only [List.getElem_cons_succ] | simp only [List.getElem_cons_zero])); (repeat (first | simp only [List.set_cons_succ] | simp only [List.set_cons_zero]))
  refine wpAnyH_take (i := 4) (v := ?_) rfl (by kernel_rfl) (by kernel_rfl) (by kernel_rfl) (fun _ _ _ h => h) (Or.inl ⟨by rfl, ?_⟩) hHeld ?_
  rotate_left
  · intro w hSw
    (try dsimp only at hSw)
    go_simp
    try with_reducible rfl
  (try simp only [Act.put]); (try simp only [List.setIfInBounds_toArray]); (try simp only [List.getElem_toArray]); (repeat (first | simp only [List.getElem_cons_succ] | simp only [List.getElem_cons_zero])); (repeat (first | simp only [List.set_cons_succ] | simp only [List.set_cons_zero]))
  refine wpAnyH_take (i := 5) (v := ?_) rfl (by kernel_rfl) (by kernel_rfl) (by kernel_rfl) (fun _ _ _ h => h) (Or.inl ⟨by rfl, ?_⟩) hHeld ?_
  rotate_left
  · intro w hSw
    (try dsimp only at hSw)
    go_simp
    try with_reducible rfl
  (try simp only [Act.put]); (try simp only [List.setIfInBounds_toArray]); (try simp only [List.getElem_toArray]); (repeat (first | simp only [List.getElem_cons_succ] | simp only [List.getElem_cons_zero])); (repeat (first | simp only [List.set_cons_succ] | simp only [List.set_cons_zero]))
  refine wpAnyH_take (i := 6) (v := ?_) rfl (by kernel_rfl) (by kernel_rfl) (by kernel_rfl) (fun _ _ _ h => h) (Or.inl ⟨by rfl, ?_⟩) hHeld ?_
  rotate_left
  · intro w hSw
    (try dsimp only at hSw)
    go_simp
    try with_reducible rfl
  (try simp only [Act.put]); (try simp only [List.setIfInBounds_toArray]); (try simp only [List.getElem_toArray]); (repeat (first | simp only [List.getElem_cons_succ] | simp only [List.getElem_cons_zero])); (repeat (first | simp only [List.set_cons_succ] | simp only [List.set_cons_zero]))
  refine wpAnyH_take (i := 7) (v := ?_) rfl (by kernel_rfl) (by kernel_rfl) (by kernel_rfl) (fun _ _ _ h => h) (Or.inl ⟨by rfl, ?_⟩) hHeld ?_
  rotate_left
  · intro w hSw
    (try dsimp only at hSw)
    have y2 := hSw.c2
    go_simp
    try with_reducible rfl
  (try simp only [Act.put]); (try simp only [List.setIfInBounds_toArray]); (try simp only [List.getElem_toArray]); (repeat (first | simp only [List.getElem_cons_succ] | simp only [List.getElem_cons_zero])); (repeat (first | simp only [List.set_cons_succ] | simp only [List.set_cons_zero]))
  refine wpAnyH_take (i := 8) (v := ?_) rfl (by kernel_rfl) (by kernel_rfl) (by kernel_rfl) (fun _ _ _ h => h) (Or.inl ⟨by rfl, ?_⟩) hHeld ?_
  rotate_left
  · intro w hSw
    (try dsimp only at hSw)
    go_simp
    try with_reducible rfl
  (try simp only [Act.put]); (try simp only [List.setIfInBounds_toArray]); (try simp only [List.getElem_toArray]); (repeat (first | simp only [List.getElem_cons_succ] | simp only [List.getElem_cons_zero])); (repeat (first | simp only [List.set_cons_succ] | simp only [List.set_cons_zero]))
  refine wpAnyH_take (i := 9) (v := ?_) rfl (by kernel_rfl) (by kernel_rfl) (by kernel_rfl) (fun _ _ _ h => h) (Or.inl ⟨by rfl, ?_⟩) hHeld ?_
  rotate_left
  · intro w hSw
    (try dsimp only at hSw)
    go_simp
    try with_reducible rfl
  (try simp only [Act.put]); (try simp only [List.setIfInBounds_toArray]); (try simp only [List.getElem_toArray]); (repeat (first | simp only [List.getElem_cons_succ] | simp only [List.getElem_cons_zero])); (repeat (first | simp only [List.set_cons_succ] | simp only [List.set_cons_zero]))
  refine wpAnyH_take (i := 10) (v := ?_) rfl (by kernel_rfl) (by kernel_rfl) (by kernel_rfl) (fun _ _ _ h => h) (Or.inl ⟨by rfl, ?_⟩) hHeld ?_
  rotate_left
  · intro w hSw
    (try dsimp only at hSw)
    go_simp
    try with_reducible rfl
  (try simp only [Act.put]); (try simp only [List.setIfInBounds_toArray]); (try simp only [List.getElem_toArray]); (repeat (first | simp only [List.getElem_cons_succ] | simp only [List.getElem_cons_zero])); (repeat (first | simp only [List.set_cons_succ] | simp only [List.set_cons_zero]))
  refine wpAnyH_take (i := 11) (v := ?_) rfl (by kernel_rfl) (by kernel_rfl) (by kernel_rfl) (fun _ _ _ h => h) (Or.inl ⟨by rfl, ?_⟩) hHeld ?_
  rotate_left
  · intro w hSw
    (try dsimp only at hSw)
    have y0 : w.cell? ⟨g, L * 8, none⟩ = some (.int .i64 xth) := hSw.lc 0 _ rfl
    have y1 : w.cell? ⟨g, L * 8 + 1, none⟩ = some (.int .u8 3) := hSw.lc 1 _ rfl
    have y2 : w.cell? ⟨g, L * 8 + 2, none⟩ = some (.int .u64 (xad : Int)) := hSw.lc 2 _ rfl
    have y3 : w.cell? ⟨g, L * 8 + 3, none⟩ = some (.int .u64 (xa : Int)) := hSw.lc 3 _ rfl
    have y4 : w.cell? ⟨g, L * 8 + 4, none⟩ = some (.int .u64 (xb : Int)) := hSw.lc 4 _ rfl
    have y5 : w.cell? ⟨g, L * 8 + 5, none⟩ = some (.slice none 0 0) := hSw.lc 5 _ rfl
    have y6 : w.cell? ⟨g, L * 8 + 6, none⟩ = some (.int .u64 0) := hSw.lc 6 _ rfl
    have y7 : w.cell? ⟨g, L * 8 + 7, none⟩ = some (.bool (casOk n s.cs xad xa)) := hSw.lc 7 _ rfl
    go_simp
    try with_reducible rfl
  (try simp only [Act.put]); (try simp only [List.setIfInBounds_toArray]); (try simp only [List.getElem_toArray]); (repeat (first | simp only [List.getElem_cons_succ] | simp only [List.getElem_cons_zero])); (repeat (first | simp only [List.set_cons_succ] | simp only [List.set_cons_zero]))
  refine wpAnyH_take (i := 12) (v := ?_) rfl (by kernel_rfl) (by kernel_rfl) (by kernel_rfl) (fun _ _ _ h => h) (Or.inl ⟨by rfl, ?_⟩) hHeld ?_
  rotate_left
  · intro w hSw
    (try dsimp only at hSw)
    have y0 : w.cell? ⟨AB, 0, none⟩ = some (.int .i64 xth) := cell_of hSw.bx 0
    have y1 : w.cell? ⟨AB, 1, none⟩ = some (.int .u8 3) := cell_of hSw.bx 1
    have y2 : w.cell? ⟨AB, 2, none⟩ = some (.int .u64 (xad : Int)) := cell_of hSw.bx 2
    have y3 : w.cell? ⟨AB, 3, none⟩ = some (.int .u64 (xa : Int)) := cell_of hSw.bx 3
    have y4 : w.cell? ⟨AB, 4, none⟩ = some (.int .u64 (xb : Int)) := cell_of hSw.bx 4
    have y5 : w.cell? ⟨AB, 5, none⟩ = some (.slice p vn c) := cell_of hSw.bx 5
    have y6 : w.cell? ⟨AB, 6, none⟩ = some (.int .u64 (xgot : Int)) := cell_of hSw.bx 6
    have y7 : w.cell? ⟨AB, 7, none⟩ = some (.bool xok) := cell_of hSw.bx 7
    go_simp
    try with_reducible rfl
  (try simp only [Act.put]); (try simp only [List.setIfInBounds_toArray]); (try simp only [List.getElem_toArray]); (repeat (first | simp only [List.getElem_cons_succ] | simp only [List.getElem_cons_zero])); (repeat (first | simp only [List.set_cons_succ] | simp only [List.set_cons_zero]))
  refine wpAnyH_ready (rs := [13]) (by kernel_rfl) (by simp) ?_
  refine AllReadyH.cons rfl (fun KK hKK => ?_) AllReadyH.nil
  go_simp
  refine (HSM.out _).mono ?_
  rintro e w5 ⟨v, rfl, hv, h5⟩
  obtain ⟨rr, rfl, hrr⟩ := hv
  have C5 := keepH h5
  clear h5
  refine hKK.out _ _ ?_ (fun hHeld => ?_)
  · exact HS0.out.on C5.out
  clear hKK KK
  (try simp only [Act.put]); (try simp only [List.setIfInBounds_toArray]); (try simp only [List.getElem_toArray]); (repeat (first | simp only [List.getElem_cons_succ] | simp only [List.getElem_cons_zero])); (repeat (first | simp only [List.set_cons_succ] | simp only [List.set_cons_zero]))
  refine wpAnyH_take (i := 14) (v := ?_) rfl (by kernel_rfl) (by kernel_rfl) (by kernel_rfl) (fun _ _ _ h => h) (Or.inl ⟨by rfl, ?_⟩) hHeld ?_
  rotate_left
  · intro w hSw
    (try dsimp only at hSw)
    go_simp
    try with_reducible rfl
  (try simp only [Act.put]); (try simp only [List.setIfInBounds_toArray]); (try simp only [List.getElem_toArray]); (repeat (first | simp only [List.getElem_cons_succ] | simp only [List.getElem_cons_zero])); (repeat (first | simp only [List.set_cons_succ] | simp only [List.set_cons_zero]))
  refine wpAnyH_done (by kernel_rfl) ?_ _
  go_simp
  clear hHeld
  go_wp2_with fail
  go_ret
  exact ⟨.bool rr, by first | rfl | simp, rr, R', rfl, HTL.out rr hrr, HD.out.on C5.out⟩

set_option maxRecDepth 100000 in
set_option maxHeartbeats 4000000 in
theorem again_4 {W : World} {nm n : Nat} {s : Ms} {k : Nat} {R : Nat → Prop} {w : World} (h : DE W nm n s k R w) (hk : k ≤ 1000000000) (xth : Int) (xad xa xb xgot vn c : Nat) (p : Option Addr) (xok : Bool) (xvals : List Nat) (hvn : vn = xvals.length) (hu : URd w p xvals) (hpb : ∀ ad, p = some ad → xvals ≠ [] → ad.block < W.heap.size) (o1 : isU xad) (o2 : isU xa) (o3 : isU xb) (o5 : ∀ u ∈ xvals, isU u) (hvl : xvals.length ≤ 1048576) (hr : RightA ⟨xth, 4, xad, xa, xb, xvals, xgot, xok⟩) :
    Calls Tryz.prog 35 #[.pointer (some ⟨nm, 0, none⟩), .agg #[.int .i64 xth, .int .u8 4, .int .u64 (xad : Int), .int .u64 (xa : Int), .int .u64 (xb : Int), .slice p vn c, .int .u64 (xgot : Int), .bool xok]] w fun e w' => ∃ v, e = .returned v ∧ AgQ W nm n s k ⟨xth, 4, xad, xa, xb, xvals, xgot, xok⟩ v w' := by
  obtain ⟨l, hl, hM0⟩ := h.mem
  obtain ⟨AB, hAB⟩ : ∃ AB, AB = w.heap.size := ⟨_, rfl⟩
  obtain ⟨w1, hw1⟩ : ∃ w1, w1 = w.alloc (.cells #[.int .i64 xth, .int .u8 4, .int .u64 (xad : Int), .int .u64 (xa : Int), .int .u64 (xb : Int), .slice p vn c, .int .u64 (xgot : Int), .bool xok] 44) := ⟨_, rfl⟩
  have C1 : Below w.heap.size w w1 := by rw [hw1]; exact below_alloc _ _
  have X1 : w1.heap[AB]? = some (.cells #[.int .i64 xth, .int .u8 4, .int .u64 (xad : Int), .int .u64 (xa : Int), .int .u64 (xb : Int), .slice p vn c, .int .u64 (xgot : Int), .bool xok] 44 (0, 0)) := by rw [hw1, hAB]; exact heap_alloc_new _ _
  have hM : RMem w1 R nm n s.next s.cs l := hM0.chg (belowC C1) (fun _ _ x => x)
  have hap : ∀ ad, p = some ad → xvals ≠ [] → ¬ R ad.block := fun ad e1 e2 q => by have := hpb ad e1 e2; have := h.new _ q; omega
  have hnAB : ¬ R AB := fun q => by have := hM0.lt AB q; omega
  have hcl := r_add nm n s.next xad xa xth R s.cs l w1 hM (by omega) o1
  have D1 := h.on C1
  have HAF : Hid (∀ w2 R' (a : Acc), accAx a = ⟨xth, 4, xad, xa, 0, [], cellN s.cs xad, false⟩ → RMem w2 R' nm n (⟨s.next, stN n s.cs xad (addN (cellN s.cs xad) xa)⟩ : Ms).next (⟨s.next, stN n s.cs xad (addN (cellN s.cs xad) xa)⟩ : Ms).cs (l ++ [a]) → Goes w1 w2 R R' → DE W nm n ⟨s.next, stN n s.cs xad (addN (cellN s.cs xad) xa)⟩ (k + 1) R' w2 ∧ (∃ g cap, LastAt nm AB g l.length cap ⟨xth, 4, xad, xa, 0, [], cellN s.cs xad, false⟩ ⟨xth, 4, xad, xa, xb, xvals, xgot, xok⟩ a.vs (.slice p vn c) w2) ∧ URd w2 p xvals ∧ w2.ownsRow 0 42 1 a.vs a.vals.length (u64L a.vals)) := keepH (fun w2 R' a ha hm hg => by
    have D2 := D1.goes (s' := ⟨s.next, stN n s.cs xad (addN (cellN s.cs xad) xa)⟩) hg (by simp; omega) hm (D1.nx)
    obtain ⟨g, cap, q1, q2⟩ := last_of (x := ⟨xth, 4, xad, xa, xb, xvals, xgot, xok⟩) (xvs := .slice p vn c) hm ((hg.chg.block AB (lt_of X1) hnAB).trans X1)
    rw [ha] at q1
    refine ⟨D2, ⟨g, cap, q1⟩, ?_, q2⟩
    rcases hu.on C1 with q | ⟨bk, off, e1, e2, e3⟩
    · exact Or.inl q
    · by_cases hx : xvals = []
      · exact Or.inl hx
      · refine Or.inr ⟨bk, off, e1, Nat.lt_of_lt_of_le e2 hg.chg.size, fun i x hi => ?_⟩
        have := hap _ e1 hx
        rw [← e3 i x hi]
        simp [World.cell?, hg.chg.block bk e2 this])
  have a0 : w1.cell? ⟨AB, 0, none⟩ = some (.int .i64 xth) := cell_of X1 0
  have a1 : w1.cell? ⟨AB, 1, none⟩ = some (.int .u8 4) := cell_of X1 1
  have a2 : w1.cell? ⟨AB, 2, none⟩ = some (.int .u64 (xad : Int)) := cell_of X1 2
  have a3 : w1.cell? ⟨AB, 3, none⟩ = some (.int .u64 (xa : Int)) := cell_of X1 3
  have a4 : w1.cell? ⟨AB, 4, none⟩ = some (.int .u64 (xb : Int)) := cell_of X1 4
  have a5 : w1.cell? ⟨AB, 5, none⟩ = some (.slice p vn c) := cell_of X1 5
  have HTL : Hid (∀ r : Bool, (r = true ↔ (⟨xth, 4, xad, xa, 0, [], cellN s.cs xad, false⟩ : Ax) = ⟨xth, 4, xad, xa, xb, xvals, xgot, xok⟩) → (r = true ↔ msTell n s ⟨xth, 4, xad, xa, xb, xvals, xgot, xok⟩ = true)) := keepH (fun r hq => hq.trans (by
    rcases hr with ⟨q, e⟩ | ⟨q, e⟩ | ⟨q, e⟩ | ⟨q, e⟩ | ⟨q, e⟩ <;> simp only at q e <;> first | omega | skip
    simp [msTell, e]))
  have HVN := keepH hvn
  have HHL : Hid (l.length ≤ k) := keepH hl
  have HHK := keepH hk
  have HVL := keepH hvl
  clear hM0 hM hap hnAB h D1 hu hpb o1 o2 o3 o5 hvl hr X1 hl hk hvn
  go_enter Tryz.func35, Tryz.ntmps35
  go_upto_region 1 with fail
  rw [← hw1, ← hAB]
  clear hw1 hAB C1
  go_upto_region 12 with (first | (go_at_call 64; refine hcl.mono ?_; rintro e w2 ⟨rfl, R', hm, hg⟩; obtain ⟨hD, ⟨g, cap, hS⟩, hu2, hrow⟩ := HAF.out w2 R' _ (rfl) hm hg; have HD := keepH hD; have HS1 := keepH hS; have HU2 := keepH hu2; have HROW := keepH hrow; clear hm hg hD hS hu2 hrow hcl HAF))
  obtain ⟨L, hL⟩ : ∃ L, L = l.length := ⟨_, rfl⟩
  have HS0 : Hid (LastAt nm AB g L cap ⟨xth, 4, xad, xa, 0, [], cellN s.cs xad, false⟩ ⟨xth, 4, xad, xa, xb, xvals, xgot, xok⟩ (.slice none 0 0) (.slice p vn c) w2) := keepH (by rw [hL]; exact HS1.out)
  have hL1 : L ≤ 1000000000 := by rw [hL]; have := HHL.out; have := HHK.out; omega
  have q9 : IntKind.i64.wrap (L : Int) = (L : Int) := by rw [IntKind.wrap_i64]; omega
  have q7 : (0 : Int) ≤ (L : Int) := by omega
  have q6 : (L : Int) < (L : Int) + 1 := by omega
  have HSM : Hid (∀ m, Calls Tryz.prog 21 #[.agg #[.int .i64 xth, .int .u8 4, .int .u64 (xad : Int), .int .u64 (xa : Int), .int .u64 0, .slice none 0 0, .int .u64 (cellN s.cs xad : Int), .bool false], .agg #[.int .i64 xth, .int .u8 4, .int .u64 (xad : Int), .int .u64 (xa : Int), .int .u64 (xb : Int), .slice p vn c, .int .u64 (xgot : Int), .bool xok]] (w2.drewN m) fun e w' => ∃ v, e = .returned v ∧ SameQ ⟨xth, 4, xad, xa, 0, [], cellN s.cs xad, false⟩ ⟨xth, 4, xad, xa, xb, xvals, xgot, xok⟩ v ∧ Below w2.heap.size w2 w') := keepH (fun m => by
    have hb := below_drewN (Below.refl w2.heap.size w2) m
    have e := s_any ⟨xth, 4, xad, xa, 0, [], cellN s.cs xad, false⟩ ⟨xth, 4, xad, xa, xb, xvals, xgot, xok⟩ (none) p (0) c (w2.drewN m) (Or.inl rfl) (HU2.out.on hb) (by simp) HVL.out
    simp only at e
    rw [← HVN.out] at e
    refine e.mono ?_
    rintro e w' ⟨v, h1, h2, h3⟩
    exact ⟨v, h1, h2, below_chain hb h3⟩)
  clear hL HS1 a0 a1 a2 a3 a4 a5
  refine wp_region_held_drew (S := LastAt nm AB g L cap ⟨xth, 4, xad, xa, 0, [], cellN s.cs xad, false⟩ ⟨xth, 4, xad, xa, xb, xvals, xgot, xok⟩ (.slice none 0 0) (.slice p vn c)) (by kernel_rfl) (HS0.out.on (below_drew1 (Below.refl _ _))) ?_
  intro hHeld
  refine wpAnyH_take (i := 0) (v := ?_) rfl (by kernel_rfl) (by kernel_rfl) (by kernel_rfl) (fun _ _ _ h => h) (Or.inl ⟨by rfl, ?_⟩) hHeld ?_
  rotate_left
  · intro w hSw
    (try dsimp only at hSw)
    go_simp
    try with_reducible rfl
  (try simp only [Act.put]); (try simp only [List.setIfInBounds_toArray]); (try simp only [List.getElem_toArray]); (repeat (first | simp only [List.getElem_cons_succ] | simp only [List.getElem_cons_zero])); (repeat (first | simp only [List.set_cons_succ] | simp only [List.set_cons_zero]))
  refine wpAnyH_take (i := 1) (v := ?_) rfl (by kernel_rfl) (by kernel_rfl) (by kernel_rfl) (fun _ _ _ h => h) (Or.inl ⟨by rfl, ?_⟩) hHeld ?_
  rotate_left
  · intro w hSw
    (try dsimp only at hSw)
    go_simp
    try with_reducible rfl
  (try simp only [Act.put]); (try simp only [List.setIfInBounds_toArray]); (try simp only [List.getElem_toArray]); (repeat (first | simp only [List.getElem_cons_succ] | simp only [List.getElem_cons_zero])); (repeat (first | simp only [List.set_cons_succ] | simp only [List.set_cons_zero]))
  refine wpAnyH_take (i := 2) (v := ?_) rfl (by kernel_rfl) (by kernel_rfl) (by kernel_rfl) (fun _ _ _ h => h) (Or.inl ⟨by rfl, ?_⟩) hHeld ?_
  rotate_left
  · intro w hSw
    (try dsimp only at hSw)
    go_simp
    try with_reducible rfl
  (try simp only [Act.put]); (try simp only [List.setIfInBounds_toArray]); (try simp only [List.getElem_toArray]); (repeat (first | simp only [List.getElem_cons_succ] | simp only [List.getElem_cons_zero])); (repeat (first | simp only [List.set_cons_succ] | simp only [List.set_cons_zero]))
  refine wpAnyH_take (i := 3) (v := ?_) rfl (by kernel_rfl) (by kernel_rfl) (by kernel_rfl) (fun _ _ _ h => h) (Or.inl ⟨by rfl, ?_⟩) hHeld ?_
  rotate_left
  · intro w hSw
    (try dsimp only at hSw)
    have y2 := hSw.c2
    go_simp
    try with_reducible rfl
  (try simp only [Act.put]); (try simp only [List.setIfInBounds_toArray]); (try simp only [List.getElem_toArray]); (repeat (first | simp only [List.getElem_cons_succ] | simp only [List.getElem_cons_zero])); (repeat (first | simp only [List.set_cons_succ] | simp only [List.set_cons_zero]))
  refine wpAnyH_take (i := 4) (v := ?_) rfl (by kernel_rfl) (by kernel_rfl) (by kernel_rfl) (fun _ _ _ h => h) (Or.inl ⟨by rfl, ?_⟩) hHeld ?_
  rotate_left
  · intro w hSw
    (try dsimp only at hSw)
    go_simp
    try with_reducible rfl
  (try simp only [Act.put]); (try simp only [List.setIfInBounds_toArray]); (try simp only [List.getElem_toArray]); (repeat (first | simp only [List.getElem_cons_succ] | simp only [List.getElem_cons_zero])); (repeat (first | simp only [List.set_cons_succ] | simp only [List.set_cons_zero]))
  refine wpAnyH_take (i := 5) (v := ?_) rfl (by kernel_rfl) (by kernel_rfl) (by kernel_rfl) (fun _ _ _ h => h) (Or.inl ⟨by rfl, ?_⟩) hHeld ?_
  rotate_left
  · intro w hSw
    (try dsimp only at hSw)
    go_simp
    try with_reducible rfl
  (try simp only [Act.put]); (try simp only [List.setIfInBounds_toArray]); (try simp only [List.getElem_toArray]); (repeat (first | simp only [List.getElem_cons_succ] | simp only [List.getElem_cons_zero])); (repeat (first | simp only [List.set_cons_succ] | simp only [List.set_cons_zero]))
  refine wpAnyH_take (i := 6) (v := ?_) rfl (by kernel_rfl) (by kernel_rfl) (by kernel_rfl) (fun _ _ _ h => h) (Or.inl ⟨by rfl, ?_⟩) hHeld ?_
  rotate_left
  · intro w hSw
    (try dsimp only at hSw)
    go_simp
    try with_reducible rfl
  (try simp only [Act.put]); (try simp only [List.setIfInBounds_toArray]); (try simp only [List.getElem_toArray]); (repeat (first | simp only [List.getElem_cons_succ] | simp only [List.getElem_cons_zero])); (repeat (first | simp only [List.set_cons_succ] | simp only [List.set_cons_zero]))
  refine wpAnyH_take (i := 7) (v := ?_) rfl (by kernel_rfl) (by kernel_rfl) (by kernel_rfl) (fun _ _ _ h => h) (Or.inl ⟨by rfl, ?_⟩) hHeld ?_
  rotate_left
  · intro w hSw
    (try dsimp only at hSw)
    have y2 := hSw.c2
    go_simp
    try with_reducible rfl
  (try simp only [Act.put]); (try simp only [List.setIfInBounds_toArray]); (try simp only [List.getElem_toArray]); (repeat (first | simp only [List.getElem_cons_succ] | simp only [List.getElem_cons_zero])); (repeat (first | simp only [List.set_cons_succ] | simp only [List.set_cons_zero]))
  refine wpAnyH_take (i := 8) (v := ?_) rfl (by kernel_rfl) (by kernel_rfl) (by kernel_rfl) (fun _ _ _ h => h) (Or.inl ⟨by rfl, ?_⟩) hHeld ?_
  rotate_left
  · intro w hSw
    (try dsimp only at hSw)
    go_simp
    try with_reducible rfl
  (try simp only [Act.put]); (try simp only [List.setIfInBounds_toArray]); (try simp only [List.getElem_toArray]); (repeat (first | simp only [List.getElem_cons_succ] | simp only [List.getElem_cons_zero])); (repeat (first | simp only [List.set_cons_succ] | simp only [List.set_cons_zero]))
  refine wpAnyH_take (i := 9) (v := ?_) rfl (by kernel_rfl) (by kernel_rfl) (by kernel_rfl) (fun _ _ _ h => h) (Or.inl ⟨by rfl, ?_⟩) hHeld ?_
  rotate_left
  · intro w hSw
    (try dsimp only at hSw)
    go_simp
    try with_reducible rfl
  (try simp only [Act.put]); (try simp only [List.setIfInBounds_toArray]); (try simp only [List.getElem_toArray]); (repeat (first | simp only [List.getElem_cons_succ] | simp only [List.getElem_cons_zero])); (repeat (first | simp only [List.set_cons_succ] | simp only [List.set_cons_zero]))
  refine wpAnyH_take (i := 10) (v := ?_) rfl (by kernel_rfl) (by kernel_rfl) (by kernel_rfl) (fun _ _ _ h => h) (Or.inl ⟨by rfl, ?_⟩) hHeld ?_
  rotate_left
  · intro w hSw
    (try dsimp only at hSw)
    go_simp
    try with_reducible rfl
  (try simp only [Act.put]); (try simp only [List.setIfInBounds_toArray]); (try simp only [List.getElem_toArray]); (repeat (first | simp only [List.getElem_cons_succ] | simp only [List.getElem_cons_zero])); (repeat (first | simp only [List.set_cons_succ] | simp only [List.set_cons_zero]))
  refine wpAnyH_take (i := 11) (v := ?_) rfl (by kernel_rfl) (by kernel_rfl) (by kernel_rfl) (fun _ _ _ h => h) (Or.inl ⟨by rfl, ?_⟩) hHeld ?_
  rotate_left
  · intro w hSw
    (try dsimp only at hSw)
    have y0 : w.cell? ⟨g, L * 8, none⟩ = some (.int .i64 xth) := hSw.lc 0 _ rfl
    have y1 : w.cell? ⟨g, L * 8 + 1, none⟩ = some (.int .u8 4) := hSw.lc 1 _ rfl
    have y2 : w.cell? ⟨g, L * 8 + 2, none⟩ = some (.int .u64 (xad : Int)) := hSw.lc 2 _ rfl
    have y3 : w.cell? ⟨g, L * 8 + 3, none⟩ = some (.int .u64 (xa : Int)) := hSw.lc 3 _ rfl
    have y4 : w.cell? ⟨g, L * 8 + 4, none⟩ = some (.int .u64 0) := hSw.lc 4 _ rfl
    have y5 : w.cell? ⟨g, L * 8 + 5, none⟩ = some (.slice none 0 0) := hSw.lc 5 _ rfl
    have y6 : w.cell? ⟨g, L * 8 + 6, none⟩ = some (.int .u64 (cellN s.cs xad : Int)) := hSw.lc 6 _ rfl
    have y7 : w.cell? ⟨g, L * 8 + 7, none⟩ = some (.bool false) := hSw.lc 7 _ rfl
    go_simp
    try with_reducible rfl
  (try simp only [Act.put]); (try simp only [List.setIfInBounds_toArray]); (try simp only [List.getElem_toArray]); (repeat (first | simp only [List.getElem_cons_succ] | simp only [List.getElem_cons_zero])); (repeat (first | simp only [List.set_cons_succ] | simp only [List.set_cons_zero]))
  refine wpAnyH_take (i := 12) (v := ?_) rfl (by kernel_rfl) (by kernel_rfl) (by kernel_rfl) (fun _ _ _ h => h) (Or.inl ⟨by rfl, ?_⟩) hHeld ?_
  rotate_left
  · intro w hSw
    (try dsimp only at hSw)
    have y0 : w.cell? ⟨AB, 0, none⟩ = some (.int .i64 xth) := cell_of hSw.bx 0
    have y1 : w.cell? ⟨AB, 1, none⟩ = some (.int .u8 4) := cell_of hSw.bx 1
    have y2 : w.cell? ⟨AB, 2, none⟩ = some (.int .u64 (xad : Int)) := cell_of hSw.bx 2
    have y3 : w.cell? ⟨AB, 3, none⟩ = some (.int .u64 (xa : Int)) := cell_of hSw.bx 3
    have y4 : w.cell? ⟨AB, 4, none⟩ = some (.int .u64 (xb : Int)) := cell_of hSw.bx 4
    have y5 : w.cell? ⟨AB, 5, none⟩ = some (.slice p vn c) := cell_of hSw.bx 5
    have y6 : w.cell? ⟨AB, 6, none⟩ = some (.int .u64 (xgot : Int)) := cell_of hSw.bx 6
    have y7 : w.cell? ⟨AB, 7, none⟩ = some (.bool xok) := cell_of hSw.bx 7
    go_simp
    try with_reducible rfl
  (try simp only [Act.put]); (try simp only [List.setIfInBounds_toArray]); (try simp only [List.getElem_toArray]); (repeat (first | simp only [List.getElem_cons_succ] | simp only [List.getElem_cons_zero])); (repeat (first | simp only [List.set_cons_succ] | simp only [List.set_cons_zero]))
  refine wpAnyH_ready (rs := [13]) (by kernel_rfl) (by simp) ?_
  refine AllReadyH.cons rfl (fun KK hKK => ?_) AllReadyH.nil
  go_simp
  refine (HSM.out _).mono ?_
  rintro e w5 ⟨v, rfl, hv, h5⟩
  obtain ⟨rr, rfl, hrr⟩ := hv
  have C5 := keepH h5
  clear h5
  refine hKK.out _ _ ?_ (fun hHeld => ?_)
  · exact HS0.out.on C5.out
  clear hKK KK
  (try simp only [Act.put]); (try simp only [List.setIfInBounds_toArray]); (try simp only [List.getElem_toArray]); (repeat (first | simp only [List.getElem_cons_succ] | simp only [List.getElem_cons_zero])); (repeat (first | simp only [List.set_cons_succ] | simp only [List.set_cons_zero]))
  refine wpAnyH_take (i := 14) (v := ?_) rfl (by kernel_rfl) (by kernel_rfl) (by kernel_rfl) (fun _ _ _ h => h) (Or.inl ⟨by rfl, ?_⟩) hHeld ?_
  rotate_left
  · intro w hSw
    (try dsimp only at hSw)
    go_simp
    try with_reducible rfl
  (try simp only [Act.put]); (try simp only [List.setIfInBounds_toArray]); (try simp only [List.getElem_toArray]); (repeat (first | simp only [List.getElem_cons_succ] | simp only [List.getElem_cons_zero])); (repeat (first | simp only [List.set_cons_succ] | simp only [List.set_cons_zero]))
  refine wpAnyH_done (by kernel_rfl) ?_ _
  go_simp
  clear hHeld
  go_wp2_with fail
  go_ret
  exact ⟨.bool rr, by first | rfl | simp, rr, R', rfl, HTL.out rr hrr, HD.out.on C5.out⟩

set_option maxRecDepth 100000 in
set_option maxHeartbeats 4000000 in
theorem again_5 {W : World} {nm n : Nat} {s : Ms} {k : Nat} {R : Nat → Prop} {w : World} (h : DE W nm n s k R w) (hk : k ≤ 1000000000) (xth : Int) (xad xa xb xgot vn c : Nat) (p : Option Addr) (xok : Bool) (xvals : List Nat) (hvn : vn = xvals.length) (hu : URd w p xvals) (hpb : ∀ ad, p = some ad → xvals ≠ [] → ad.block < W.heap.size) (o1 : isU xad) (o2 : isU xa) (o3 : isU xb) (o5 : ∀ u ∈ xvals, isU u) (hvl : xvals.length ≤ 1048576) (hr : RightA ⟨xth, 5, xad, xa, xb, xvals, xgot, xok⟩) :
    Calls Tryz.prog 35 #[.pointer (some ⟨nm, 0, none⟩), .agg #[.int .i64 xth, .int .u8 5, .int .u64 (xad : Int), .int .u64 (xa : Int), .int .u64 (xb : Int), .slice p vn c, .int .u64 (xgot : Int), .bool xok]] w fun e w' => ∃ v, e = .returned v ∧ AgQ W nm n s k ⟨xth, 5, xad, xa, xb, xvals, xgot, xok⟩ v w' := by
  obtain ⟨l, hl, hM0⟩ := h.mem
  obtain ⟨AB, hAB⟩ : ∃ AB, AB = w.heap.size := ⟨_, rfl⟩
  obtain ⟨w1, hw1⟩ : ∃ w1, w1 = w.alloc (.cells #[.int .i64 xth, .int .u8 5, .int .u64 (xad : Int), .int .u64 (xa : Int), .int .u64 (xb : Int), .slice p vn c, .int .u64 (xgot : Int), .bool xok] 44) := ⟨_, rfl⟩
  have C1 : Below w.heap.size w w1 := by rw [hw1]; exact below_alloc _ _
  have X1 : w1.heap[AB]? = some (.cells #[.int .i64 xth, .int .u8 5, .int .u64 (xad : Int), .int .u64 (xa : Int), .int .u64 (xb : Int), .slice p vn c, .int .u64 (xgot : Int), .bool xok] 44 (0, 0)) := by rw [hw1, hAB]; exact heap_alloc_new _ _
  have hM : RMem w1 R nm n s.next s.cs l := hM0.chg (belowC C1) (fun _ _ x => x)
  have hap : ∀ ad, p = some ad → xvals ≠ [] → ¬ R ad.block := fun ad e1 e2 q => by have := hpb ad e1 e2; have := h.new _ q; omega
  have hnAB : ¬ R AB := fun q => by have := hM0.lt AB q; omega
  have hcl := r_alloc nm n s.next xth p c xvals R s.cs l w1 hM h.nx (by omega) (rd_of (hu.on C1)) hap o5 (by omega)
  rw [← hvn] at hcl
  have D1 := h.on C1
  obtain ⟨aa, haa⟩ : ∃ aa, aa = alAt n s.next xvals.length := ⟨_, rfl⟩
  have HAA := keepH haa
  have HAF : Hid (∀ w2 R' (a : Acc), accAx a = ⟨xth, 5, aa, 0, 0, xvals, 0, false⟩ → RMem w2 R' nm n (⟨alNext n s.next xvals.length, alN n s.next s.cs xvals⟩ : Ms).next (⟨alNext n s.next xvals.length, alN n s.next s.cs xvals⟩ : Ms).cs (l ++ [a]) → Goes w1 w2 R R' → DE W nm n ⟨alNext n s.next xvals.length, alN n s.next s.cs xvals⟩ (k + 1) R' w2 ∧ (∃ g cap, LastAt nm AB g l.length cap ⟨xth, 5, aa, 0, 0, xvals, 0, false⟩ ⟨xth, 5, xad, xa, xb, xvals, xgot, xok⟩ a.vs (.slice p vn c) w2) ∧ URd w2 p xvals ∧ w2.ownsRow 0 42 1 a.vs a.vals.length (u64L a.vals)) := keepH (fun w2 R' a ha hm hg => by
    have D2 := D1.goes (s' := ⟨alNext n s.next xvals.length, alN n s.next s.cs xvals⟩) hg (by simp; omega) hm (alNext_le D1.nx)
    obtain ⟨g, cap, q1, q2⟩ := last_of (x := ⟨xth, 5, xad, xa, xb, xvals, xgot, xok⟩) (xvs := .slice p vn c) hm ((hg.chg.block AB (lt_of X1) hnAB).trans X1)
    rw [ha] at q1
    refine ⟨D2, ⟨g, cap, q1⟩, ?_, q2⟩
    rcases hu.on C1 with q | ⟨bk, off, e1, e2, e3⟩
    · exact Or.inl q
    · by_cases hx : xvals = []
      · exact Or.inl hx
      · refine Or.inr ⟨bk, off, e1, Nat.lt_of_lt_of_le e2 hg.chg.size, fun i x hi => ?_⟩
        have := hap _ e1 hx
        rw [← e3 i x hi]
        simp [World.cell?, hg.chg.block bk e2 this])
  have a0 : w1.cell? ⟨AB, 0, none⟩ = some (.int .i64 xth) := cell_of X1 0
  have a1 : w1.cell? ⟨AB, 1, none⟩ = some (.int .u8 5) := cell_of X1 1
  have a2 : w1.cell? ⟨AB, 2, none⟩ = some (.int .u64 (xad : Int)) := cell_of X1 2
  have a3 : w1.cell? ⟨AB, 3, none⟩ = some (.int .u64 (xa : Int)) := cell_of X1 3
  have a4 : w1.cell? ⟨AB, 4, none⟩ = some (.int .u64 (xb : Int)) := cell_of X1 4
  have a5 : w1.cell? ⟨AB, 5, none⟩ = some (.slice p vn c) := cell_of X1 5
  have HTL : Hid (∀ r : Bool, (r = true ↔ (⟨xth, 5, aa, 0, 0, xvals, 0, false⟩ : Ax) = ⟨xth, 5, xad, xa, xb, xvals, xgot, xok⟩) → (r = true ↔ msTell n s ⟨xth, 5, xad, xa, xb, xvals, xgot, xok⟩ = true)) := keepH (fun r hq => hq.trans (by
    rcases hr with ⟨q, e⟩ | ⟨q, e⟩ | ⟨q, e⟩ | ⟨q, e⟩ | ⟨q, e⟩ <;> simp only at q e <;> first | omega | skip
    rw [haa]
    simp [msTell, e]))
  have HVN := keepH hvn
  have HHL : Hid (l.length ≤ k) := keepH hl
  have HHK := keepH hk
  have HVL := keepH hvl
  clear hM0 hM hap hnAB h D1 hu hpb o1 o2 o3 o5 hvl hr X1 hl hk hvn haa
  go_enter Tryz.func35, Tryz.ntmps35
  go_upto_region 1 with fail
  rw [← hw1, ← hAB]
  clear hw1 hAB C1
  go_upto_region 12 with (first | (go_at_call 65; refine hcl.mono ?_; rintro e w2 ⟨rfl, R', vs0, hm, hg⟩; rw [HVN.out] at hm; obtain ⟨hD, ⟨g, cap, hS⟩, hu2, hrow⟩ := HAF.out w2 R' _ (by rw [HAA.out]; rfl) hm hg; have HD := keepH hD; have HS1 := keepH hS; have HU2 := keepH hu2; have HROW := keepH hrow; clear hm hg hD hS hu2 hrow hcl HAF))
  obtain ⟨pa, ca, hvs0⟩ := row_u_slice HROW.out
  have hvs : vs0 = .slice pa vn ca := by rw [HVN.out]; exact hvs0
  clear hvs0
  subst hvs
  obtain ⟨L, hL⟩ : ∃ L, L = l.length := ⟨_, rfl⟩
  have HS0 : Hid (LastAt nm AB g L cap ⟨xth, 5, aa, 0, 0, xvals, 0, false⟩ ⟨xth, 5, xad, xa, xb, xvals, xgot, xok⟩ (.slice pa vn ca) (.slice p vn c) w2) := keepH (by rw [hL]; exact HS1.out)
  have hL1 : L ≤ 1000000000 := by rw [hL]; have := HHL.out; have := HHK.out; omega
  have q9 : IntKind.i64.wrap (L : Int) = (L : Int) := by rw [IntKind.wrap_i64]; omega
  have q7 : (0 : Int) ≤ (L : Int) := by omega
  have q6 : (L : Int) < (L : Int) + 1 := by omega
  have HSM : Hid (∀ m, Calls Tryz.prog 21 #[.agg #[.int .i64 xth, .int .u8 5, .int .u64 (aa : Int), .int .u64 0, .int .u64 0, .slice pa vn ca, .int .u64 0, .bool false], .agg #[.int .i64 xth, .int .u8 5, .int .u64 (xad : Int), .int .u64 (xa : Int), .int .u64 (xb : Int), .slice p vn c, .int .u64 (xgot : Int), .bool xok]] (w2.drewN m) fun e w' => ∃ v, e = .returned v ∧ SameQ ⟨xth, 5, aa, 0, 0, xvals, 0, false⟩ ⟨xth, 5, xad, xa, xb, xvals, xgot, xok⟩ v ∧ Below w2.heap.size w2 w') := keepH (fun m => by
    have hb := below_drewN (Below.refl w2.heap.size w2) m
    have e := s_any ⟨xth, 5, aa, 0, 0, xvals, 0, false⟩ ⟨xth, 5, xad, xa, xb, xvals, xgot, xok⟩ (pa) p (ca) c (w2.drewN m) ((URd.of_row HROW.out).on hb) (HU2.out.on hb) (HVL.out) HVL.out
    simp only at e
    rw [← HVN.out] at e
    refine e.mono ?_
    rintro e w' ⟨v, h1, h2, h3⟩
    exact ⟨v, h1, h2, below_chain hb h3⟩)
  clear hL HS1 a0 a1 a2 a3 a4 a5
  refine wp_region_held_drew (S := LastAt nm AB g L cap ⟨xth, 5, aa, 0, 0, xvals, 0, false⟩ ⟨xth, 5, xad, xa, xb, xvals, xgot, xok⟩ (.slice pa vn ca) (.slice p vn c)) (by kernel_rfl) (HS0.out.on (below_drew1 (Below.refl _ _))) ?_
  intro hHeld
  refine wpAnyH_take (i := 0) (v := ?_) rfl (by kernel_rfl) (by kernel_rfl) (by kernel_rfl) (fun _ _ _ h => h) (Or.inl ⟨by rfl, ?_⟩) hHeld ?_
  rotate_left
  · intro w hSw
    (try dsimp only at hSw)
    go_simp
    try with_reducible rfl
  (try simp only [Act.put]); (try simp only [List.setIfInBounds_toArray]); (try simp only [List.getElem_toArray]); (repeat (first | simp only [List.getElem_cons_succ] | simp only [List.getElem_cons_zero])); (repeat (first | simp only [List.set_cons_succ] | simp only [List.set_cons_zero]))
  refine wpAnyH_take (i := 1) (v := ?_) rfl (by kernel_rfl) (by kernel_rfl) (by kernel_rfl) (fun _ _ _ h => h) (Or.inl ⟨by rfl, ?_⟩) hHeld ?_
  rotate_left
  · intro w hSw
    (try dsimp only at hSw)
    go_simp
    try with_reducible rfl
  (try simp only [Act.put]); (try simp only [List.setIfInBounds_toArray]); (try simp only [List.getElem_toArray]); (repeat (first | simp only [List.getElem_cons_succ] | simp only [List.getElem_cons_zero])); (repeat (first | simp only [List.set_cons_succ] | simp only [List.set_cons_zero]))
  refine wpAnyH_take (i := 2) (v := ?_) rfl (by kernel_rfl) (by kernel_rfl) (by kernel_rfl) (fun _ _ _ h => h) (Or.inl ⟨by rfl, ?_⟩) hHeld ?_
  rotate_left
  · intro w hSw
    (try dsimp only at hSw)
    go_simp
    try with_reducible rfl
  (try simp only [Act.put]); (try simp only [List.setIfInBounds_toArray]); (try simp only [List.getElem_toArray]); (repeat (first | simp only [List.getElem_cons_succ] | simp only [List.getElem_cons_zero])); (repeat (first | simp only [List.set_cons_succ] | simp only [List.set_cons_zero]))
  refine wpAnyH_take (i := 3) (v := ?_) rfl (by kernel_rfl) (by kernel_rfl) (by kernel_rfl) (fun _ _ _ h => h) (Or.inl ⟨by rfl, ?_⟩) hHeld ?_
  rotate_left
  · intro w hSw
    (try dsimp only at hSw)
    have y2 := hSw.c2
    go_simp
    try with_reducible rfl
  (try simp only [Act.put]); (try simp only [List.setIfInBounds_toArray]); (try simp only [List.getElem_toArray]); (repeat (first | simp only [List.getElem_cons_succ] | simp only [List.getElem_cons_zero])); (repeat (first | simp only [List.set_cons_succ] | simp only [List.set_cons_zero]))
  refine wpAnyH_take (i := 4) (v := ?_) rfl (by kernel_rfl) (by kernel_rfl) (by kernel_rfl) (fun _ _ _ h => h) (Or.inl ⟨by rfl, ?_⟩) hHeld ?_
  rotate_left
  · intro w hSw
    (try dsimp only at hSw)
    go_simp
    try with_reducible rfl
  (try simp only [Act.put]); (try simp only [List.setIfInBounds_toArray]); (try simp only [List.getElem_toArray]); (repeat (first | simp only [List.getElem_cons_succ] | simp only [List.getElem_cons_zero])); (repeat (first | simp only [List.set_cons_succ] | simp only [List.set_cons_zero]))
  refine wpAnyH_take (i := 5) (v := ?_) rfl (by kernel_rfl) (by kernel_rfl) (by kernel_rfl) (fun _ _ _ h => h) (Or.inl ⟨by rfl, ?_⟩) hHeld ?_
  rotate_left
  · intro w hSw
    (try dsimp only at hSw)
    go_simp
    try with_reducible rfl
  (try simp only [Act.put]); (try simp only [List.setIfInBounds_toArray]); (try simp only [List.getElem_toArray]); (repeat (first | simp only [List.getElem_cons_succ] | simp only [List.getElem_cons_zero])); (repeat (first | simp only [List.set_cons_succ] | simp only [List.set_cons_zero]))
  refine wpAnyH_take (i := 6) (v := ?_) rfl (by kernel_rfl) (by kernel_rfl) (by kernel_rfl) (fun _ _ _ h => h) (Or.inl ⟨by rfl, ?_⟩) hHeld ?_
  rotate_left
  · intro w hSw
    (try dsimp only at hSw)
    go_simp
    try with_reducible rfl
  (try simp only [Act.put]); (try simp only [List.setIfInBounds_toArray]); (try simp only [List.getElem_toArray]); (repeat (first | simp only [List.getElem_cons_succ] | simp only [List.getElem_cons_zero])); (repeat (first | simp only [List.set_cons_succ] | simp only [List.set_cons_zero]))
  refine wpAnyH_take (i := 7) (v := ?_) rfl (by kernel_rfl) (by kernel_rfl) (by kernel_rfl) (fun _ _ _ h => h) (Or.inl ⟨by rfl, ?_⟩) hHeld ?_
  rotate_left
  · intro w hSw
    (try dsimp only at hSw)
    have y2 := hSw.c2
    go_simp
    try with_reducible rfl
  (try simp only [Act.put]); (try simp only [List.setIfInBounds_toArray]); (try simp only [List.getElem_toArray]); (repeat (first | simp only [List.getElem_cons_succ] | simp only [List.getElem_cons_zero])); (repeat (first | simp only [List.set_cons_succ] | simp only [List.set_cons_zero]))
  refine wpAnyH_take (i := 8) (v := ?_) rfl (by kernel_rfl) (by kernel_rfl) (by kernel_rfl) (fun _ _ _ h => h) (Or.inl ⟨by rfl, ?_⟩) hHeld ?_
  rotate_left
  · intro w hSw
    (try dsimp only at hSw)
    go_simp
    try with_reducible rfl
  (try simp only [Act.put]); (try simp only [List.setIfInBounds_toArray]); (try simp only [List.getElem_toArray]); (repeat (first | simp only [List.getElem_cons_succ] | simp only [List.getElem_cons_zero])); (repeat (first | simp only [List.set_cons_succ] | simp only [List.set_cons_zero]))
  refine wpAnyH_take (i := 9) (v := ?_) rfl (by kernel_rfl) (by kernel_rfl) (by kernel_rfl) (fun _ _ _ h => h) (Or.inl ⟨by rfl, ?_⟩) hHeld ?_
  rotate_left
  · intro w hSw
    (try dsimp only at hSw)
    go_simp
    try with_reducible rfl
  (try simp only [Act.put]); (try simp only [List.setIfInBounds_toArray]); (try simp only [List.getElem_toArray]); (repeat (first | simp only [List.getElem_cons_succ] | simp only [List.getElem_cons_zero])); (repeat (first | simp only [List.set_cons_succ] | simp only [List.set_cons_zero]))
  refine wpAnyH_take (i := 10) (v := ?_) rfl (by kernel_rfl) (by kernel_rfl) (by kernel_rfl) (fun _ _ _ h => h) (Or.inl ⟨by rfl, ?_⟩) hHeld ?_
  rotate_left
  · intro w hSw
    (try dsimp only at hSw)
    go_simp
    try with_reducible rfl
  (try simp only [Act.put]); (try simp only [List.setIfInBounds_toArray]); (try simp only [List.getElem_toArray]); (repeat (first | simp only [List.getElem_cons_succ] | simp only [List.getElem_cons_zero])); (repeat (first | simp only [List.set_cons_succ] | simp only [List.set_cons_zero]))
  refine wpAnyH_take (i := 11) (v := ?_) rfl (by kernel_rfl) (by kernel_rfl) (by kernel_rfl) (fun _ _ _ h => h) (Or.inl ⟨by rfl, ?_⟩) hHeld ?_
  rotate_left
  · intro w hSw
    (try dsimp only at hSw)
    have y0 : w.cell? ⟨g, L * 8, none⟩ = some (.int .i64 xth) := hSw.lc 0 _ rfl
    have y1 : w.cell? ⟨g, L * 8 + 1, none⟩ = some (.int .u8 5) := hSw.lc 1 _ rfl
    have y2 : w.cell? ⟨g, L * 8 + 2, none⟩ = some (.int .u64 (aa : Int)) := hSw.lc 2 _ rfl
    have y3 : w.cell? ⟨g, L * 8 + 3, none⟩ = some (.int .u64 0) := hSw.lc 3 _ rfl
    have y4 : w.cell? ⟨g, L * 8 + 4, none⟩ = some (.int .u64 0) := hSw.lc 4 _ rfl
    have y5 : w.cell? ⟨g, L * 8 + 5, none⟩ = some (.slice pa vn ca) := hSw.lc 5 _ rfl
    have y6 : w.cell? ⟨g, L * 8 + 6, none⟩ = some (.int .u64 0) := hSw.lc 6 _ rfl
    have y7 : w.cell? ⟨g, L * 8 + 7, none⟩ = some (.bool false) := hSw.lc 7 _ rfl
    go_simp
    try with_reducible rfl
  (try simp only [Act.put]); (try simp only [List.setIfInBounds_toArray]); (try simp only [List.getElem_toArray]); (repeat (first | simp only [List.getElem_cons_succ] | simp only [List.getElem_cons_zero])); (repeat (first | simp only [List.set_cons_succ] | simp only [List.set_cons_zero]))
  refine wpAnyH_take (i := 12) (v := ?_) rfl (by kernel_rfl) (by kernel_rfl) (by kernel_rfl) (fun _ _ _ h => h) (Or.inl ⟨by rfl, ?_⟩) hHeld ?_
  rotate_left
  · intro w hSw
    (try dsimp only at hSw)
    have y0 : w.cell? ⟨AB, 0, none⟩ = some (.int .i64 xth) := cell_of hSw.bx 0
    have y1 : w.cell? ⟨AB, 1, none⟩ = some (.int .u8 5) := cell_of hSw.bx 1
    have y2 : w.cell? ⟨AB, 2, none⟩ = some (.int .u64 (xad : Int)) := cell_of hSw.bx 2
    have y3 : w.cell? ⟨AB, 3, none⟩ = some (.int .u64 (xa : Int)) := cell_of hSw.bx 3
    have y4 : w.cell? ⟨AB, 4, none⟩ = some (.int .u64 (xb : Int)) := cell_of hSw.bx 4
    have y5 : w.cell? ⟨AB, 5, none⟩ = some (.slice p vn c) := cell_of hSw.bx 5
    have y6 : w.cell? ⟨AB, 6, none⟩ = some (.int .u64 (xgot : Int)) := cell_of hSw.bx 6
    have y7 : w.cell? ⟨AB, 7, none⟩ = some (.bool xok) := cell_of hSw.bx 7
    go_simp
    try with_reducible rfl
  (try simp only [Act.put]); (try simp only [List.setIfInBounds_toArray]); (try simp only [List.getElem_toArray]); (repeat (first | simp only [List.getElem_cons_succ] | simp only [List.getElem_cons_zero])); (repeat (first | simp only [List.set_cons_succ] | simp only [List.set_cons_zero]))
  refine wpAnyH_ready (rs := [13]) (by kernel_rfl) (by simp) ?_
  refine AllReadyH.cons rfl (fun KK hKK => ?_) AllReadyH.nil
  go_simp
  refine (HSM.out _).mono ?_
  rintro e w5 ⟨v, rfl, hv, h5⟩
  obtain ⟨rr, rfl, hrr⟩ := hv
  have C5 := keepH h5
  clear h5
  refine hKK.out _ _ ?_ (fun hHeld => ?_)
  · exact HS0.out.on C5.out
  clear hKK KK
  (try simp only [Act.put]); (try simp only [List.setIfInBounds_toArray]); (try simp only [List.getElem_toArray]); (repeat (first | simp only [List.getElem_cons_succ] | simp only [List.getElem_cons_zero])); (repeat (first | simp only [List.set_cons_succ] | simp only [List.set_cons_zero]))
  refine wpAnyH_take (i := 14) (v := ?_) rfl (by kernel_rfl) (by kernel_rfl) (by kernel_rfl) (fun _ _ _ h => h) (Or.inl ⟨by rfl, ?_⟩) hHeld ?_
  rotate_left
  · intro w hSw
    (try dsimp only at hSw)
    go_simp
    try with_reducible rfl
  (try simp only [Act.put]); (try simp only [List.setIfInBounds_toArray]); (try simp only [List.getElem_toArray]); (repeat (first | simp only [List.getElem_cons_succ] | simp only [List.getElem_cons_zero])); (repeat (first | simp only [List.set_cons_succ] | simp only [List.set_cons_zero]))
  refine wpAnyH_done (by kernel_rfl) ?_ _
  go_simp
  clear hHeld
  go_wp2_with fail
  go_ret
  exact ⟨.bool rr, by first | rfl | simp, rr, R', rfl, HTL.out rr hrr, HD.out.on C5.out⟩
end Go.Proofs.YtjodechhnobkhaaGreatDoor
