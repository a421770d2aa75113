/- The document's memory: Peek, Load, Store, Cas, New. -/
import Derived.Test.YtjodechhnobkhaaGreatDoorRMem
namespace Go.Proofs.YtjodechhnobkhaaGreatDoor
open Go.RowKit Go.Shelf
set_option linter.unusedVariables false

theorem RMemAt.put {W : World} {R : Nat → Prop} {nm nc n next : Nat} {av : Value} {os cs : List Nat} {l : List Acc} (h : RMemAt W R nm nc av n next os cs l) (i v : Nat) (hi : i < n) (hv : v < 18446744073709551616) : RMemAt (W.setCell ⟨nc, i, none⟩ (.int .u64 (v : Int))) R nm nc av n next (os.set i v) (stN n cs i v) l ∧ Goes W (W.setCell ⟨nc, i, none⟩ (.int .u64 (v : Int))) R R := by
  have ne : nm ≠ nc := fun e => by
    have e1 := h.own
    rw [IsOwn, ← e, h.blk] at e1
    simp at e1
  refine ⟨⟨other_of h.blk ne _, h.own.set i v, h.os.set hi, row_kept h.acc fun k e => Below.heap_setCell _ _ _ _ (fun e2 => block_apart h.acc h.own (by decide) (by rw [e, e2])), fun x hx => row_kept (h.vals x hx) fun k e => Below.heap_setCell _ _ _ _ (fun e2 => h.ne x hx (by rw [e, e2])), h.inn, h.inc, h.ina, h.inv, h.ne, fun k e => by have := h.lt k e; simpa [World.setCell] using this, h.nn, fun j => ?_⟩, ⟨(Chg.refl R W).setCell (p := ⟨nc, i, none⟩) (fun _ => h.inc) _, fun k e => .inl e⟩⟩
  rw [stN_cell]
  split
  · exact hv
  · exact h.small j

theorem RMemAt.out {W : World} {R : Nat → Prop} {nm nc n next : Nat} {av : Value} {os cs : List Nat} {l : List Acc} (h : RMemAt W R nm nc av n next os cs l) (i : Nat) (hi : n ≤ i) : cellN cs i = 0 := h.os.2.2 i hi

set_option maxRecDepth 100000 in
theorem r_peek (nm n next addr : Nat) (R : Nat → Prop) (cs : List Nat) (l : List Acc) (W : World) (h : RMem W R nm n next cs l) (ha : addr < 18446744073709551616) :
    Calls Tryz.prog 74 #[.pointer (some ⟨nm, 0, none⟩), .int .u64 (addr : Int)] W fun e W' => e = .returned (.int .u64 (cellN cs addr : Int)) ∧ W' = W := by
  obtain ⟨nc, av, os, h⟩ := h
  have c0 : W.cell? ⟨nm, 0, none⟩ = some (.slice (some ⟨nc, 0, none⟩) n n) := cell_of h.blk 0
  have nn := h.nn
  have wn : IntKind.u64.wrap (n : Int) = (n : Int) := u64_lt (by omega)
  by_cases hi : addr < n
  · have t1 : (addr : Int) < (n : Int) := by omega
    have cx := h.own.cell addr (by rw [h.os.1]; exact hi)
    rw [h.os.2.1 _ hi] at cx
    clear h
    go_enter Tryz.func74, Tryz.ntmps74
    go_wp2_with fail
    go_ret
    exact ⟨by simp, rfl⟩
  · have t1 : ¬ (addr : Int) < (n : Int) := by omega
    have e0 := h.out addr (by omega)
    clear h
    go_enter Tryz.func74, Tryz.ntmps74
    go_wp2_with fail
    go_ret
    exact ⟨by simp, rfl⟩

set_option maxRecDepth 100000 in
theorem r_set (nm n next addr v : Nat) (R : Nat → Prop) (cs : List Nat) (l : List Acc) (W : World) (h : RMem W R nm n next cs l) (ha : addr < 18446744073709551616) (hv : v < 18446744073709551616) :
    Calls Tryz.prog 76 #[.pointer (some ⟨nm, 0, none⟩), .int .u64 (addr : Int), .int .u64 (v : Int)] W fun e W' => e = .returned (.tuple #[]) ∧ RMem W' R nm n next (stN n cs addr v) l ∧ Goes W W' R R := by
  obtain ⟨nc, av, os, h⟩ := h
  have c0 : W.cell? ⟨nm, 0, none⟩ = some (.slice (some ⟨nc, 0, none⟩) n n) := cell_of h.blk 0
  have nn := h.nn
  have wn : IntKind.u64.wrap (n : Int) = (n : Int) := u64_lt (by omega)
  have H := keepH h
  by_cases hi : addr < n
  · have t1 : (addr : Int) < (n : Int) := by omega
    have cx := h.own.cell addr (by rw [h.os.1]; exact hi)
    have fx := free_of h.own addr
    clear h
    go_enter Tryz.func76, Tryz.ntmps76
    go_wp2_with fail
    go_end0
    exact ⟨rfl, ⟨nc, av, _, (H.out.put addr v hi hv).1⟩, (H.out.put addr v hi hv).2⟩
  · have t1 : ¬ (addr : Int) < (n : Int) := by omega
    have e0 : stN n cs addr v = cs := by simp [stN, hi]
    clear h
    go_enter Tryz.func76, Tryz.ntmps76
    go_wp2_with fail
    go_end0
    exact ⟨rfl, ⟨nc, av, os, H.out⟩, Goes.refl _ _⟩

set_option maxRecDepth 100000 in
theorem r_load (nm n next addr : Nat) (th : Int) (R : Nat → Prop) (cs : List Nat) (l : List Acc) (W : World) (h : RMem W R nm n next cs l) (hl : l.length < 1099511627776) (ha : addr < 18446744073709551616) :
    Calls Tryz.prog 61 #[.pointer (some ⟨nm, 0, none⟩), .int .i64 th, .int .u64 (addr : Int)] W fun e W' => e = .returned (.int .u64 (cellN cs addr : Int)) ∧ ∃ R', RMem W' R' nm n next cs (l ++ [⟨th, 1, addr, 0, 0, .slice none 0 0, [], cellN cs addr, false⟩]) ∧ Goes W W' R R' := by
  have H := keepH h
  clear h
  go_enter Tryz.func61, Tryz.ntmps61
  go_wp2_with fail
  refine (r_peek nm n next addr R cs l _ H.out ha).mono ?_
  rintro e w1 ⟨rfl, rfl⟩
  go_wp2_with fail
  refine (r_note nm n next th 1 addr 0 0 (cellN cs addr) false R cs l _ H.out hl).mono ?_
  rintro e w2 ⟨rfl, R2, M2, G2⟩
  have HM2 := keepH M2
  have HG2 := keepH G2
  clear M2 G2
  go_wp2_with fail
  go_ret
  exact ⟨by simp, R2, HM2.out, HG2.out⟩

set_option maxRecDepth 100000 in
theorem r_store (nm n next addr v : Nat) (th : Int) (R : Nat → Prop) (cs : List Nat) (l : List Acc) (W : World) (h : RMem W R nm n next cs l) (hl : l.length < 1099511627776) (ha : addr < 18446744073709551616) (hv : v < 18446744073709551616) :
    Calls Tryz.prog 62 #[.pointer (some ⟨nm, 0, none⟩), .int .i64 th, .int .u64 (addr : Int), .int .u64 (v : Int)] W fun e W' => e = .returned (.tuple #[]) ∧ ∃ R', RMem W' R' nm n next (stN n cs addr v) (l ++ [⟨th, 2, addr, v, 0, .slice none 0 0, [], 0, false⟩]) ∧ Goes W W' R R' := by
  have H := keepH h
  clear h
  go_enter Tryz.func62, Tryz.ntmps62
  go_wp2_with fail
  refine (r_set nm n next addr v R cs l _ H.out ha hv).mono ?_
  rintro e w1 ⟨rfl, M1, G1⟩
  have HM1 := keepH M1
  have HG1 := keepH G1
  clear M1 G1
  go_wp2_with fail
  refine (r_note nm n next th 2 addr v 0 0 false R _ l _ HM1.out hl).mono ?_
  rintro e w2 ⟨rfl, R2, M2, G2⟩
  have HM2 := keepH M2
  have HG2 := keepH (HG1.out.trans G2)
  clear M2 G2
  go_wp2_with fail
  go_end0
  exact ⟨rfl, R2, HM2.out, HG2.out⟩

theorem casN_stN (n : Nat) (cs : List Nat) (addr old now : Nat) (h : addr < n) (he : cellN cs addr = old) : casN n cs addr old now = stN n cs addr now := by simp [casN, stN, h, he]

set_option maxRecDepth 100000 in
set_option maxHeartbeats 4000000 in
theorem r_cas (nm n next addr old now : Nat) (th : Int) (R : Nat → Prop) (cs : List Nat) (l : List Acc) (W : World) (h : RMem W R nm n next cs l) (hl : l.length < 1099511627776) (ha : addr < 18446744073709551616) (hv : now < 18446744073709551616) :
    Calls Tryz.prog 63 #[.pointer (some ⟨nm, 0, none⟩), .int .i64 th, .int .u64 (addr : Int), .int .u64 (old : Int), .int .u64 (now : Int)] W fun e W' => e = .returned (.bool (casOk n cs addr old)) ∧ ∃ R', RMem W' R' nm n next (casN n cs addr old now) (l ++ [⟨th, 3, addr, old, now, .slice none 0 0, [], 0, casOk n cs addr old⟩]) ∧ Goes W W' R R' := by
  have H := keepH h
  obtain ⟨nc, av, os, h⟩ := h
  have c0 : W.cell? ⟨nm, 0, none⟩ = some (.slice (some ⟨nc, 0, none⟩) n n) := cell_of h.blk 0
  have nn := h.nn
  have wn : IntKind.u64.wrap (n : Int) = (n : Int) := u64_lt (by omega)
  by_cases hi : addr < n
  · have t1 : (addr : Int) < (n : Int) := by omega
    have cx := h.own.cell addr (by rw [h.os.1]; exact hi)
    rw [h.os.2.1 _ hi] at cx
    by_cases he : cellN cs addr = old
    · have k1 : casOk n cs addr old = true := by simp [casOk, hi, he]
      have k2 := casN_stN n cs addr old now hi he
      rw [k1, k2]
      rw [he] at cx
      clear h he k1 k2
      go_enter Tryz.func63, Tryz.ntmps63
      go_wp2_with fail
      refine (r_set nm n next addr now R cs l _ H.out ha hv).mono ?_
      rintro e w1 ⟨rfl, M1, G1⟩
      have HM1 := keepH M1
      have HG1 := keepH G1
      clear M1 G1
      go_wp2_with fail
      refine (r_note nm n next th 3 addr old now 0 true R _ l _ HM1.out hl).mono ?_
      rintro e w2 ⟨rfl, R2, M2, G2⟩
      have HM2 := keepH M2
      have HG2 := keepH (HG1.out.trans G2)
      clear M2 G2
      go_wp2_with fail
      go_ret
      exact ⟨by simp, R2, HM2.out, HG2.out⟩
    · have k1 : casOk n cs addr old = false := by simp [casOk, he]
      have k2 : casN n cs addr old now = cs := by simp [casN, he]
      rw [k1, k2]
      have t2 : ((cellN cs addr : Int) == (old : Int)) = false := beq_eq_false_iff_ne.2 (by omega)
      obtain ⟨d, hd⟩ : ∃ d, d = cellN cs addr := ⟨_, rfl⟩
      rw [← hd] at cx t2
      clear h he k1 k2 hd
      go_enter Tryz.func63, Tryz.ntmps63
      go_wp2_with fail
      refine (r_note nm n next th 3 addr old now 0 false R cs l _ H.out hl).mono ?_
      rintro e w2 ⟨rfl, R2, M2, G2⟩
      have HM2 := keepH M2
      have HG2 := keepH G2
      clear M2 G2
      go_wp2_with fail
      go_ret
      exact ⟨by simp, R2, HM2.out, HG2.out⟩
  · have t1 : ¬ (addr : Int) < (n : Int) := by omega
    have k1 : casOk n cs addr old = false := by simp [casOk, hi]
    have k2 : casN n cs addr old now = cs := by simp [casN, hi]
    rw [k1, k2]
    clear h k1 k2
    go_enter Tryz.func63, Tryz.ntmps63
    go_wp2_with fail
    refine (r_note nm n next th 3 addr old now 0 false R cs l _ H.out hl).mono ?_
    rintro e w2 ⟨rfl, R2, M2, G2⟩
    have HM2 := keepH M2
    have HG2 := keepH G2
    clear M2 G2
    go_wp2_with fail
    go_ret
    exact ⟨by simp, R2, HM2.out, HG2.out⟩

set_option maxRecDepth 100000 in
theorem r_new (n : Nat) (W : World) (hn : 128 ≤ n ∧ n ≤ 4194304) :
    Calls Tryz.prog 33 #[.int .i64 (n : Int), .bool false] W fun e W' => e = .returned (.tuple #[.pointer (some ⟨W.heap.size + 1, 0, none⟩), .int .i64 0]) ∧ RMem W' (fun k => k = W.heap.size ∨ k = W.heap.size + 1) (W.heap.size + 1) n 1 [] [] ∧ Chg (fun _ => False) W W' ∧ W'.heap.size = W.heap.size + 2 := by
  have t1 : ¬ (n : Int) < 128 := by omega
  have t2 : ¬ (4194304 : Int) < (n : Int) := by omega
  obtain ⟨w3, hmk, hO3, hC3, hS3⟩ := make_u64s n hn.2 W
  have HO3 := keepH hO3
  have HC3 := keepH hC3
  have HS3 := keepH hS3
  clear hO3 hC3
  go_enter Tryz.func33, Tryz.ntmps33
  go_wp2_with fail
  go_ret2
  have hs := HS3.out
  have eN := heap_alloc_new w3 (.cells (rmCells W.heap.size n 1 (.slice none 0 0)) 54)
  rw [hs] at eN
  refine ⟨by simp, ⟨W.heap.size, .slice none 0 0, List.replicate n 0, eN, (Below.heap_alloc _ _ _ (by omega)).trans HO3.out, own_zero n, World.ownsRow_nil _ _ _ _, fun x hx => by simp at hx, .inr rfl, .inl rfl, fun k e => by simp [Value.ownBlock] at e, fun x hx => by simp at hx, fun x hx => by simp at hx, fun k e => by simp; omega, hn, fun i => by simp [cellN]⟩, HC3.out.alloc _, by simp [hs]⟩
end Go.Proofs.YtjodechhnobkhaaGreatDoor
