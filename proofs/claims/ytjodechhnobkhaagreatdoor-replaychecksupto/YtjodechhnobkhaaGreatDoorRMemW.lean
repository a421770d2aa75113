/- The document's memory: Alloc. -/
import Derived.Test.YtjodechhnobkhaaGreatDoorRMemV
import Derived.Test.YtjodechhnobkhaaGreatDoorAlloc
namespace Go.Proofs.YtjodechhnobkhaaGreatDoor
open Go.RowKit Go.Shelf
set_option linter.unusedVariables false

theorem RMem.drewN {W : World} {R : Nat → Prop} {nm n next : Nat} {cs : List Nat} {l : List Acc} (h : RMem W R nm n next cs l) (q : Nat) : RMem (W.drewN q) R nm n next cs l := by
  obtain ⟨nc, av, os, h⟩ := h
  exact ⟨nc, av, os, h.kept (Nat.le_refl _) (fun _ _ => rfl)⟩
theorem RMem.grown {W W' : World} {R : Nat → Prop} {nm n next : Nat} {cs : List Nat} {l : List Acc} (h : RMem W R nm n next cs l) (hg : W.grownBy W' none) : RMem W' R nm n next cs l := by
  obtain ⟨nc, av, os, h⟩ := h
  exact ⟨nc, av, os, h.kept hg.size (fun k e => hg.block k (h.lt k e) (by simp))⟩

set_option maxRecDepth 100000 in
theorem r_alloc0 (nm n next : Nat) (th : Int) (p : Option Addr) (c : Nat) (R : Nat → Prop) (cs : List Nat) (l : List Acc) (W : World) (h : RMem W R nm n next cs l) (hnx : next ≤ n) (hl : l.length < 1099511627776) :
    Calls Tryz.prog 65 #[.pointer (some ⟨nm, 0, none⟩), .int .i64 th, .slice p 0 c] W fun e W' => e = .returned (.int .u64 0) ∧ ∃ R' vs, RMem W' R' nm n next cs (l ++ [⟨th, 5, 0, 0, 0, vs, [], 0, false⟩]) ∧ Goes W W' R R' := by
  obtain ⟨i0, hi, hz0, hz1, hz2⟩ := info_parts infoU
  have hrun := fun W ty => run_append_empty (P := Tryz.prog) W 27 ty 42 i0 Tryz.underlying27 hi p c
  have HB := keepH h
  clear h
  go_enter Tryz.func65, Tryz.ntmps65
  go_wp2_with (at_builtin; refine Lib.wpList_append_run _ rfl _ _ 27 27 rfl (.slice none 0 0) (.slice p 0 c) rfl rfl _ _ (hrun _ _) ?_)
  refine (r_noteV none 0 [] nm n next th 5 0 0 0 0 false R cs l _ HB.out hl (World.ownsRow_nil _ _ _ _) (by simp [Value.ownBlock])).mono ?_
  rintro e w' ⟨rfl, R', hR, hC, hN⟩
  have HR := keepH hR
  clear hR
  go_wp2_with fail
  go_ret
  exact ⟨by simp, R', _, HR.out, hC, fun k hk => (hN k hk).imp_right fun e => e.elim id (by simp [Value.ownBlock])⟩
theorem grown_goes {W w1 W' : World} {R R' : Nat → Prop} {v : Value} (hg : W.grownBy w1 none) (hv : v.ownBlock = none ∨ v.ownBlock = some W.heap.size) (hC : Chg R w1 W') (hN : ∀ k, R' k → R k ∨ w1.heap.size ≤ k ∨ v.ownBlock = some k) : Goes W W' R R' := by
  have h1 : Chg R W w1 := ⟨hg.os, hg.tape, hg.output, hg.size, fun k hk _ => hg.block k hk (by simp)⟩
  refine ⟨h1.trans hC (fun _ _ x => x) (fun _ _ x => x), fun k hk => ?_⟩
  rcases hN k hk with e | e | e
  · exact .inl e
  · exact .inr (Nat.le_trans hg.size e)
  · rcases hv with e2 | e2
    · rw [e2] at e; simp at e
    · rw [e2] at e; simp at e; exact .inr (by omega)

set_option maxRecDepth 100000 in
theorem r_alloc1 (nm n next : Nat) (th : Int) (ad : Addr) (c : Nat) (vals : List Nat) (R : Nat → Prop) (cs : List Nat) (l : List Acc) (W : World) (h : RMem W R nm n next cs l) (hnx : next ≤ n) (hl : l.length < 1099511627776)
    (hr : ∀ j u, (vals.map u64V)[j]? = some u → W.cell? (ad.add j) = some u) (h0 : 0 < vals.length) (hno : n - next < vals.length) (hvl : vals.length ≤ 17592186043904) :
    Calls Tryz.prog 65 #[.pointer (some ⟨nm, 0, none⟩), .int .i64 th, .slice (some ad) vals.length c] W fun e W' => e = .returned (.int .u64 0) ∧ ∃ R' vs, RMem W' R' nm n next cs (l ++ [⟨th, 5, 0, 0, 0, vs, vals, 0, false⟩]) ∧ Goes W W' R R' := by
  obtain ⟨i0, hi, hz0, hz1, hz2⟩ := info_parts infoU
  have t0 : (0 : Int) < (vals.length : Int) := by omega
  have t1 : ¬ (vals.length : Int) ≤ ((n - next : Nat) : Int) := by omega
  have t1' : ¬ vals.length ≤ n - next := by omega
  have HB := keepH h
  have HR := keepH hr
  have HLt : Hid (∀ k, R k → k < W.heap.size) := fun k hk => h.lt k hk
  clear h hr
  go_enter Tryz.func65, Tryz.ntmps65
  go_wp2_with fail
  refine (r_left nm n next R cs l _ HB.out hnx).mono ?_
  rintro e w' ⟨rfl, q, rfl⟩
  go_wp2_with (at_builtin; refine wpList_append_own_at _ rfl _ _ 27 rfl 0 42 i0 (.int .u64 0) 1 8 Tryz.underlying27 hi hz0 hz1 hz2 rfl (by decide) (.slice none 0 0) 0 [] rfl (World.ownsRow_nil _ _ _ _) ad vals.length c (vals.map u64V) rfl (by simp) HR.out (by intro u hu; obtain ⟨x, _, rfl⟩ := List.mem_map.1 hu; rfl) (by unfold maxLen; omega) (by omega) (Nat.zero_le _) ?_; intro v w1 h1 h2 h3 h4; obtain ⟨g', c3, rfl⟩ := slice_pos h1 (by omega); have H1 := keepH h1; have H2 := keepH h2; have H4 := keepH h4; clear h1 h2 h3 h4)
  have H1' : w1.ownsRow 0 42 1 (.slice (some ⟨g', 0, none⟩) vals.length c3) vals.length (vals.map u64V) := by simpa using H1.out
  have G1 : (W.drewN q).grownBy w1 none := H2.out
  have V1 : (.slice (some ⟨g', 0, none⟩) vals.length c3 : Value).ownBlock = none ∨ (.slice (some ⟨g', 0, none⟩) vals.length c3 : Value).ownBlock = some (W.drewN q).heap.size := by have e := H4.out; rw [Nat.zero_add] at e; exact e
  have hvR : ∀ k, (.slice (some ⟨g', 0, none⟩) vals.length c3 : Value).ownBlock = some k → ¬ R k := fun k e hk => by
    have := HLt.out k hk
    rcases V1 with e2 | e2 <;> rw [e2] at e <;> simp at e
    have e3 : W.heap.size = k := e
    omega
  refine (r_noteV (some ⟨g', 0, none⟩) c3 vals nm n next th 5 0 0 0 0 false R cs l _ ((HB.out.drewN q).grown G1) hl H1' hvR).mono ?_
  have HG := keepH G1
  have HV1 := keepH V1
  clear H1' G1 V1 hvR H1 H2 H4 HB HR
  rintro e w' ⟨rfl, R', hR, hC, hN⟩
  have HR' := keepH hR
  have HC := keepH hC
  have HN := keepH hN
  clear hR hC hN
  go_wp2_with fail
  go_ret
  exact ⟨by simp, R', _, HR'.out, (Goes.drewN W R q).trans (grown_goes HG.out HV1.out HC.out HN.out)⟩

theorem RMemAt.setNext {W : World} {R : Nat → Prop} {nm nc n next : Nat} {av : Value} {os cs : List Nat} {l : List Acc} (h : RMemAt W R nm nc av n next os cs l) (nx : Nat) : RMemAt (W.setCell ⟨nm, 1, none⟩ (.int .i64 (nx : Int))) R nm nc av n nx os cs l := by
  have ne : nc ≠ nm := fun e => by
    have e1 := h.own
    rw [IsOwn, e, h.blk] at e1
    simp at e1
  have ob : ∀ k, k ≠ nm → (W.setCell ⟨nm, 1, none⟩ (.int .i64 (nx : Int))).heap[k]? = W.heap[k]? := fun k hk => Below.heap_setCell _ _ _ _ hk
  refine ⟨?_, (ob nc ne).trans h.own, h.os, row_kept h.acc fun k e => ob k (fun e2 => block_apart h.acc h.blk (by decide) (by rw [e, e2])), fun x hx => row_kept (h.vals x hx) fun k e => ob k (fun e2 => block_apart (h.vals x hx) h.blk (by decide) (by rw [e, e2])), h.inn, h.inc, h.ina, h.inv, h.ne, fun k e => by simpa [World.setCell] using h.lt k e, h.nn, h.small⟩
  exact set_of h.blk 1 (.int .i64 (nx : Int))
theorem RMemAt.cells {W : World} {R : Nat → Prop} {nm nc n next : Nat} {av : Value} {os cs cs' : List Nat} {l : List Acc} (h : RMemAt W R nm nc av n next os cs l) (hc : ∀ j, cellN cs' j = cellN cs j) : RMemAt W R nm nc av n next os cs' l :=
  ⟨h.blk, h.own, ⟨h.os.1, fun i hi => (h.os.2.1 i hi).trans (hc i).symm, fun i hi => (hc i).trans (h.os.2.2 i hi)⟩, h.acc, h.vals, h.inn, h.inc, h.ina, h.inv, h.ne, h.lt, h.nn, fun i => by rw [hc]; exact h.small i⟩

def PutR (cs csi vals : List Nat) (next i : Nat) : Prop := ∀ j, cellN csi j = if next ≤ j ∧ j < next + i then cellN vals (j - next) else cellN cs j
theorem PutR.zero (cs vals : List Nat) (next : Nat) : PutR cs cs vals next 0 := fun j => by rw [if_neg (by omega)]
theorem PutR.more {cs csi vals : List Nat} {n next i : Nat} (h : PutR cs csi vals next i) (hn : next + i < n) : PutR cs (stN n csi (next + i) (cellN vals i)) vals next (i + 1) := fun j => by
  rw [stN_cell, h j]
  by_cases e : j = next + i
  · subst e
    rw [if_pos ⟨rfl, hn⟩, if_pos (by omega)]
    congr 1
    omega
  · rw [if_neg (fun x => e x.1)]
    by_cases e2 : next ≤ j ∧ j < next + i
    · rw [if_pos e2, if_pos (by omega)]
    · rw [if_neg e2, if_neg (by omega)]
theorem PutR.all {cs csi vals : List Nat} {n next : Nat} (h : PutR cs csi vals next vals.length) (hok : alOk n next vals.length) (j : Nat) : cellN (alN n next cs vals) j = cellN csi j := by
  unfold alN
  rw [if_pos hok, spliceN_cell _ _ _ (by rw [padN_length]; omega), padN_cell, h j]

set_option maxRecDepth 100000 in
theorem r_alloc2 (nm n next : Nat) (th : Int) (ad : Addr) (c : Nat) (vals : List Nat) (R : Nat → Prop) (cs : List Nat) (l : List Acc) (W : World) (h : RMem W R nm n next cs l) (hnx : next ≤ n) (hl : l.length < 1099511627776)
    (hr : ∀ j u, (vals.map u64V)[j]? = some u → W.cell? (ad.add j) = some u) (hap : ¬ R ad.block) (hv : ∀ x ∈ vals, x < 18446744073709551616) (h0 : 0 < vals.length) (hro : vals.length ≤ n - next) :
    Calls Tryz.prog 65 #[.pointer (some ⟨nm, 0, none⟩), .int .i64 th, .slice (some ad) vals.length c] W fun e W' => e = .returned (.int .u64 (next : Int)) ∧ ∃ R' vs, RMem W' R' nm n (next + vals.length) (alN n next cs vals) (l ++ [⟨th, 5, next, 0, 0, vs, vals, 0, false⟩]) ∧ Goes W W' R R' := by
  obtain ⟨i0, hi, hz0, hz1, hz2⟩ := info_parts infoU
  have t0 : (0 : Int) < (vals.length : Int) := by omega
  have t1 : (vals.length : Int) ≤ ((n - next : Nat) : Int) := by omega
  have HB := keepH h
  have HR := keepH hr
  have HLt : Hid (∀ k, R k → k < W.heap.size) := fun k hk => h.lt k hk
  have HV := keepH hv
  have HAP := keepH hap
  obtain ⟨nc, av, os, h⟩ := h
  have nn := h.nn
  have c1 : W.cell? ⟨nm, 1, none⟩ = some (.int .i64 (next : Int)) := cell_of h.blk 1
  have f1 := free_of h.blk 1
  obtain ⟨nx, hnx2⟩ : ∃ nx, nx = next + vals.length := ⟨_, rfl⟩
  have wn : IntKind.i64.wrap ((next : Int) + (vals.length : Int)) = (nx : Int) := by rw [IntKind.wrap_i64]; omega
  have wm : IntKind.u64.wrap (next : Int) = (next : Int) := u64_lt (by omega)
  have H0 := keepH h
  have HNX := keepH hnx2
  have hle : next + vals.length ≤ n := by omega
  have hin : Hid (R nm) := h.inn
  have hic : Hid (R nc) := h.inc
  clear h hr hv hap hnx2
  go_enter Tryz.func65, Tryz.ntmps65
  go_wp2_with fail
  refine (r_left nm n next R cs l _ HB.out hnx).mono ?_
  rintro e w' ⟨rfl, q, rfl⟩
  go_wp2_with fail
  obtain ⟨X, hX⟩ : ∃ X, X = (W.drewN q).setCell ⟨nm, 1, none⟩ (.int .i64 (nx : Int)) := ⟨_, rfl⟩
  have HX : Hid (RMemAt X R nm nc av n nx os cs l) := by rw [hX]; exact (H0.out.kept (W' := W.drewN q) (Nat.le_refl _) (fun _ _ => rfl)).setNext nx
  have CX : Hid (Chg R W X) := by rw [hX]; exact ((Goes.drewN W R q).chg).setCell (p := ⟨nm, 1, none⟩) (fun _ => hin.out) _
  try rw [← hX]
  clear hX c1 f1 H0 HB
  go_loopw [8] (fun sv wr => ∃ (i : Nat), i ≤ vals.length ∧ sv = .int .i64 (i : Int) ∧ Hid (∃ osi csi, RMemAt wr R nm nc av n nx osi csi l ∧ PutR cs csi vals next i) ∧ Hid (Chg R W wr)) (fun sv _ => vals.length - (intOf sv).toNat)
  case atStart => exact ⟨0, by omega, rfl, ⟨os, cs, HX.out, PutR.zero _ _ _⟩, CX⟩
  case round =>
    obtain ⟨i, hil, rfl, HM, HCh⟩ := hrel
    by_cases hlt : i < vals.length
    · have q1 : (i : Int) < (vals.length : Int) := by omega
      obtain ⟨osi, csi, M, P⟩ := HM.out
      have k0 : wr.cell? ⟨nm, 0, none⟩ = some (.slice (some ⟨nc, 0, none⟩) n n) := cell_of M.blk 0
      have kc := M.own.cell (next + i) (by rw [M.os.1]; omega)
      have kf := free_of M.own (next + i)
      have kv : wr.cell? (ad.add i) = some (.int .u64 (cellN vals i : Int)) := cell_chg HCh.out (HR.out i _ (by simp [cellN, u64V, List.getElem?_eq_getElem hlt])) (by rw [add_block]; exact HAP.out)
      have wi : IntKind.i64.wrap ((next : Int) + (i : Int)) = ((next + i : Nat) : Int) := by rw [IntKind.wrap_i64]; omega
      have wb : ((next + i : Nat) : Int) < (n : Int) := by omega
      have hM := keepH M
      have hP := keepH P
      clear M P
      go_wp2_with fail
      go_region
      all_goals (go_wp2_with fail)
      have hput := hM.out.put (next + i) (cellN vals i) (by omega) (HV.out _ (by simp [cellN, List.getElem?_eq_getElem hlt]))
      exact ⟨⟨i + 1, by omega, by simp, ⟨_, _, hput.1.kept (Nat.le_refl _) (fun _ _ => rfl), hP.out.more (by omega)⟩, (HCh.out.trans hput.2.chg (fun _ _ x => x) (fun _ _ x => x)).drew⟩, by simp [intOf]; omega⟩
    · have q1 : ¬ (i : Int) < (vals.length : Int) := by omega
      obtain rfl : i = vals.length := by omega
      have hsrc : Hid (∀ j u, (vals.map u64V)[j]? = some u → wr.cell? (ad.add j) = some u) := fun j u hj => cell_chg HCh.out (HR.out j u hj) (by rw [add_block]; exact HAP.out)
      have hwl : Hid (∀ k, R k → k < wr.heap.size) := fun k hk => Nat.lt_of_lt_of_le (HLt.out k hk) HCh.out.size
      clear HR HLt
      go_wp2_with (at_builtin; refine wpList_append_own_at _ rfl _ _ 27 rfl 0 42 i0 (.int .u64 0) 1 8 Tryz.underlying27 hi hz0 hz1 hz2 rfl (by decide) (.slice none 0 0) 0 [] rfl (World.ownsRow_nil _ _ _ _) ad vals.length c (vals.map u64V) rfl (by simp) hsrc.out (by intro u hu; obtain ⟨x, _, rfl⟩ := List.mem_map.1 hu; rfl) (by unfold maxLen; omega) (by omega) (Nat.zero_le _) ?_; intro v w1 h1 h2 h3 h4; obtain ⟨g', c3, rfl⟩ := slice_pos h1 (by omega); have H1 := keepH h1; have H2 := keepH h2; have H4 := keepH h4; clear h1 h2 h3 h4)
      have H1' : w1.ownsRow 0 42 1 (.slice (some ⟨g', 0, none⟩) vals.length c3) vals.length (vals.map u64V) := by simpa using H1.out
      have G1 : wr.grownBy w1 none := H2.out
      have V1 : (.slice (some ⟨g', 0, none⟩) vals.length c3 : Value).ownBlock = none ∨ (.slice (some ⟨g', 0, none⟩) vals.length c3 : Value).ownBlock = some wr.heap.size := by have e := H4.out; rw [Nat.zero_add] at e; exact e
      have hvR : ∀ k, (.slice (some ⟨g', 0, none⟩) vals.length c3 : Value).ownBlock = some k → ¬ R k := fun k e hk => by
        have := hwl.out k hk
        rcases V1 with e2 | e2 <;> rw [e2] at e <;> simp at e
        have e3 : wr.heap.size = k := e
        omega
      have hm : RMem wr R nm n nx (alN n next cs vals) l := by
        obtain ⟨osi, csi, M, P⟩ := HM.out
        exact ⟨nc, av, osi, M.cells (fun j => P.all ⟨h0, hro⟩ j)⟩
      refine (r_noteV (some ⟨g', 0, none⟩) c3 vals nm n nx th 5 next 0 0 0 false R (alN n next cs vals) l _ (hm.grown G1) hl H1' hvR).mono ?_
      have HG := keepH G1
      have HV1 := keepH V1
      clear H1' G1 V1 hvR H1 H2 H4 hm HM hsrc HX
      rintro e w' ⟨rfl, R', hR, hC, hN⟩
      have HR' := keepH hR
      have HC := keepH hC
      have HN := keepH hN
      clear hR hC hN
      go_wp2_with fail
      go_ret
      have G3 : Goes W wr R R := ⟨HCh.out, fun _ h => .inl h⟩
      exact ⟨by simp, R', _, by rw [← HNX.out]; exact HR'.out, G3.trans (grown_goes HG.out HV1.out HC.out HN.out)⟩

theorem r_alloc (nm n next : Nat) (th : Int) (p : Option Addr) (c : Nat) (vals : List Nat) (R : Nat → Prop) (cs : List Nat) (l : List Acc) (W : World) (h : RMem W R nm n next cs l) (hnx : next ≤ n) (hl : l.length < 1099511627776)
    (hr : Reads W p vals) (hap : ∀ ad, p = some ad → vals ≠ [] → ¬ R ad.block) (hv : ∀ x ∈ vals, x < 18446744073709551616) (hvl : vals.length ≤ 17592186043904) :
    Calls Tryz.prog 65 #[.pointer (some ⟨nm, 0, none⟩), .int .i64 th, .slice p vals.length c] W fun e W' => e = .returned (.int .u64 (alAt n next vals.length : Int)) ∧ ∃ R' vs, RMem W' R' nm n (alNext n next vals.length) (alN n next cs vals) (l ++ [⟨th, 5, alAt n next vals.length, 0, 0, vs, vals, 0, false⟩]) ∧ Goes W W' R R' := by
  by_cases h1 : vals = []
  · subst h1
    have e0 : ¬ alOk n next ([] : List Nat).length := by simp [alOk]
    have e1 : alAt n next ([] : List Nat).length = 0 := by rw [alAt, if_neg e0]
    have e2 : alNext n next ([] : List Nat).length = next := by rw [alNext, if_neg e0]
    have e3 : alN n next cs [] = cs := by rw [alN, if_neg e0]
    rw [e1, e2, e3]
    exact r_alloc0 nm n next th p c R cs l W h hnx hl
  · have h0 : 0 < vals.length := List.length_pos_iff.2 h1
    obtain ⟨ad, rfl, hrd⟩ : ∃ ad, p = some ad ∧ ∀ j u, (vals.map u64V)[j]? = some u → W.cell? (ad.add j) = some u := by
      rcases hr with hr | hr
      · exact absurd hr h1
      · exact hr
    by_cases h2 : vals.length ≤ n - next
    · have e0 : alOk n next vals.length := ⟨h0, h2⟩
      have e1 : alAt n next vals.length = next := by rw [alAt, if_pos e0]
      have e2 : alNext n next vals.length = next + vals.length := by rw [alNext, if_pos e0]
      rw [e1, e2]
      exact r_alloc2 nm n next th ad c vals R cs l W h hnx hl hrd (hap ad rfl h1) hv h0 h2
    · have e0 : ¬ alOk n next vals.length := fun e => h2 e.2
      have e1 : alAt n next vals.length = 0 := by rw [alAt, if_neg e0]
      have e2 : alNext n next vals.length = next := by rw [alNext, if_neg e0]
      have e3 : alN n next cs vals = cs := by rw [alN, if_neg e0]
      rw [e1, e2, e3]
      exact r_alloc1 nm n next th ad c vals R cs l W h hnx hl hrd h0 (by omega) hvl
end Go.Proofs.YtjodechhnobkhaaGreatDoor
