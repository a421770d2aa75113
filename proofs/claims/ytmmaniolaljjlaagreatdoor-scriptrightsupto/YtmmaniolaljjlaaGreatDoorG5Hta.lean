/- The document's memory: Alloc. -/
import Derived.Test.YtmmaniolaljjlaaGreatDoorG4RMemV
import Derived.Laws.MakeOwn
import Derived.Lib.ItoaMem
import Derived.Lib.ItoaLen
import Derived.Lib.AtoiAll
import Derived.Lib.Bytealg
import Derived.Lib.Split
import Derived.Lib.SplitLaws
namespace Go.Proofs.YtmmaniolaljjlaaGreatDoor
open Go.RowKit Go.Shelf
set_option linter.unusedVariables false

theorem RMem.drewN {W : World} {R : Nat → Prop} {nm n next : Nat} {cs : List Nat} {l : List Acc} (h : RMem W R nm n next cs l) (q : Nat) : RMem (W.drewN q) R nm n next cs l := by
  obtain ⟨nc, av, os, h⟩ := h
  exact ⟨nc, av, os, h.kept (Nat.le_refl _) (fun _ _ => rfl)⟩
theorem RMem.grown {W W' : World} {R : Nat → Prop} {nm n next : Nat} {cs : List Nat} {l : List Acc} (h : RMem W R nm n next cs l) (hg : W.grownBy W' none) : RMem W' R nm n next cs l := by
  obtain ⟨nc, av, os, h⟩ := h
  exact ⟨nc, av, os, h.kept hg.size (fun k e => hg.block k (h.lt k e) (by simp))⟩

set_option maxRecDepth 100000 in
theorem r_alloc0 (nm n next : Nat) (th : Int) (p : Option Addr) (c : Nat) (R : Nat → Prop) (cs : List Nat) (l : List Acc) (W : World) (h : RMem W R nm n next cs l) (hnx : next ≤ n) (hl : l.length < 1099511627776) :
    Calls Tryz.prog 111 #[.pointer (some ⟨nm, 0, none⟩), .int .i64 th, .slice p 0 c] W fun e W' => e = .returned (.int .u64 0) ∧ ∃ R' vs, RMem W' R' nm n next cs (l ++ [⟨th, 5, 0, 0, 0, vs, [], 0, false⟩]) ∧ Goes W W' R R' := by
  obtain ⟨i0, hi, hz0, hz1, hz2⟩ := info_parts infoU
  have hrun := fun W ty => run_append_empty (P := Tryz.prog) W 26 ty 23 i0 Tryz.underlying26 hi p c
  have HB := keepH h
  clear h
  go_enter Tryz.func111, Tryz.ntmps111
  go_wp2_with (at_builtin; refine Lib.wpList_append_run _ rfl _ _ 26 26 rfl (.slice none 0 0) (.slice p 0 c) rfl rfl _ _ (hrun _ _) ?_)
  refine (r_noteV none 0 [] nm n next th 5 0 0 0 0 false R cs l _ HB.out hl (World.ownsRow_nil _ _ _ _) (by simp [Value.ownBlock])).mono ?_
  rintro e w' ⟨rfl, R', hR, hC, hN⟩
  have HR := keepH hR
  clear hR
  go_wp2_with fail
  go_ret
  exact ⟨by simp, R', _, HR.out, hC, fun k hk => (hN k hk).imp_right fun e => e.elim id (by simp [Value.ownBlock])⟩
theorem grown_goes {W w1 W' : World} {R R' : Nat → Prop} {v : Value} (hg : W.grownBy w1 none) (hv : v.ownBlock = none ∨ v.ownBlock = some W.heap.size) (hC : Chg R w1 W') (hN : ∀ k, R' k → R k ∨ w1.heap.size ≤ k ∨ v.ownBlock = some k) : Goes W W' R R' := by
  have h1 : Chg R W w1 := ⟨hg.os, hg.tape, hg.output, hg.size, fun k hk _ => hg.block k hk (by simp)⟩
  refine ⟨h1.trans hC (fun _ _ x => x) (fun _ _ x => x), fun k hk => ?_⟩
  rcases hN k hk with e | e | e
  · exact .inl e
  · exact .inr (Nat.le_trans hg.size e)
  · rcases hv with e2 | e2
    · rw [e2] at e; simp at e
    · rw [e2] at e; simp at e; exact .inr (by omega)

set_option maxRecDepth 100000 in
theorem r_alloc1 (nm n next : Nat) (th : Int) (ad : Addr) (c : Nat) (vals : List Nat) (R : Nat → Prop) (cs : List Nat) (l : List Acc) (W : World) (h : RMem W R nm n next cs l) (hnx : next ≤ n) (hl : l.length < 1099511627776)
    (hr : ∀ j u, (vals.map u64V)[j]? = some u → W.cell? (ad.add j) = some u) (h0 : 0 < vals.length) (hno : n - next < vals.length) (hvl : vals.length ≤ 17592186043904) :
    Calls Tryz.prog 111 #[.pointer (some ⟨nm, 0, none⟩), .int .i64 th, .slice (some ad) vals.length c] W fun e W' => e = .returned (.int .u64 0) ∧ ∃ R' vs, RMem W' R' nm n next cs (l ++ [⟨th, 5, 0, 0, 0, vs, vals, 0, false⟩]) ∧ Goes W W' R R' := by
  obtain ⟨i0, hi, hz0, hz1, hz2⟩ := info_parts infoU
  have t0 : (0 : Int) < (vals.length : Int) := by omega
  have t1 : ¬ (vals.length : Int) ≤ ((n - next : Nat) : Int) := by omega
  have t1' : ¬ vals.length ≤ n - next := by omega
  have HB := keepH h
  have HR := keepH hr
  have HLt : Hid (∀ k, R k → k < W.heap.size) := fun k hk => h.lt k hk
  clear h hr
  go_enter Tryz.func111, Tryz.ntmps111
  go_wp2_with fail
  refine (r_left nm n next R cs l _ HB.out hnx).mono ?_
  rintro e w' ⟨rfl, q, rfl⟩
  go_wp2_with (at_builtin; refine wpList_append_own_at _ rfl _ _ 26 rfl 0 23 i0 (.int .u64 0) 1 8 Tryz.underlying26 hi hz0 hz1 hz2 rfl (by decide) (.slice none 0 0) 0 [] rfl (World.ownsRow_nil _ _ _ _) ad vals.length c (vals.map u64V) rfl (by simp) HR.out (by intro u hu; obtain ⟨x, _, rfl⟩ := List.mem_map.1 hu; rfl) (by unfold maxLen; omega) (by omega) (Nat.zero_le _) ?_; intro v w1 h1 h2 h3 h4; obtain ⟨g', c3, rfl⟩ := slice_pos h1 (by omega); have H1 := keepH h1; have H2 := keepH h2; have H4 := keepH h4; clear h1 h2 h3 h4)
  have H1' : w1.ownsRow 0 23 1 (.slice (some ⟨g', 0, none⟩) vals.length c3) vals.length (vals.map u64V) := by simpa using H1.out
  have G1 : (W.drewN q).grownBy w1 none := H2.out
  have V1 : (.slice (some ⟨g', 0, none⟩) vals.length c3 : Value).ownBlock = none ∨ (.slice (some ⟨g', 0, none⟩) vals.length c3 : Value).ownBlock = some (W.drewN q).heap.size := by have e := H4.out; rw [Nat.zero_add] at e; exact e
  have hvR : ∀ k, (.slice (some ⟨g', 0, none⟩) vals.length c3 : Value).ownBlock = some k → ¬ R k := fun k e hk => by
    have := HLt.out k hk
    rcases V1 with e2 | e2 <;> rw [e2] at e <;> simp at e
    have e3 : W.heap.size = k := e
    omega
  refine (r_noteV (some ⟨g', 0, none⟩) c3 vals nm n next th 5 0 0 0 0 false R cs l _ ((HB.out.drewN q).grown G1) hl H1' hvR).mono ?_
  have HG := keepH G1
  have HV1 := keepH V1
  clear H1' G1 V1 hvR H1 H2 H4 HB HR
  rintro e w' ⟨rfl, R', hR, hC, hN⟩
  have HR' := keepH hR
  have HC := keepH hC
  have HN := keepH hN
  clear hR hC hN
  go_wp2_with fail
  go_ret
  exact ⟨by simp, R', _, HR'.out, (Goes.drewN W R q).trans (grown_goes HG.out HV1.out HC.out HN.out)⟩

theorem RMemAt.setNext {W : World} {R : Nat → Prop} {nm nc n next : Nat} {av : Value} {os cs : List Nat} {l : List Acc} (h : RMemAt W R nm nc av n next os cs l) (nx : Nat) : RMemAt (W.setCell ⟨nm, 1, none⟩ (.int .i64 (nx : Int))) R nm nc av n nx os cs l := by
  have ne : nc ≠ nm := fun e => by
    have e1 := h.own
    rw [IsOwn, e, h.blk] at e1
    simp at e1
  have ob : ∀ k, k ≠ nm → (W.setCell ⟨nm, 1, none⟩ (.int .i64 (nx : Int))).heap[k]? = W.heap[k]? := fun k hk => Below.heap_setCell _ _ _ _ hk
  refine ⟨?_, (ob nc ne).trans h.own, h.os, row_kept h.acc fun k e => ob k (fun e2 => block_apart h.acc h.blk (by decide) (by rw [e, e2])), fun x hx => row_kept (h.vals x hx) fun k e => ob k (fun e2 => block_apart (h.vals x hx) h.blk (by decide) (by rw [e, e2])), h.inn, h.inc, h.ina, h.inv, h.ne, fun k e => by simpa [World.setCell] using h.lt k e, h.nn, h.small⟩
  exact set_of h.blk 1 (.int .i64 (nx : Int))
theorem RMemAt.cells {W : World} {R : Nat → Prop} {nm nc n next : Nat} {av : Value} {os cs cs' : List Nat} {l : List Acc} (h : RMemAt W R nm nc av n next os cs l) (hc : ∀ j, cellN cs' j = cellN cs j) : RMemAt W R nm nc av n next os cs' l :=
  ⟨h.blk, h.own, ⟨h.os.1, fun i hi => (h.os.2.1 i hi).trans (hc i).symm, fun i hi => (hc i).trans (h.os.2.2 i hi)⟩, h.acc, h.vals, h.inn, h.inc, h.ina, h.inv, h.ne, h.lt, h.nn, fun i => by rw [hc]; exact h.small i⟩

def PutR (cs csi vals : List Nat) (next i : Nat) : Prop := ∀ j, cellN csi j = if next ≤ j ∧ j < next + i then cellN vals (j - next) else cellN cs j
theorem PutR.zero (cs vals : List Nat) (next : Nat) : PutR cs cs vals next 0 := fun j => by rw [if_neg (by omega)]
theorem PutR.more {cs csi vals : List Nat} {n next i : Nat} (h : PutR cs csi vals next i) (hn : next + i < n) : PutR cs (stN n csi (next + i) (cellN vals i)) vals next (i + 1) := fun j => by
  rw [stN_cell, h j]
  by_cases e : j = next + i
  · subst e
    rw [if_pos ⟨rfl, hn⟩, if_pos (by omega)]
    congr 1
    omega
  · rw [if_neg (fun x => e x.1)]
    by_cases e2 : next ≤ j ∧ j < next + i
    · rw [if_pos e2, if_pos (by omega)]
    · rw [if_neg e2, if_neg (by omega)]
theorem PutR.all {cs csi vals : List Nat} {n next : Nat} (h : PutR cs csi vals next vals.length) (hok : alOk n next vals.length) (j : Nat) : cellN (alN n next cs vals) j = cellN csi j := by
  unfold alN
  rw [if_pos hok, spliceN_cell _ _ _ (by rw [padN_length]; omega), padN_cell, h j]

set_option maxRecDepth 100000 in
theorem r_alloc2 (nm n next : Nat) (th : Int) (ad : Addr) (c : Nat) (vals : List Nat) (R : Nat → Prop) (cs : List Nat) (l : List Acc) (W : World) (h : RMem W R nm n next cs l) (hnx : next ≤ n) (hl : l.length < 1099511627776)
    (hr : ∀ j u, (vals.map u64V)[j]? = some u → W.cell? (ad.add j) = some u) (hap : ¬ R ad.block) (hv : ∀ x ∈ vals, x < 18446744073709551616) (h0 : 0 < vals.length) (hro : vals.length ≤ n - next) :
    Calls Tryz.prog 111 #[.pointer (some ⟨nm, 0, none⟩), .int .i64 th, .slice (some ad) vals.length c] W fun e W' => e = .returned (.int .u64 (next : Int)) ∧ ∃ R' vs, RMem W' R' nm n (next + vals.length) (alN n next cs vals) (l ++ [⟨th, 5, next, 0, 0, vs, vals, 0, false⟩]) ∧ Goes W W' R R' := by
  obtain ⟨i0, hi, hz0, hz1, hz2⟩ := info_parts infoU
  have t0 : (0 : Int) < (vals.length : Int) := by omega
  have t1 : (vals.length : Int) ≤ ((n - next : Nat) : Int) := by omega
  have HB := keepH h
  have HR := keepH hr
  have HLt : Hid (∀ k, R k → k < W.heap.size) := fun k hk => h.lt k hk
  have HV := keepH hv
  have HAP := keepH hap
  obtain ⟨nc, av, os, h⟩ := h
  have nn := h.nn
  have c1 : W.cell? ⟨nm, 1, none⟩ = some (.int .i64 (next : Int)) := cell_of h.blk 1
  have f1 := free_of h.blk 1
  obtain ⟨nx, hnx2⟩ : ∃ nx, nx = next + vals.length := ⟨_, rfl⟩
  have wn : IntKind.i64.wrap ((next : Int) + (vals.length : Int)) = (nx : Int) := by rw [IntKind.wrap_i64]; omega
  have wm : IntKind.u64.wrap (next : Int) = (next : Int) := u64_lt (by omega)
  have H0 := keepH h
  have HNX := keepH hnx2
  have hle : next + vals.length ≤ n := by omega
  have hin : Hid (R nm) := h.inn
  have hic : Hid (R nc) := h.inc
  clear h hr hv hap hnx2
  go_enter Tryz.func111, Tryz.ntmps111
  go_wp2_with fail
  refine (r_left nm n next R cs l _ HB.out hnx).mono ?_
  rintro e w' ⟨rfl, q, rfl⟩
  go_wp2_with fail
  obtain ⟨X, hX⟩ : ∃ X, X = (W.drewN q).setCell ⟨nm, 1, none⟩ (.int .i64 (nx : Int)) := ⟨_, rfl⟩
  have HX : Hid (RMemAt X R nm nc av n nx os cs l) := by rw [hX]; exact (H0.out.kept (W' := W.drewN q) (Nat.le_refl _) (fun _ _ => rfl)).setNext nx
  have CX : Hid (Chg R W X) := by rw [hX]; exact ((Goes.drewN W R q).chg).setCell (p := ⟨nm, 1, none⟩) (fun _ => hin.out) _
  try rw [← hX]
  clear hX c1 f1 H0 HB
  go_loopw [8] (fun sv wr => ∃ (i : Nat), i ≤ vals.length ∧ sv = .int .i64 (i : Int) ∧ Hid (∃ osi csi, RMemAt wr R nm nc av n nx osi csi l ∧ PutR cs csi vals next i) ∧ Hid (Chg R W wr)) (fun sv _ => vals.length - (intOf sv).toNat)
  case atStart => exact ⟨0, by omega, rfl, ⟨os, cs, HX.out, PutR.zero _ _ _⟩, CX⟩
  case round =>
    obtain ⟨i, hil, rfl, HM, HCh⟩ := hrel
    by_cases hlt : i < vals.length
    · have q1 : (i : Int) < (vals.length : Int) := by omega
      obtain ⟨osi, csi, M, P⟩ := HM.out
      have k0 : wr.cell? ⟨nm, 0, none⟩ = some (.slice (some ⟨nc, 0, none⟩) n n) := cell_of M.blk 0
      have kc := M.own.cell (next + i) (by rw [M.os.1]; omega)
      have kf := free_of M.own (next + i)
      have kv : wr.cell? (ad.add i) = some (.int .u64 (cellN vals i : Int)) := cell_chg HCh.out (HR.out i _ (by simp [cellN, u64V, List.getElem?_eq_getElem hlt])) (by rw [add_block]; exact HAP.out)
      have wi : IntKind.i64.wrap ((next : Int) + (i : Int)) = ((next + i : Nat) : Int) := by rw [IntKind.wrap_i64]; omega
      have wb : ((next + i : Nat) : Int) < (n : Int) := by omega
      have hM := keepH M
      have hP := keepH P
      clear M P
      go_wp2_with fail
      go_region
      all_goals (go_wp2_with fail)
      have hput := hM.out.put (next + i) (cellN vals i) (by omega) (HV.out _ (by simp [cellN, List.getElem?_eq_getElem hlt]))
      exact ⟨⟨i + 1, by omega, by simp, ⟨_, _, hput.1.kept (Nat.le_refl _) (fun _ _ => rfl), hP.out.more (by omega)⟩, (HCh.out.trans hput.2.chg (fun _ _ x => x) (fun _ _ x => x)).drew⟩, by simp [intOf]; omega⟩
    · have q1 : ¬ (i : Int) < (vals.length : Int) := by omega
      obtain rfl : i = vals.length := by omega
      have hsrc : Hid (∀ j u, (vals.map u64V)[j]? = some u → wr.cell? (ad.add j) = some u) := fun j u hj => cell_chg HCh.out (HR.out j u hj) (by rw [add_block]; exact HAP.out)
      have hwl : Hid (∀ k, R k → k < wr.heap.size) := fun k hk => Nat.lt_of_lt_of_le (HLt.out k hk) HCh.out.size
      clear HR HLt
      go_wp2_with (at_builtin; refine wpList_append_own_at _ rfl _ _ 26 rfl 0 23 i0 (.int .u64 0) 1 8 Tryz.underlying26 hi hz0 hz1 hz2 rfl (by decide) (.slice none 0 0) 0 [] rfl (World.ownsRow_nil _ _ _ _) ad vals.length c (vals.map u64V) rfl (by simp) hsrc.out (by intro u hu; obtain ⟨x, _, rfl⟩ := List.mem_map.1 hu; rfl) (by unfold maxLen; omega) (by omega) (Nat.zero_le _) ?_; intro v w1 h1 h2 h3 h4; obtain ⟨g', c3, rfl⟩ := slice_pos h1 (by omega); have H1 := keepH h1; have H2 := keepH h2; have H4 := keepH h4; clear h1 h2 h3 h4)
      have H1' : w1.ownsRow 0 23 1 (.slice (some ⟨g', 0, none⟩) vals.length c3) vals.length (vals.map u64V) := by simpa using H1.out
      have G1 : wr.grownBy w1 none := H2.out
      have V1 : (.slice (some ⟨g', 0, none⟩) vals.length c3 : Value).ownBlock = none ∨ (.slice (some ⟨g', 0, none⟩) vals.length c3 : Value).ownBlock = some wr.heap.size := by have e := H4.out; rw [Nat.zero_add] at e; exact e
      have hvR : ∀ k, (.slice (some ⟨g', 0, none⟩) vals.length c3 : Value).ownBlock = some k → ¬ R k := fun k e hk => by
        have := hwl.out k hk
        rcases V1 with e2 | e2 <;> rw [e2] at e <;> simp at e
        have e3 : wr.heap.size = k := e
        omega
      have hm : RMem wr R nm n nx (alN n next cs vals) l := by
        obtain ⟨osi, csi, M, P⟩ := HM.out
        exact ⟨nc, av, osi, M.cells (fun j => P.all ⟨h0, hro⟩ j)⟩
      refine (r_noteV (some ⟨g', 0, none⟩) c3 vals nm n nx th 5 next 0 0 0 false R (alN n next cs vals) l _ (hm.grown G1) hl H1' hvR).mono ?_
      have HG := keepH G1
      have HV1 := keepH V1
      clear H1' G1 V1 hvR H1 H2 H4 hm HM hsrc HX
      rintro e w' ⟨rfl, R', hR, hC, hN⟩
      have HR' := keepH hR
      have HC := keepH hC
      have HN := keepH hN
      clear hR hC hN
      go_wp2_with fail
      go_ret
      have G3 : Goes W wr R R := ⟨HCh.out, fun _ h => .inl h⟩
      exact ⟨by simp, R', _, by rw [← HNX.out]; exact HR'.out, G3.trans (grown_goes HG.out HV1.out HC.out HN.out)⟩

theorem r_alloc (nm n next : Nat) (th : Int) (p : Option Addr) (c : Nat) (vals : List Nat) (R : Nat → Prop) (cs : List Nat) (l : List Acc) (W : World) (h : RMem W R nm n next cs l) (hnx : next ≤ n) (hl : l.length < 1099511627776)
    (hr : Reads W p vals) (hap : ∀ ad, p = some ad → vals ≠ [] → ¬ R ad.block) (hv : ∀ x ∈ vals, x < 18446744073709551616) (hvl : vals.length ≤ 17592186043904) :
    Calls Tryz.prog 111 #[.pointer (some ⟨nm, 0, none⟩), .int .i64 th, .slice p vals.length c] W fun e W' => e = .returned (.int .u64 (alAt n next vals.length : Int)) ∧ ∃ R' vs, RMem W' R' nm n (alNext n next vals.length) (alN n next cs vals) (l ++ [⟨th, 5, alAt n next vals.length, 0, 0, vs, vals, 0, false⟩]) ∧ Goes W W' R R' := by
  by_cases h1 : vals = []
  · subst h1
    have e0 : ¬ alOk n next ([] : List Nat).length := by simp [alOk]
    have e1 : alAt n next ([] : List Nat).length = 0 := by rw [alAt, if_neg e0]
    have e2 : alNext n next ([] : List Nat).length = next := by rw [alNext, if_neg e0]
    have e3 : alN n next cs [] = cs := by rw [alN, if_neg e0]
    rw [e1, e2, e3]
    exact r_alloc0 nm n next th p c R cs l W h hnx hl
  · have h0 : 0 < vals.length := List.length_pos_iff.2 h1
    obtain ⟨ad, rfl, hrd⟩ : ∃ ad, p = some ad ∧ ∀ j u, (vals.map u64V)[j]? = some u → W.cell? (ad.add j) = some u := by
      rcases hr with hr | hr
      · exact absurd hr h1
      · exact hr
    by_cases h2 : vals.length ≤ n - next
    · have e0 : alOk n next vals.length := ⟨h0, h2⟩
      have e1 : alAt n next vals.length = next := by rw [alAt, if_pos e0]
      have e2 : alNext n next vals.length = next + vals.length := by rw [alNext, if_pos e0]
      rw [e1, e2]
      exact r_alloc2 nm n next th ad c vals R cs l W h hnx hl hrd (hap ad rfl h1) hv h0 h2
    · have e0 : ¬ alOk n next vals.length := fun e => h2 e.2
      have e1 : alAt n next vals.length = 0 := by rw [alAt, if_neg e0]
      have e2 : alNext n next vals.length = next := by rw [alNext, if_neg e0]
      have e3 : alN n next cs vals = cs := by rw [alN, if_neg e0]
      rw [e1, e2, e3]
      exact r_alloc1 nm n next th ad c vals R cs l W h hnx hl hrd h0 (by omega) hvl
end Go.Proofs.YtmmaniolaljjlaaGreatDoor
/- The memory below a new store, of both sides: what lies in it does not count. -/
namespace Go.Proofs.YtmmaniolaljjlaaGreatDoor
open Go.RowKit Go.Shelf
set_option linter.unusedVariables false

theorem reads_newN (W : World) (vals : List Nat) (g : Nat) (hg : W.heap.size = g) : Reads (W.alloc (.cells (vals.map u64V).toArray 23)) (some ⟨g, 0, none⟩) vals :=
  .inr ⟨_, rfl, fun j u hj => cells_new W g hg (vals.map u64V).toArray 23 j u (by simpa using hj)⟩
/-- the program's memory and its view, made behind W; blocks D lie apart from it -/
def NS (W X : World) (v b most next made : Nat) (D : Nat → Prop) : Prop := ∃ F cs l, Bank X F b most next cs l ∧ IsView X v b (-1) made ∧ ¬ F v ∧ (∀ k, F k → W.heap.size ≤ k) ∧ W.heap.size ≤ v ∧ Chg (fun _ => False) W X ∧ l.length ≤ made ∧ (∀ k, F k → k < X.heap.size) ∧ ∀ k, D k → ¬ F k ∧ k ≠ v ∧ W.heap.size ≤ k ∧ k < X.heap.size
theorem NS.put {W X Y : World} {v b most next made : Nat} {D G : Nat → Prop} (h : NS W X v b most next made D) (c : Chg G X Y) (hG : ∀ k, G k → D k) : NS W Y v b most next made D := by
  obtain ⟨F, cs, l, B, V, nv, inF, hv, C, L, lt, A⟩ := h
  exact ⟨F, cs, l, B.chg c (fun k hk e => (A k (hG k e)).1 hk), V.chg c (fun e => (A _ (hG _ e)).2.1 rfl), nv, inF, hv, C.trans c (fun _ _ x => x) (fun i hi x => by have := (A i (hG i x)).2.2.1; omega), L, fun k e => Nat.lt_of_lt_of_le (lt k e) c.size, fun k e => ⟨(A k e).1, (A k e).2.1, (A k e).2.2.1, Nat.lt_of_lt_of_le (A k e).2.2.2 c.size⟩⟩
theorem NS.new {W X : World} {v b most next made : Nat} {D : Nat → Prop} (h : NS W X v b most next made D) (o : Obj) : NS W (X.alloc o) v b most next made (fun k => D k ∨ k = X.heap.size) := by
  obtain ⟨F, cs, l, B, V, nv, inF, hv, C, L, lt, A⟩ := h
  have c : Chg (fun _ => False) X (X.alloc o) := (Chg.refl _ _).alloc _
  have vl := V.lt
  have s0 := C.size
  refine ⟨F, cs, l, B.chg c (fun _ _ h => h), V.chg c (fun h => h), nv, inF, hv, C.alloc _, L, fun k e => Nat.lt_of_lt_of_le (lt k e) c.size, fun k e => ?_⟩
  rcases e with e | rfl
  · exact ⟨(A k e).1, (A k e).2.1, (A k e).2.2.1, Nat.lt_of_lt_of_le (A k e).2.2.2 c.size⟩
  · exact ⟨fun x => by have := lt _ x; omega, by omega, by omega, by simp⟩
theorem NS.mono {W X : World} {v b most next made : Nat} {D E : Nat → Prop} (h : NS W X v b most next made D) (hE : ∀ k, E k → D k) : NS W X v b most next made E := by
  obtain ⟨F, cs, l, B, V, nv, inF, hv, C, L, lt, A⟩ := h
  exact ⟨F, cs, l, B, V, nv, inF, hv, C, L, lt, fun k e => A k (hE k e)⟩
theorem NS.chg {W X : World} {v b most next made : Nat} {D : Nat → Prop} (h : NS W X v b most next made D) : Chg (fun _ => False) W X := by
  obtain ⟨F, cs, l, B, V, nv, inF, hv, C, L, lt, A⟩ := h
  exact C
theorem NS.lt {W X : World} {v b most next made : Nat} {D : Nat → Prop} (h : NS W X v b most next made D) (k : Nat) (hk : D k) : k < X.heap.size := by
  obtain ⟨F, cs, l, B, V, nv, inF, hv, C, L, lt, A⟩ := h
  exact (A k hk).2.2.2
theorem NS.aloc {W X : World} {v b most next made : Nat} {D : Nat → Prop} (h : NS W X v b most next made D) (vals : List Nat) (g c : Nat) (hg : X.heap.size = g) (hv : ∀ x ∈ vals, x < 18446744073709551616) (hvl : vals.length ≤ 17592186043904) (h1 : made < 1000000) :
    Calls Tryz.prog 130 #[.pointer (some ⟨v, 0, none⟩), .slice (some ⟨g, 0, none⟩) vals.length c] (X.alloc (.cells (vals.map u64V).toArray 23)) fun e Y => e = .returned (.int .u64 (alAt most next vals.length : Int)) ∧ NS W Y v b most (alNext most next vals.length) (made + 1) D ∧ ∀ k, D k → Y.heap[k]? = X.heap[k]? := by
  have hn := h.new (.cells (vals.map u64V).toArray 23)
  have hlt := h.lt
  obtain ⟨F, cs, l, B, V, nv, inF, hvv, C, L, lt, A⟩ := hn
  have sz : (X.alloc (.cells (vals.map u64V).toArray 23)).heap.size = X.heap.size + 1 := by simp
  refine (v_alloc v b most next made (-1) (some ⟨g, 0, none⟩) c vals F cs l _ V B nv (by omega) (by omega) (reads_newN X vals g hg) (fun ad e _ => by cases e; exact (A g (.inr hg.symm)).1) (fun ad e _ => by cases e; exact (A g (.inr hg.symm)).2.1) hv hvl).mono ?_
  rintro e Y ⟨rfl, F', vs, B', V', G⟩
  have keep : ∀ k, D k → Y.heap[k]? = (X.alloc (.cells (vals.map u64V).toArray 23)).heap[k]? := fun k hk => G.chg.block k (A k (.inl hk)).2.2.2 (fun e => e.elim (A k (.inl hk)).1 (A k (.inl hk)).2.1)
  refine ⟨rfl, ⟨F', _, _, B', V', fun x => (G.new v x).elim nv (fun y => by have := V.lt; omega), fun k x => (G.new k x).elim (inF k) (fun y => Nat.le_trans C.size y), hvv, C.trans G.chg (fun _ _ x => x) (fun i hi x => x.elim (fun y => by have := inF i y; omega) (fun y => by omega)), by simp; omega, fun k x => ?_, fun k hk => ⟨fun x => (G.new k x).elim (A k (.inl hk)).1 (fun y => by have := (A k (.inl hk)).2.2.2; omega), (A k (.inl hk)).2.1, (A k (.inl hk)).2.2.1, Nat.lt_of_lt_of_le (A k (.inl hk)).2.2.2 G.chg.size⟩⟩, fun k hk => (keep k hk).trans (Below.heap_alloc _ _ _ (hlt k hk))⟩
  obtain ⟨_, _, h0⟩ := B'
  exact h0.lt k x
/-- the document's memory, made behind W; blocks D lie apart from it -/
def NR (W X : World) (nm most next made : Nat) (D : Nat → Prop) : Prop := ∃ R cs l, RMem X R nm most next cs l ∧ (∀ k, R k → W.heap.size ≤ k) ∧ Chg (fun _ => False) W X ∧ l.length ≤ made ∧ next ≤ most ∧ ∀ k, D k → ¬ R k ∧ W.heap.size ≤ k ∧ k < X.heap.size
theorem NR.chg {W X : World} {nm most next made : Nat} {D : Nat → Prop} (h : NR W X nm most next made D) : Chg (fun _ => False) W X := by
  obtain ⟨R, cs, l, B, inF, C, L, N, A⟩ := h
  exact C
theorem NR.lt {W X : World} {nm most next made : Nat} {D : Nat → Prop} (h : NR W X nm most next made D) (k : Nat) (hk : D k) : k < X.heap.size := by
  obtain ⟨R, cs, l, B, inF, C, L, N, A⟩ := h
  exact (A k hk).2.2
theorem NR.mono {W X : World} {nm most next made : Nat} {D E : Nat → Prop} (h : NR W X nm most next made D) (hE : ∀ k, E k → D k) : NR W X nm most next made E := by
  obtain ⟨R, cs, l, B, inF, C, L, N, A⟩ := h
  exact ⟨R, cs, l, B, inF, C, L, N, fun k e => A k (hE k e)⟩
theorem NR.put {W X Y : World} {nm most next made : Nat} {D G : Nat → Prop} (h : NR W X nm most next made D) (c : Chg G X Y) (hG : ∀ k, G k → D k) : NR W Y nm most next made D := by
  obtain ⟨R, cs, l, B, inF, C, L, N, A⟩ := h
  exact ⟨R, cs, l, B.chg c (fun k hk e => (A k (hG k e)).1 hk), inF, C.trans c (fun _ _ x => x) (fun i hi x => by have := (A i (hG i x)).2.1; omega), L, N, fun k e => ⟨(A k e).1, (A k e).2.1, Nat.lt_of_lt_of_le (A k e).2.2 c.size⟩⟩
theorem NR.new {W X : World} {nm most next made : Nat} {D : Nat → Prop} (h : NR W X nm most next made D) (o : Obj) : NR W (X.alloc o) nm most next made (fun k => D k ∨ k = X.heap.size) := by
  obtain ⟨R, cs, l, B, inF, C, L, N, A⟩ := h
  have c : Chg (fun _ => False) X (X.alloc o) := (Chg.refl _ _).alloc _
  have s0 := C.size
  refine ⟨R, cs, l, B.chg c (fun _ _ h => h), inF, C.alloc _, L, N, fun k e => ?_⟩
  rcases e with e | rfl
  · exact ⟨(A k e).1, (A k e).2.1, Nat.lt_of_lt_of_le (A k e).2.2 c.size⟩
  · exact ⟨fun x => by have := B.lt _ x; omega, by omega, by simp⟩
theorem NR.aloc {W X : World} {nm most next made : Nat} {D : Nat → Prop} (h : NR W X nm most next made D) (vals : List Nat) (g c : Nat) (hg : X.heap.size = g) (hv : ∀ x ∈ vals, x < 18446744073709551616) (hvl : vals.length ≤ 17592186043904) (h1 : made < 1000000) :
    Calls Tryz.prog 111 #[.pointer (some ⟨nm, 0, none⟩), .int .i64 (-1), .slice (some ⟨g, 0, none⟩) vals.length c] (X.alloc (.cells (vals.map u64V).toArray 23)) fun e Y => e = .returned (.int .u64 (alAt most next vals.length : Int)) ∧ NR W Y nm most (alNext most next vals.length) (made + 1) D ∧ ∀ k, D k → Y.heap[k]? = X.heap[k]? := by
  have hn := h.new (.cells (vals.map u64V).toArray 23)
  have hlt := h.lt
  obtain ⟨R, cs, l, B, inF, C, L, N, A⟩ := hn
  refine (r_alloc nm most next (-1) (some ⟨g, 0, none⟩) c vals R cs l _ B N (by omega) (reads_newN X vals g hg) (fun ad e _ => by cases e; exact (A g (.inr hg.symm)).1) hv hvl).mono ?_
  rintro e Y ⟨rfl, R', vs, B', G⟩
  have keep : ∀ k, D k → Y.heap[k]? = (X.alloc (.cells (vals.map u64V).toArray 23)).heap[k]? := fun k hk => G.chg.block k (A k (.inl hk)).2.2 (A k (.inl hk)).1
  refine ⟨rfl, ⟨R', _, _, B', fun k x => (G.new k x).elim (inF k) (fun y => Nat.le_trans C.size y), C.trans G.chg (fun _ _ x => x) (fun i hi x => by have := inF i x; omega), by simp; omega, ?_, fun k hk => ⟨fun x => (G.new k x).elim (A k (.inl hk)).1 (fun y => by have := (A k (.inl hk)).2.2; omega), (A k (.inl hk)).2.1, Nat.lt_of_lt_of_le (A k (.inl hk)).2.2 G.chg.size⟩⟩, fun k hk => (keep k hk).trans (Below.heap_alloc _ _ _ (hlt k hk))⟩
  unfold alNext
  split
  · rename_i h; have := h.2; omega
  · exact N
end Go.Proofs.YtmmaniolaljjlaaGreatDoor
/- A new store: its errno, by both. (mkSeg.py) -/
namespace Go.Proofs.YtmmaniolaljjlaaGreatDoor
open Go.RowKit Go.Shelf
set_option linter.unusedVariables false

theorem setRow_chg (X : World) (R : Nat) (cs : Array Value) : Chg (fun k => k = R) X (X.setRow R cs) := by
  refine ⟨by simp [World.setRow], by simp [World.setRow], by simp [World.setRow], by simp, fun i hi hn => setRow_other _ _ _ _ hn⟩
theorem al1 {most : Nat} (h : 128 ≤ most) : alAt most 1 1 = 1 ∧ alNext most 1 1 = 2 ∧ alAt most 2 64 = 2 ∧ alNext most 2 64 = 66 := by
  have a : alOk most 1 1 := ⟨by omega, by omega⟩
  have b : alOk most 2 64 := ⟨by omega, by omega⟩
  exact ⟨by rw [alAt, if_pos a], by rw [alNext, if_pos a], by rw [alAt, if_pos b], by rw [alNext, if_pos b]⟩
theorem mk64 (w : World) : (Instr.makeSlice 26 (.int .i64 64) (.int .i64 64)).run Tryz.prog w = .ok (.slice (some ⟨w.heap.size, 0, none⟩) 64 64) (w.alloc (.cells ((List.replicate 64 0).map u64V).toArray 23)) := by kernel_rfl
set_option maxRecDepth 100000 in
set_option maxHeartbeats 4000000 in
theorem tmake_n {W : World} {v b most made : Nat} {w : World} {D : Nat → Prop} (h : NS W w v b most 1 made D) (hm : 128 ≤ most) (hmd : made < 1000) :
    Calls Tryz.prog 109 #[.pointer (some ⟨v, 0, none⟩)] w fun e w' => e = .returned (.tuple #[.agg #[.int .u64 1, .int .u64 2], .int .i64 0]) ∧ NS W w' v b most 66 (made + 2) D ∧ ∀ k, D k → w'.heap[k]? = w.heap[k]? := by
  obtain ⟨a1, a2, a3, a4⟩ := al1 hm
  obtain ⟨w0, hw0⟩ : ∃ w0, w0 = w.alloc (.cells #[.int .u64 0, .int .u64 0] 137) := ⟨_, rfl⟩
  obtain ⟨R, hR⟩ : ∃ R, R = w.heap.size := ⟨_, rfl⟩
  have hS0 := h.new (.cells #[.int .u64 0, .int .u64 0] 137)
  rw [← hw0, ← hR] at hS0
  have HS0 := keepH hS0
  have HX0 : Hid (w0.heap[R]? = some (.cells #[.int .u64 0, .int .u64 0] 137 (0, 0))) := keepH (by rw [hw0, hR]; exact heap_alloc_new _ _)
  have HK0 : Hid (∀ k, D k → w0.heap[k]? = w.heap[k]?) := keepH (fun k e => by rw [hw0]; exact Below.heap_alloc _ _ _ (h.lt k e))
  have HDR : Hid (∀ k, D k → k ≠ R) := keepH (fun k e z => by have := h.lt k e; omega)
  have HW0 := keepH hw0
  have HR := keepH hR
  have hA := hS0.aloc [1] w0.heap.size 1 rfl (by simp) (by simp) (by omega)
  rw [show [1].length = 1 from rfl, a1, a2] at hA
  have HA := keepH hA
  have HA3 := keepH a3
  have HA4 := keepH a4
  clear h hS0 hw0 hR hA a1 a2 a3 a4
  go_enter Tryz.func109, Tryz.ntmps109
  go_upto_region 1 with fail
  rw [← HW0.out, ← HR.out]
  go_wp2_with fail
  refine HA.out.mono ?_
  rintro e w1 ⟨rfl, S1, K1⟩
  have hA2 := S1.aloc (List.replicate 64 0) w1.heap.size 64 rfl (by decide) (by decide) (by omega)
  rw [show (List.replicate 64 0).length = 64 from rfl, HA3.out, HA4.out] at hA2
  have HA2 := keepH hA2
  have HX1 : Hid (w1.heap[R]? = some (.cells #[.int .u64 0, .int .u64 0] 137 (0, 0))) := keepH ((K1 R (.inr rfl)).trans HX0.out)
  have HK1 : Hid (∀ k, D k → w1.heap[k]? = w.heap[k]?) := keepH (fun k e => (K1 k (.inl e)).trans (HK0.out k e))
  obtain ⟨w2, hw2⟩ : ∃ w2, w2 = w1.alloc (.cells ((List.replicate 64 0).map u64V).toArray 23) := ⟨_, rfl⟩
  have hmk := mk64 w1
  rw [← hw2] at hmk HA2
  clear S1 K1 hA2 hw2 HX0 HK0 HA HS0
  go_wp2_with fail
  refine HA2.out.mono ?_
  rintro e w3 ⟨rfl, S3, K3⟩
  have HX3 : Hid (w3.heap[R]? = some (.cells #[.int .u64 0, .int .u64 0] 137 (0, 0))) := keepH ((K3 R (.inr rfl)).trans HX1.out)
  have HK3 : Hid (∀ k, D k → w3.heap[k]? = w.heap[k]?) := keepH (fun k e => (K3 k (.inl e)).trans (HK1.out k e))
  have HS3 := keepH S3
  clear S3 K3 hmk HX1 HK1 HA2
  go_wp2_with (first | (refine wpList_store_row rfl 137 _ _ rfl R #[.int .u64 1, .int .u64 2] rfl rfl 137 #[.int .u64 0, .int .u64 0] HX3.out (by kernel_rfl) rfl (by simp [Value.oneCell']) ?_) | fail)
  have hrow := setRow_heap _ R _ #[.int .u64 1, .int .u64 2] 137 (0, 0) HX3.out
  have e0 := cell_of hrow 0
  have e1 := cell_of hrow 1
  simp at e0 e1
  refine bodyPost_ret (v := .tuple #[.agg #[.int .u64 1, .int .u64 2], .int .i64 0]) (by simp [results, Tryz.results109, go_sem, e0, e1]) rfl ?_
  exact ⟨rfl, (HS3.out.put (setRow_chg _ R _) (fun k e => .inr e)).mono (fun k e => .inl e), fun k e => (setRow_other _ _ _ _ (HDR.out k e)).trans (HK3.out k e)⟩
set_option maxRecDepth 100000 in
set_option maxHeartbeats 4000000 in
theorem dmake_n {W : World} {nm most made : Nat} {w : World} {D : Nat → Prop} (h : NR W w nm most 1 made D) (hm : 128 ≤ most) (hmd : made < 1000) :
    Calls Tryz.prog 86 #[.pointer (some ⟨nm, 0, none⟩), .int .i64 (-1)] w fun e w' => e = .returned (.tuple #[.agg #[.int .u64 1, .int .u64 2], .int .i64 0]) ∧ NR W w' nm most 66 (made + 2) D ∧ ∀ k, D k → w'.heap[k]? = w.heap[k]? := by
  obtain ⟨a1, a2, a3, a4⟩ := al1 hm
  obtain ⟨w0, hw0⟩ : ∃ w0, w0 = w.alloc (.cells #[.int .u64 0, .int .u64 0] 137) := ⟨_, rfl⟩
  obtain ⟨R, hR⟩ : ∃ R, R = w.heap.size := ⟨_, rfl⟩
  have hS0 := h.new (.cells #[.int .u64 0, .int .u64 0] 137)
  rw [← hw0, ← hR] at hS0
  have HS0 := keepH hS0
  have HX0 : Hid (w0.heap[R]? = some (.cells #[.int .u64 0, .int .u64 0] 137 (0, 0))) := keepH (by rw [hw0, hR]; exact heap_alloc_new _ _)
  have HK0 : Hid (∀ k, D k → w0.heap[k]? = w.heap[k]?) := keepH (fun k e => by rw [hw0]; exact Below.heap_alloc _ _ _ (h.lt k e))
  have HDR : Hid (∀ k, D k → k ≠ R) := keepH (fun k e z => by have := h.lt k e; omega)
  have HW0 := keepH hw0
  have HR := keepH hR
  have hA := hS0.aloc [1] w0.heap.size 1 rfl (by simp) (by simp) (by omega)
  rw [show [1].length = 1 from rfl, a1, a2] at hA
  have HA := keepH hA
  have HA3 := keepH a3
  have HA4 := keepH a4
  clear h hS0 hw0 hR hA a1 a2 a3 a4
  go_enter Tryz.func86, Tryz.ntmps86
  go_upto_region 1 with fail
  rw [← HW0.out, ← HR.out]
  go_wp2_with fail
  refine HA.out.mono ?_
  rintro e w1 ⟨rfl, S1, K1⟩
  have hA2 := S1.aloc (List.replicate 64 0) w1.heap.size 64 rfl (by decide) (by decide) (by omega)
  rw [show (List.replicate 64 0).length = 64 from rfl, HA3.out, HA4.out] at hA2
  have HA2 := keepH hA2
  have HX1 : Hid (w1.heap[R]? = some (.cells #[.int .u64 0, .int .u64 0] 137 (0, 0))) := keepH ((K1 R (.inr rfl)).trans HX0.out)
  have HK1 : Hid (∀ k, D k → w1.heap[k]? = w.heap[k]?) := keepH (fun k e => (K1 k (.inl e)).trans (HK0.out k e))
  obtain ⟨w2, hw2⟩ : ∃ w2, w2 = w1.alloc (.cells ((List.replicate 64 0).map u64V).toArray 23) := ⟨_, rfl⟩
  have hmk := mk64 w1
  rw [← hw2] at hmk HA2
  clear S1 K1 hA2 hw2 HX0 HK0 HA HS0
  go_wp2_with fail
  refine HA2.out.mono ?_
  rintro e w3 ⟨rfl, S3, K3⟩
  have HX3 : Hid (w3.heap[R]? = some (.cells #[.int .u64 0, .int .u64 0] 137 (0, 0))) := keepH ((K3 R (.inr rfl)).trans HX1.out)
  have HK3 : Hid (∀ k, D k → w3.heap[k]? = w.heap[k]?) := keepH (fun k e => (K3 k (.inl e)).trans (HK1.out k e))
  have HS3 := keepH S3
  clear S3 K3 hmk HX1 HK1 HA2
  go_wp2_with (first | (refine wpList_store_row rfl 137 _ _ rfl R #[.int .u64 1, .int .u64 2] rfl rfl 137 #[.int .u64 0, .int .u64 0] HX3.out (by kernel_rfl) rfl (by simp [Value.oneCell']) ?_) | fail)
  have hrow := setRow_heap _ R _ #[.int .u64 1, .int .u64 2] 137 (0, 0) HX3.out
  have e0 := cell_of hrow 0
  have e1 := cell_of hrow 1
  simp at e0 e1
  refine bodyPost_ret (v := .tuple #[.agg #[.int .u64 1, .int .u64 2], .int .i64 0]) (by simp [results, Tryz.results86, go_sem, e0, e1]) rfl ?_
  exact ⟨rfl, (HS3.out.put (setRow_chg _ R _) (fun k e => .inr e)).mono (fun k e => .inl e), fun k e => (setRow_other _ _ _ _ (HDR.out k e)).trans (HK3.out k e)⟩
theorem make_u64n (n : Nat) (hn : n ≤ 1048576) (u : World) :
    (Instr.makeSlice 26 (.int .i64 (n : Int)) (.int .i64 (n : Int))).run Tryz.prog u = .ok (.slice (some ⟨u.heap.size, 0, none⟩) n n) (u.alloc (.cells ((List.replicate n 0).map u64V).toArray 23)) := by
  obtain ⟨i0, hi, hz0, hz1, hz2⟩ : ∃ i0, Tryz.prog.info? 23 = some i0 ∧ i0.zero = some (.int .u64 0) ∧ i0.size = 1 ∧ i0.bytes = 8 := by
    have h := infoU
    cases e : Tryz.prog.info? 23 with
    | none => rw [e] at h; simp at h
    | some i0 => rw [e] at h; simp at h; exact ⟨i0, rfl, h.1, h.2.1, h.2.2⟩
  have h := run_make (P := Tryz.prog) u 26 23 i0 (.int .u64 0) Tryz.underlying26 hi hz0 .i64 .i64 (n : Int) (n : Int) (by omega) (Int.le_refl _) (by rw [hz2]; omega) (by omega)
  have e : madeCells #[.int .u64 0] n = ((List.replicate n 0).map u64V).toArray := by
    apply Array.ext'
    rw [toList_madeCells_one]
    simp [u64V]
  have hz : (Value.int .u64 0).cells = #[.int .u64 0] := rfl
  rw [← e]
  simpa [hz1, hz] using h
set_option maxRecDepth 100000 in
set_option maxHeartbeats 4000000 in
theorem amake_n {W : World} {v b most made : Nat} {w : World} {D : Nat → Prop} (h : NS W w v b most 66 made D) (hm : 128 ≤ most) (hmd : made < 1000) (cam sl stp : Nat) (h1 : 1 ≤ sl ∧ sl ≤ 256) (h2 : 1 ≤ stp ∧ stp ≤ 1099511627776) :
    Calls Tryz.prog 110 #[.pointer (some ⟨v, 0, none⟩), .int .u64 (cam : Int), .int .i64 (sl : Int), .int .u64 (stp : Int)] w fun e w' => (∃ x0 x1 x2 x3 : Int, e = .returned (.tuple #[.agg #[.int .u64 x0, .int .u64 x1, .int .i64 x2, .int .u64 x3], .int .i64 (if 66 + sl ≤ most then 0 else 30)])) ∧ Chg (fun _ => False) W w' ∧ ∀ k, D k → w'.heap[k]? = w.heap[k]? := by
  have t1 : ¬ (sl : Int) < 1 := by omega
  have t2 : ¬ (sl : Int) > 256 := by omega
  have t3 : ¬ (stp : Int) < 1 := by omega
  have t4 : ¬ (stp : Int) > 1099511627776 := by omega
  obtain ⟨w0, hw0⟩ : ∃ w0, w0 = w.alloc (.cells #[.int .u64 0, .int .u64 0, .int .i64 0, .int .u64 0] 141) := ⟨_, rfl⟩
  obtain ⟨R, hR⟩ : ∃ R, R = w.heap.size := ⟨_, rfl⟩
  have hS0 := h.new (.cells #[.int .u64 0, .int .u64 0, .int .i64 0, .int .u64 0] 141)
  rw [← hw0, ← hR] at hS0
  have HS0 := keepH hS0
  have HX0 : Hid (w0.heap[R]? = some (.cells #[.int .u64 0, .int .u64 0, .int .i64 0, .int .u64 0] 141 (0, 0))) := keepH (by rw [hw0, hR]; exact heap_alloc_new _ _)
  have HK0 : Hid (∀ k, D k → w0.heap[k]? = w.heap[k]?) := keepH (fun k e => by rw [hw0]; exact Below.heap_alloc _ _ _ (h.lt k e))
  have HDR : Hid (∀ k, D k → k ≠ R) := keepH (fun k e z => by have := h.lt k e; omega)
  have HW0 := keepH hw0
  have HR := keepH hR
  have HWR : Hid (W.heap.size ≤ R) := keepH (by rw [hR]; exact h.chg.size)
  have hA := hS0.aloc (List.replicate sl 0) w0.heap.size sl rfl (by simp) (by simp; omega) (by omega)
  rw [List.length_replicate] at hA
  have HA := keepH hA
  obtain ⟨wm, hwm⟩ : ∃ wm, wm = w0.alloc (.cells ((List.replicate sl 0).map u64V).toArray 23) := ⟨_, rfl⟩
  have hmk := make_u64n sl (by omega) w0
  rw [← hwm] at hmk HA
  have H1 := keepH h1
  clear h hS0 hw0 hR hA hwm h1 h2
  by_cases hr : 66 + sl ≤ most
  · have ho : alOk most 66 sl := ⟨by have := H1.out; omega, by omega⟩
    rw [alAt, if_pos ho] at HA
    rw [if_pos hr]
    clear hr ho
    go_enter Tryz.func110, Tryz.ntmps110
    go_upto_region 1 with fail
    rw [← HW0.out, ← HR.out]
    go_wp2_with fail
    refine HA.out.mono ?_
    rintro e w3 ⟨rfl, S3, K3⟩
    have HX3 : Hid (w3.heap[R]? = some (.cells #[.int .u64 0, .int .u64 0, .int .i64 0, .int .u64 0] 141 (0, 0))) := keepH ((K3 R (.inr rfl)).trans HX0.out)
    have HK3 : Hid (∀ k, D k → w3.heap[k]? = w.heap[k]?) := keepH (fun k e => (K3 k (.inl e)).trans (HK0.out k e))
    have HC3 := keepH S3.chg
    clear S3 K3 hmk HX0 HK0 HA HS0
    go_wp2_with (first | (refine wpList_store_row rfl 141 _ _ rfl R #[.int .u64 (cam : Int), .int .u64 (66 : Int), .int .i64 (sl : Int), .int .u64 (stp : Int)] rfl rfl 141 #[.int .u64 0, .int .u64 0, .int .i64 0, .int .u64 0] HX3.out (by kernel_rfl) rfl (by simp [Value.oneCell']) ?_) | fail)
    have hrow := setRow_heap _ R _ #[.int .u64 (cam : Int), .int .u64 (66 : Int), .int .i64 (sl : Int), .int .u64 (stp : Int)] 141 (0, 0) HX3.out
    have e0 := cell_of hrow 0
    have e1 := cell_of hrow 1
    have e2 := cell_of hrow 2
    have e3 := cell_of hrow 3
    simp at e0 e1 e2 e3
    refine bodyPost_ret (v := .tuple #[.agg #[.int .u64 (cam : Int), .int .u64 (66 : Int), .int .i64 (sl : Int), .int .u64 (stp : Int)], .int .i64 0]) (by simp [results, Tryz.results110, go_sem, e0, e1, e2, e3]) rfl ?_
    exact ⟨⟨_, _, _, _, rfl⟩, HC3.out.trans (setRow_chg _ R _) (fun _ _ x => x) (fun i hi e => by have := HWR.out; omega), fun k e => (setRow_other _ _ _ _ (HDR.out k e)).trans (HK3.out k e)⟩
  · have ho : ¬ alOk most 66 sl := fun h => hr (by have := h.2; omega)
    rw [alAt, if_neg ho] at HA
    rw [if_neg hr]
    clear hr ho
    go_enter Tryz.func110, Tryz.ntmps110
    go_upto_region 1 with fail
    rw [← HW0.out, ← HR.out]
    go_wp2_with fail
    refine HA.out.mono ?_
    rintro e w3 ⟨rfl, S3, K3⟩
    have HX3 : Hid (w3.heap[R]? = some (.cells #[.int .u64 0, .int .u64 0, .int .i64 0, .int .u64 0] 141 (0, 0))) := keepH ((K3 R (.inr rfl)).trans HX0.out)
    have HK3 : Hid (∀ k, D k → w3.heap[k]? = w.heap[k]?) := keepH (fun k e => (K3 k (.inl e)).trans (HK0.out k e))
    have HC3 := keepH S3.chg
    clear S3 K3 hmk HX0 HK0 HA HS0
    go_wp2_with (first | (refine wpList_store_row rfl 141 _ _ rfl R #[.int .u64 0, .int .u64 0, .int .i64 0, .int .u64 0] rfl rfl 141 #[.int .u64 0, .int .u64 0, .int .i64 0, .int .u64 0] HX3.out (by kernel_rfl) rfl (by simp [Value.oneCell']) ?_) | fail)
    have hrow := setRow_heap _ R _ #[.int .u64 0, .int .u64 0, .int .i64 0, .int .u64 0] 141 (0, 0) HX3.out
    have e0 := cell_of hrow 0
    have e1 := cell_of hrow 1
    have e2 := cell_of hrow 2
    have e3 := cell_of hrow 3
    simp at e0 e1 e2 e3
    refine bodyPost_ret (v := .tuple #[.agg #[.int .u64 0, .int .u64 0, .int .i64 0, .int .u64 0], .int .i64 30]) (by simp [results, Tryz.results110, go_sem, e0, e1, e2, e3]) rfl ?_
    exact ⟨⟨_, _, _, _, rfl⟩, HC3.out.trans (setRow_chg _ R _) (fun _ _ x => x) (fun i hi e => by have := HWR.out; omega), fun k e => (setRow_other _ _ _ _ (HDR.out k e)).trans (HK3.out k e)⟩
set_option maxRecDepth 100000 in
set_option maxHeartbeats 4000000 in
theorem emake_n {W : World} {nm most made : Nat} {w : World} {D : Nat → Prop} (h : NR W w nm most 66 made D) (hm : 128 ≤ most) (hmd : made < 1000) (cam sl stp : Nat) (h1 : 1 ≤ sl ∧ sl ≤ 256) (h2 : 1 ≤ stp ∧ stp ≤ 1099511627776) :
    Calls Tryz.prog 87 #[.pointer (some ⟨nm, 0, none⟩), .int .i64 (-1), .int .u64 (cam : Int), .int .i64 (sl : Int), .int .u64 (stp : Int)] w fun e w' => (∃ x0 x1 x2 x3 : Int, e = .returned (.tuple #[.agg #[.int .u64 x0, .int .u64 x1, .int .i64 x2, .int .u64 x3], .int .i64 (if 66 + sl ≤ most then 0 else 30)])) ∧ Chg (fun _ => False) W w' ∧ ∀ k, D k → w'.heap[k]? = w.heap[k]? := by
  have t1 : ¬ (sl : Int) < 1 := by omega
  have t2 : ¬ (sl : Int) > 256 := by omega
  have t3 : ¬ (stp : Int) < 1 := by omega
  have t4 : ¬ (stp : Int) > 1099511627776 := by omega
  obtain ⟨w0, hw0⟩ : ∃ w0, w0 = w.alloc (.cells #[.int .u64 0, .int .u64 0, .int .i64 0, .int .u64 0] 141) := ⟨_, rfl⟩
  obtain ⟨R, hR⟩ : ∃ R, R = w.heap.size := ⟨_, rfl⟩
  have hS0 := h.new (.cells #[.int .u64 0, .int .u64 0, .int .i64 0, .int .u64 0] 141)
  rw [← hw0, ← hR] at hS0
  have HS0 := keepH hS0
  have HX0 : Hid (w0.heap[R]? = some (.cells #[.int .u64 0, .int .u64 0, .int .i64 0, .int .u64 0] 141 (0, 0))) := keepH (by rw [hw0, hR]; exact heap_alloc_new _ _)
  have HK0 : Hid (∀ k, D k → w0.heap[k]? = w.heap[k]?) := keepH (fun k e => by rw [hw0]; exact Below.heap_alloc _ _ _ (h.lt k e))
  have HDR : Hid (∀ k, D k → k ≠ R) := keepH (fun k e z => by have := h.lt k e; omega)
  have HW0 := keepH hw0
  have HR := keepH hR
  have HWR : Hid (W.heap.size ≤ R) := keepH (by rw [hR]; exact h.chg.size)
  have hA := hS0.aloc (List.replicate sl 0) w0.heap.size sl rfl (by simp) (by simp; omega) (by omega)
  rw [List.length_replicate] at hA
  have HA := keepH hA
  obtain ⟨wm, hwm⟩ : ∃ wm, wm = w0.alloc (.cells ((List.replicate sl 0).map u64V).toArray 23) := ⟨_, rfl⟩
  have hmk := make_u64n sl (by omega) w0
  rw [← hwm] at hmk HA
  have H1 := keepH h1
  clear h hS0 hw0 hR hA hwm h1 h2
  by_cases hr : 66 + sl ≤ most
  · have ho : alOk most 66 sl := ⟨by have := H1.out; omega, by omega⟩
    rw [alAt, if_pos ho] at HA
    rw [if_pos hr]
    clear hr ho
    go_enter Tryz.func87, Tryz.ntmps87
    go_upto_region 1 with fail
    rw [← HW0.out, ← HR.out]
    go_wp2_with fail
    refine HA.out.mono ?_
    rintro e w3 ⟨rfl, S3, K3⟩
    have HX3 : Hid (w3.heap[R]? = some (.cells #[.int .u64 0, .int .u64 0, .int .i64 0, .int .u64 0] 141 (0, 0))) := keepH ((K3 R (.inr rfl)).trans HX0.out)
    have HK3 : Hid (∀ k, D k → w3.heap[k]? = w.heap[k]?) := keepH (fun k e => (K3 k (.inl e)).trans (HK0.out k e))
    have HC3 := keepH S3.chg
    clear S3 K3 hmk HX0 HK0 HA HS0
    go_wp2_with (first | (refine wpList_store_row rfl 141 _ _ rfl R #[.int .u64 (cam : Int), .int .u64 (66 : Int), .int .i64 (sl : Int), .int .u64 (stp : Int)] rfl rfl 141 #[.int .u64 0, .int .u64 0, .int .i64 0, .int .u64 0] HX3.out (by kernel_rfl) rfl (by simp [Value.oneCell']) ?_) | fail)
    have hrow := setRow_heap _ R _ #[.int .u64 (cam : Int), .int .u64 (66 : Int), .int .i64 (sl : Int), .int .u64 (stp : Int)] 141 (0, 0) HX3.out
    have e0 := cell_of hrow 0
    have e1 := cell_of hrow 1
    have e2 := cell_of hrow 2
    have e3 := cell_of hrow 3
    simp at e0 e1 e2 e3
    refine bodyPost_ret (v := .tuple #[.agg #[.int .u64 (cam : Int), .int .u64 (66 : Int), .int .i64 (sl : Int), .int .u64 (stp : Int)], .int .i64 0]) (by simp [results, Tryz.results87, go_sem, e0, e1, e2, e3]) rfl ?_
    exact ⟨⟨_, _, _, _, rfl⟩, HC3.out.trans (setRow_chg _ R _) (fun _ _ x => x) (fun i hi e => by have := HWR.out; omega), fun k e => (setRow_other _ _ _ _ (HDR.out k e)).trans (HK3.out k e)⟩
  · have ho : ¬ alOk most 66 sl := fun h => hr (by have := h.2; omega)
    rw [alAt, if_neg ho] at HA
    rw [if_neg hr]
    clear hr ho
    go_enter Tryz.func87, Tryz.ntmps87
    go_upto_region 1 with fail
    rw [← HW0.out, ← HR.out]
    go_wp2_with fail
    refine HA.out.mono ?_
    rintro e w3 ⟨rfl, S3, K3⟩
    have HX3 : Hid (w3.heap[R]? = some (.cells #[.int .u64 0, .int .u64 0, .int .i64 0, .int .u64 0] 141 (0, 0))) := keepH ((K3 R (.inr rfl)).trans HX0.out)
    have HK3 : Hid (∀ k, D k → w3.heap[k]? = w.heap[k]?) := keepH (fun k e => (K3 k (.inl e)).trans (HK0.out k e))
    have HC3 := keepH S3.chg
    clear S3 K3 hmk HX0 HK0 HA HS0
    go_wp2_with (first | (refine wpList_store_row rfl 141 _ _ rfl R #[.int .u64 0, .int .u64 0, .int .i64 0, .int .u64 0] rfl rfl 141 #[.int .u64 0, .int .u64 0, .int .i64 0, .int .u64 0] HX3.out (by kernel_rfl) rfl (by simp [Value.oneCell']) ?_) | fail)
    have hrow := setRow_heap _ R _ #[.int .u64 0, .int .u64 0, .int .i64 0, .int .u64 0] 141 (0, 0) HX3.out
    have e0 := cell_of hrow 0
    have e1 := cell_of hrow 1
    have e2 := cell_of hrow 2
    have e3 := cell_of hrow 3
    simp at e0 e1 e2 e3
    refine bodyPost_ret (v := .tuple #[.agg #[.int .u64 0, .int .u64 0, .int .i64 0, .int .u64 0], .int .i64 30]) (by simp [results, Tryz.results87, go_sem, e0, e1, e2, e3]) rfl ?_
    exact ⟨⟨_, _, _, _, rfl⟩, HC3.out.trans (setRow_chg _ R _) (fun _ _ x => x) (fun i hi e => by have := HWR.out; omega), fun k e => (setRow_other _ _ _ _ (HDR.out k e)).trans (HK3.out k e)⟩
end Go.Proofs.YtmmaniolaljjlaaGreatDoor
/- Numbers as texts, there and back; a text cut at a byte. Pure. -/
namespace Go.Proofs.YtmmaniolaljjlaaGreatDoor
open Go.Lib
set_option linter.unusedVariables false

def noB (b : UInt8) (l : List UInt8) : Prop := ∀ x ∈ l, x ≠ b
theorem noB.append {b : UInt8} {l r : List UInt8} (h : noB b l) (h' : noB b r) : noB b (l ++ r) := fun x hx => by
  rcases List.mem_append.mp hx with hx | hx
  · exact h x hx
  · exact h' x hx
theorem noB.cons {b c : UInt8} {r : List UInt8} (h : c ≠ b) (h' : noB b r) : noB b (c :: r) := fun x hx => by
  rcases List.mem_cons.mp hx with rfl | hx
  · exact h
  · exact h' x hx
theorem noB_nil (b : UInt8) : noB b [] := fun x h => by simp at h
theorem ix_at {b : UInt8} {a r : List UInt8} (h : noB b a) : indexByte (a ++ b :: r) b = (a.length : Int) := by
  induction a with
  | nil => simp [indexByte]
  | cons x t ih =>
    have hx := h x (by simp)
    have h2 := ih (fun y hy => h y (by simp [hy]))
    simp only [List.cons_append, indexByte, h2]
    rw [if_neg (by simpa using hx), if_neg (by simp)]
    simp
theorem ix_none {b : UInt8} {a : List UInt8} (h : noB b a) : indexByte a b = -1 := by
  induction a with
  | nil => rfl
  | cons x t ih =>
    have hx := h x (by simp)
    simp [indexByte, hx, ih (fun y hy => h y (by simp [hy]))]
theorem ix_cases (b : UInt8) (l : List UInt8) : noB b l ∨ (∃ a r, noB b a ∧ l = a ++ b :: r) := by
  induction l with
  | nil => exact Or.inl (noB_nil b)
  | cons x t ih =>
    by_cases hx : x = b
    · subst hx
      exact Or.inr ⟨[], t, noB_nil _, rfl⟩
    · rcases ih with h1 | ⟨a, r, ha, rfl⟩
      · exact Or.inl (h1.cons hx)
      · exact Or.inr ⟨x :: a, r, ha.cons hx, rfl⟩

theorem p10_append : ∀ (l r : List UInt8) (acc : Nat), parseUint10 acc (l ++ r) = (match parseUint10 acc l with | .ok a => parseUint10 a r | .syntax => .syntax | .range => .range)
  | [], r, acc => by simp [parseUint10]
  | c :: t, r, acc => by
    simp only [List.cons_append, parseUint10]
    split
    · split
      · rfl
      · split
        · rfl
        · exact p10_append t r _
    · rfl
theorem p10_dec (u : Nat) (h : u < 18446744073709551616) : parseUint10 0 (decDigits u) = .ok u := by
  induction u using Nat.strongRecOn with
  | _ u ih =>
    rw [decDigits]
    split
    · rename_i h10
      have e : (UInt8.ofNat (48 + u)).toNat = 48 + u := by simp [UInt8.toNat_ofNat']; omega
      simp only [parseUint10, e]
      rw [if_pos (by omega), if_neg (by omega), if_neg (by omega)]
      congr 1; omega
    · rename_i h10
      have e : (UInt8.ofNat (48 + u % 10)).toNat = 48 + u % 10 := by simp [UInt8.toNat_ofNat']; omega
      rw [p10_append, ih (u / 10) (by omega) (by omega)]
      simp only [parseUint10, e]
      rw [if_pos (by omega), if_neg (by omega), if_neg (by omega)]
      congr 1; omega
theorem dec_ne (u : Nat) : decDigits u ≠ [] := by
  rw [decDigits]; split <;> simp
theorem dec_digit (u : Nat) : ∀ x ∈ decDigits u, 48 ≤ x.toNat ∧ x.toNat ≤ 57 := by
  induction u using Nat.strongRecOn with
  | _ u ih =>
    intro x hx
    rw [decDigits] at hx
    split at hx
    · rename_i h
      simp only [List.mem_singleton] at hx
      subst hx
      simp [UInt8.toNat_ofNat']; omega
    · rename_i h
      rcases List.mem_append.mp hx with hx | hx
      · exact ih (u / 10) (by omega) x hx
      · simp only [List.mem_singleton] at hx
        subst hx
        simp [UInt8.toNat_ofNat']; omega
theorem mag_dec (u : Nat) (h : u < 18446744073709551616) : parseMag (decDigits u) = .ok u := by
  unfold parseMag
  rw [if_neg (dec_ne u)]
  exact p10_dec u h
theorem atoi_itoa (n : Int) (h0 : -9223372036854775808 ≤ n) (h1 : n < 9223372036854775808) : atoiAll (itoa n) = .ok n := by
  by_cases hn : n < 0
  · obtain ⟨u, rfl⟩ : ∃ u : Nat, n = -(u : Int) := ⟨n.natAbs, by omega⟩
    rw [itoa_neg u (by omega)]
    unfold atoiAll
    simp only
    rw [if_pos (Or.inr (by decide)), mag_dec u (by omega)]
    simp only
    rw [if_neg (by simp), if_neg (by omega), if_pos (by decide)]
  · obtain ⟨u, rfl⟩ : ∃ u : Nat, n = (u : Int) := ⟨n.toNat, by omega⟩
    rw [itoa_nonneg]
    have hm := mag_dec u (by omega)
    have hd := dec_digit u
    cases hc : decDigits u with
    | nil => exact absurd hc (dec_ne u)
    | cons c r =>
      rw [hc] at hm hd
      have := hd c (by simp)
      unfold atoiAll
      simp only
      rw [if_neg (by omega), hm]
      simp only
      rw [if_neg (by omega), if_neg (by omega), if_neg (by omega)]
theorem itoa_byte (n : Int) : ∀ x ∈ itoa n, x.toNat = 45 ∨ (48 ≤ x.toNat ∧ x.toNat ≤ 57) := by
  intro x hx
  unfold itoa at hx
  split at hx
  · rcases List.mem_cons.mp hx with rfl | hx
    · exact Or.inl (by decide)
    · exact Or.inr (dec_digit _ x hx)
  · exact Or.inr (dec_digit _ x hx)
theorem itoa_no (n : Int) (b : UInt8) (hb : b.toNat = 32 ∨ b.toNat = 10) : noB b (itoa n) := by
  intro x hx e
  subst e
  have := itoa_byte n x hx
  omega
theorem itoa_dash (n : Int) : itoa n ≠ [45] := by
  unfold itoa
  split
  · intro h
    injection h with _ h
    exact dec_ne _ h
  · intro h
    have := dec_digit n.toNat 45 (by rw [h]; simp)
    revert this; decide

theorem ix_sub (l : List UInt8) (c : UInt8) : index l [c] = indexByte l c := by
  induction l with
  | nil => rfl
  | cons x t ih =>
    simp only [index, indexByte, ih]
    by_cases h : x = c
    · subst h; simp [List.isPrefixOf]
    · have h' : (c == x) = false := by simpa using fun e => h e.symm
      simp [List.isPrefixOf, h, h']
/-- a text of four pieces, cut at its blanks -/
theorem split4 {a b c d : List UInt8} (ha : noB 32 a) (hb : noB 32 b) (hc : noB 32 c) (hd : noB 32 d) : split (a ++ 32 :: (b ++ 32 :: (c ++ 32 :: d))) [32] = [a, b, c, d] := by
  have cnt : count (a ++ 32 :: (b ++ 32 :: (c ++ 32 :: d))) [32] = 3 := by
    rw [count_one]
    have z : ∀ l : List UInt8, noB 32 l → l.count 32 = 0 := fun l h => List.count_eq_zero.mpr (fun hm => h 32 hm rfl)
    simp [List.count_append, z a ha, z b hb, z c hc, z d hd]
  have step : ∀ (k : Nat) (x r : List UInt8), noB 32 x → splitK [32] 0 (k + 1) (x ++ 32 :: r) = x :: splitK [32] 0 k r := by
    intro k x r hx
    rw [splitK, ix_sub, ix_at hx, if_neg (by simp)]
    congr 1
    · simp
    · congr 1
      have e : (x.length : Int).toNat + ([32] : List UInt8).length = x.length + 1 := by simp
      rw [e]
      rw [show x ++ 32 :: r = (x ++ [(32 : UInt8)]) ++ r by simp, List.drop_left' (by simp)]
  unfold split
  rw [cnt, step _ _ _ ha, step _ _ _ hb, step _ _ _ hc]
  rfl
end Go.Proofs.YtmmaniolaljjlaaGreatDoor
