/- Laws of no program: append of so many zeros to a row of one's own; append as a step of a region that draws; blocks by their cells; what has changed. -/
import Derived.Test.YtahgaghokpicgaaGreatRows
import Derived.WalkKit
import Derived.ProofKit
import Derived.ArgAppend
import Derived.Maps.AppendAt
import Derived.Laws.OwnMore
import Derived.Laws.CopyOwn
import Derived.WalkLawsBesides
import Derived.Lib.AppendZeros
import Derived.Deep.RegionLaw
import Derived.Deep.RegionWith
import Derived.BigQuiet
import Derived.Below
import Derived.Deep.RegionHeld3
import Derived.Deep.Cut
import Derived.Deep.CutBlock
import Derived.Deep.DeepCutAuto
import Derived.Lib.SmallJoins
import Derived.Deep.Slices
import Derived.Carry
import Derived.OpenShut
import Derived.MapViews
import Derived.DeepKeys4
import Derived.Maps.Keyed
import Derived.Shelf.SlMaps.Clone
import Derived.Deep.MidRow
namespace Go.Proofs.YtahgaghokpicgaaGreat
open Go.RowKit
set_option linter.unusedVariables false
set_option maxHeartbeats 16000000
theorem keepH {p : Prop} (h : p) : Hid p := h
structure Chg (F : Nat → Prop) (w w' : World) : Prop where
 os : w'.os = w.os
 tape : w'.tape = w.tape
 output : w'.output = w.output
 size : w.heap.size ≤ w'.heap.size
 block : ∀ k, k < w.heap.size → ¬ F k → w'.heap[k]? = w.heap[k]?
theorem Chg.refl (F : Nat → Prop) (w : World) : Chg F w w := ⟨rfl, rfl, rfl, Nat.le_refl _, fun _ _ _ => rfl⟩
theorem Chg.trans {F G H : Nat → Prop} {a b c : World} (h : Chg F a b) (k : Chg G b c) (hF : ∀ i, i < a.heap.size → F i → H i) (hG : ∀ i, i < a.heap.size → G i → H i) : Chg H a c :=
 ⟨k.os.trans h.os, k.tape.trans h.tape, k.output.trans h.output, Nat.le_trans h.size k.size, fun i hi hn =>
  (k.block i (Nat.lt_of_lt_of_le hi h.size) (fun x => hn (hG i hi x))).trans (h.block i hi (fun x => hn (hF i hi x)))⟩
theorem Chg.mono {F G : Nat → Prop} {a b : World} (h : Chg F a b) (hF : ∀ i, i < a.heap.size → F i → G i) : Chg G a b :=
 ⟨h.os, h.tape, h.output, h.size, fun i hi hn => h.block i hi (fun x => hn (hF i hi x))⟩
theorem Chg.drew {F : Nat → Prop} {a b : World} (h : Chg F a b) : Chg F a b.drew := ⟨h.os, h.tape, h.output, h.size, h.block⟩
theorem Chg.alloc {F : Nat → Prop} {a b : World} (h : Chg F a b) (o : Obj) : Chg F a (b.alloc o) :=
 ⟨h.os, h.tape, h.output, by have := h.size; simp; omega, fun i hi hn => (Below.heap_alloc _ _ _ (Nat.lt_of_lt_of_le hi h.size)).trans (h.block i hi hn)⟩
theorem Chg.setCell {F : Nat → Prop} {a b : World} (h : Chg F a b) {p : Addr} (hp : p.block < a.heap.size → F p.block) (u : Value) : Chg F a (b.setCell p u) :=
 ⟨h.os, h.tape, h.output, by have := h.size; simp [World.setCell]; omega, fun i hi hn => (Below.heap_setCell _ _ _ _ (fun e => hn (by subst e; exact hp hi))).trans (h.block i hi hn)⟩
theorem Chg.grown {F : Nat → Prop} {a b c : World} {row : Option Nat} (h : Chg F a b) (hg : b.grownBy c row) (hr : ∀ k, row = some k → k < a.heap.size → F k) : Chg F a c :=
 ⟨hg.os.trans h.os, hg.tape.trans h.tape, hg.output.trans h.output, Nat.le_trans h.size hg.size, fun i hi hn =>
  (hg.block i (Nat.lt_of_lt_of_le hi h.size) (fun e => hn (hr i e.symm hi))).trans (h.block i hi hn)⟩
theorem Chg.below {B : Nat} {a b : World} (h : Chg (fun k => B ≤ k) a b) (hB : B ≤ a.heap.size) : Below B a b := ⟨h.os, h.tape, h.output, h.size, fun k hk => h.block k (by omega) (by omega)⟩
theorem cell_of {W : World} {b : Nat} {cs : Array Value} {t : TypeId} {f : Nat × Nat} (h : W.heap[b]? = some (.cells cs t f)) (k : Nat) : W.cell? ⟨b, k, none⟩ = cs[k]? := by simp [World.cell?, h]
theorem free_of {W : World} {b : Nat} {cs : Array Value} {t : TypeId} (h : W.heap[b]? = some (.cells cs t (0, 0))) (k : Nat) : W.frozen? ⟨b, k, none⟩ = false := by simp [World.frozen?, h]
theorem set_of {W : World} {b : Nat} {cs : Array Value} {t : TypeId} {f : Nat × Nat} (h : W.heap[b]? = some (.cells cs t f)) (k : Nat) (v : Value) : (W.setCell ⟨b, k, none⟩ v).heap[b]? = some (.cells (cs.setIfInBounds k v) t f) := by
 obtain ⟨hlt, hk⟩ := Array.getElem?_eq_some_iff.1 h
 show (W.heap.modify b _)[b]? = _
 rw [Array.getElem?_eq_getElem (by rw [Array.size_modify]; exact hlt), Array.getElem_modify_self, hk]
 rfl
theorem lt_of {W : World} {b : Nat} {o : Obj} (h : W.heap[b]? = some o) : b < W.heap.size := (Array.getElem?_eq_some_iff.1 h).1
theorem other_of {W : World} {b c k : Nat} {o : Obj} (h : W.heap[b]? = some o) (hne : b ≠ c) (v : Value) : (W.setCell ⟨c, k, none⟩ v).heap[b]? = some o := (Below.heap_setCell W ⟨c, k, none⟩ v b hne).trans h
theorem alloc_of {W : World} {b : Nat} {o : Obj} (h : W.heap[b]? = some o) (x : Obj) : (W.alloc x).heap[b]? = some o := (Below.heap_alloc W x b (lt_of h)).trans h
theorem row_kept {W W' : World} {e : TypeId} {s n : Nat} {v : Value} {xs : List Value} (h : W.ownsRow 0 e s v n xs) (hb : ∀ k, v.ownBlock = some k → W'.heap[k]? = W.heap[k]?) : W'.ownsRow 0 e s v n xs := by
 refine ⟨h.1, ?_⟩
 rcases h.2 with h2 | ⟨g, cap, cur, hv, hg, hh, r⟩
 ·exact .inl h2
 ·exact .inr ⟨g, cap, cur, hv, hg, (hb g (by subst hv; rfl)).trans hh, r⟩
theorem rows_apart {W : World} {e e' : TypeId} {s s' n n' : Nat} {v v' : Value} {xs xs' : List Value} (h : W.ownsRow 0 e s v n xs) (h' : W.ownsRow 0 e' s' v' n' xs') (hne : e ≠ e') (k : Nat) (hk : v.ownBlock = some k) : v'.ownBlock ≠ some k := by
 intro hk'
 rcases h.2 with ⟨rfl, _⟩ | ⟨g, cap, cur, rfl, _, hg, _⟩
 ·simp [Value.ownBlock] at hk
 ·rcases h'.2 with ⟨rfl, _⟩ | ⟨g', cap', cur', rfl, _, hg', _⟩
  ·simp [Value.ownBlock] at hk'
  ·simp [Value.ownBlock] at hk hk'
   subst hk
   subst hk'
   rw [hg] at hg'
   simp at hg'
   exact hne hg'.2
theorem row_block {W : World} {e : TypeId} {s n : Nat} {v : Value} {xs : List Value} (h : W.ownsRow 0 e s v n xs) (k : Nat) (hk : v.ownBlock = some k) : ∃ cur, W.heap[k]? = some (.cells cur e (0, 0)) := by
 rcases h.2 with ⟨rfl, _⟩ | ⟨g, cap, cur, rfl, _, hg, _⟩
 ·simp [Value.ownBlock] at hk
 ·simp [Value.ownBlock] at hk
  subst hk
  exact ⟨cur, hg⟩
theorem row_lt {W : World} {e : TypeId} {s n : Nat} {v : Value} {xs : List Value} (h : W.ownsRow 0 e s v n xs) (k : Nat) (hk : v.ownBlock = some k) : k < W.heap.size := (h.lt k hk).2
theorem block_apart {W : World} {e t : TypeId} {s n b : Nat} {v : Value} {xs : List Value} {cs : Array Value} {f : Nat × Nat} (h : W.ownsRow 0 e s v n xs) (hb : W.heap[b]? = some (.cells cs t f)) (hne : e ≠ t) : v.ownBlock ≠ some b := by
 intro hk
 obtain ⟨cur, hc⟩ := row_block h b hk
 rw [hc] at hb
 simp at hb
 exact hne hb.2.1
theorem lj {α : Type _} : (∀ (l : List α) (i : Nat) (a : α), l.toArray.setIfInBounds i a = (l.set i a).toArray) ∧ (∀ (l : List α) (i : Nat) (h : i < l.toArray.size), l.toArray[i] = l[i]'(by simpa using h)) ∧ (∀ (l : List α) (a : α) (i : Nat) (h : i + 1 < (a :: l).length), (a :: l)[i + 1] = l[i]'(Nat.lt_of_succ_lt_succ h)) ∧ (∀ (l : List α) (a : α) (h : 0 < (a :: l).length), (a :: l)[0] = a) ∧ (∀ (l : List α) (a b : α) (i : Nat), (a :: l).set (i + 1) b = a :: l.set i b) ∧ ∀ (l : List α) (a b : α), (a :: l).set 0 b = b :: l :=
 ⟨fun l i a => List.setIfInBounds_toArray l i a, fun _ _ _ => rfl, fun _ _ _ _ => rfl, fun _ _ _ => rfl, fun _ _ _ _ => rfl, fun _ _ _ => rfl⟩
section
variable {P : Program} {ops : Array Oper} {Q : Exit → Act → World → Prop} {md : Region.Mode} {S : World → Prop} {o : Oper} {fuel : Nat} {listed : Array Bool} {a : Act} {w : World}
theorem wT {v : Value} (i : Nat) (hi : ops[i]? = some o) (hw : Region.wanted o (yielded ops a.tmps) = true) (hy : ∀ w, S w → (execOp a.eval o).run P w = .ok (.value v) w) (hS : S w) (h : wpAnyH P md ops Q S fuel (listed.setIfInBounds i true) (a.put o.dst v) w) (hs : Region.noSelect ops = true := by kernel_rfl) (hf : Region.free md ops listed i = true := by kernel_rfl) (hr : (Region.ready md ops listed).contains i = true := by kernel_rfl) (hQ : ∀ c a w, Q (.panic c) (a.put o.dst v) w → Q (.panic c) a w := by exact fun _ _ _ h => h) : wpAnyH P md ops Q S (fuel + 1) listed a w :=
 wpAnyH_take hi hs hf hr hQ (.inl ⟨hw, hy⟩) hS h
theorem wK (i : Nat) (hi : ops[i]? = some o) (hS : S w) (h : wpAnyH P md ops Q S fuel (listed.setIfInBounds i true) (a.put o.dst undef) w) (hw : Region.wanted o (yielded ops a.tmps) = false := by kernel_rfl) (hs : Region.noSelect ops = true := by kernel_rfl) (hf : Region.free md ops listed i = true := by kernel_rfl) (hr : (Region.ready md ops listed).contains i = true := by kernel_rfl) (hQ : ∀ c a w, Q (.panic c) (a.put o.dst undef) w → Q (.panic c) a w := by exact fun _ _ _ h => h) : wpAnyH P md ops Q S (fuel + 1) listed a w :=
 wpAnyH_take hi hs hf hr hQ (.inr ⟨hw, rfl⟩) hS h
theorem wR (i : Nat) (hi : ops[i]? = some o) (h : ∀ K' : Act → World → Prop, Shut (∀ a w, S w → (S w → wpAnyH P md ops Q S fuel (listed.setIfInBounds i true) a w) → K' a w) → if Region.wanted o (yielded ops a.tmps) = true then Oper.wp P o a w K' Q else K' (a.put o.dst undef) w) (hr : Region.ready md ops listed = [i] := by kernel_rfl) : wpAnyH P md ops Q S (fuel + 1) listed a w :=
 wpAnyH_ready hr (by simp) (AllReadyH.cons hi h AllReadyH.nil)
end
theorem al2 {W : World} {x y : Obj} : ((W.alloc x).alloc y).heap[W.heap.size + 1]? = some y := by
 have e := heap_alloc_new (W.alloc x) y
 rw [World.size_alloc] at e
 exact e
theorem al3 {W : World} {x y z : Obj} : (((W.alloc x).alloc y).alloc z).heap[W.heap.size + 1 + 1]? = some z := by
 have e := heap_alloc_new ((W.alloc x).alloc y) z
 rw [World.size_alloc, World.size_alloc] at e
 exact e
theorem Chg.p {W w w' : World} {p : Nat} (h : Chg (fun k => k = p) W w) (k : Chg (fun k => k = p) w w') : Chg (fun k => k = p) W w' := h.trans k (fun _ _ x => x) (fun _ _ x => x)
theorem Chg.pf {W w w' : World} {p : Nat} (h : Chg (fun k => k = p) W w) (k : Chg (fun _ => False) w w') : Chg (fun k => k = p) W w' := h.trans k (fun _ _ x => x) (fun _ _ x => x.elim)
theorem drewN_chg (W : World) (q : Nat) : Chg (fun _ => False) W (W.drewN q) := ⟨rfl, rfl, rfl, Nat.le_refl _, fun _ _ _ => rfl⟩
def u64V (x : Nat) : Value := .int .u64 x
def Blk (W : World) (p : Nat) (t : TypeId) (l : List Value) : Prop := W.heap[p]? = some (.cells l.toArray t (0, 0))
theorem Blk.cell {W : World} {p : Nat} {t : TypeId} {l : List Value} (h : Blk W p t l) (i : Nat) : W.cell? ⟨p, i, none⟩ = l[i]? := by rw [cell_of h i]; simp
theorem Blk.free {W : World} {p : Nat} {t : TypeId} {l : List Value} (h : Blk W p t l) (i : Nat) : W.frozen? ⟨p, i, none⟩ = false := free_of h i
theorem Blk.set {W : World} {p : Nat} {t : TypeId} {l : List Value} (h : Blk W p t l) (i : Nat) (v : Value) : Blk (W.setCell ⟨p, i, none⟩ v) p t (l.set i v) := by
 have e := set_of h i v
 rw [List.setIfInBounds_toArray] at e
 exact e
theorem Blk.chg {W W' : World} {F : Nat → Prop} {p : Nat} {t : TypeId} {l : List Value} (h : Blk W p t l) (hc : Chg F W W') (hn : ¬ F p) : Blk W' p t l := (hc.block p (lt_of h) hn).trans h
theorem setP {W : World} {p i : Nat} (u : Value) : Chg (fun k => k = p) W (W.setCell ⟨p, i, none⟩ u) := (Chg.refl (fun k => k = p) W).setCell (p := ⟨p, i, none⟩) (fun _ => rfl) u
def RowU (W : World) (g : Nat) (zs : List Nat) : Prop := ∃ rest, Blk W g 30 (zs.map u64V ++ rest)
theorem RowU.cell {W : World} {g : Nat} {zs : List Nat} (h : RowU W g zs) (i x : Nat) (hx : zs[i]? = some x) : W.cell? ⟨g, i, none⟩ = some (.int .u64 x) := by
 obtain ⟨rest, h⟩ := h
 rw [h.cell, List.getElem?_append_left (by have := (List.getElem?_eq_some_iff.1 hx).1; simpa using this)]
 simp [hx, u64V]
theorem RowU.free {W : World} {g : Nat} {zs : List Nat} (h : RowU W g zs) (i : Nat) : W.frozen? ⟨g, i, none⟩ = false := by
 obtain ⟨rest, h⟩ := h
 exact h.free i
theorem RowU.chg {W W' : World} {F : Nat → Prop} {g : Nat} {zs : List Nat} (h : RowU W g zs) (hc : Chg F W W') (hn : ¬ F g) : RowU W' g zs := by
 obtain ⟨rest, h⟩ := h
 exact ⟨rest, h.chg hc hn⟩
theorem RowU.set {W : World} {g : Nat} {zs : List Nat} (h : RowU W g zs) (i x : Nat) (hi : i < zs.length) : RowU (W.setCell ⟨g, i, none⟩ (.int .u64 x)) g (zs.set i x) := by
 obtain ⟨rest, h⟩ := h
 refine ⟨rest, ?_⟩
 have e := h.set i (.int .u64 x)
 rw [List.set_append_left _ _ (by simpa using hi)] at e
 rw [List.map_set]
 exact e
set_option maxRecDepth 100000 in
theorem nan_u (x : Nat) (W : World) : Calls Tryz.prog 123 #[.int .u64 x] W fun e W' => e = .returned (.bool false) ∧ W' = W := by
 have b : ((x : Int) != (x : Int)) = false := by simp
 go_enter Tryz.func123, Tryz.ntmps123
 go_wp2_with fail
 go_ret
 exact ⟨by simp, rfl⟩
set_option maxRecDepth 100000 in
theorem less_u (x y : Nat) (W : World) : Calls Tryz.prog 110 #[.int .u64 x, .int .u64 y] W fun e W' => e = .returned (.bool (decide (x < y))) ∧ W' = W := by
 have d : decide ((x : Int) < (y : Int)) = decide (x < y) := by congr 1; exact propext ⟨fun h => by omega, fun h => by omega⟩
 go_enter Tryz.func110, Tryz.ntmps110
 go_wp2_with fail
 refine (nan_u x _).mono ?_
 rintro e w ⟨rfl, rfl⟩
 go_wp2_with fail
 go_ret
 exact ⟨by simp, rfl⟩
end Go.Proofs.YtahgaghokpicgaaGreat
namespace Go.Proofs.YtahgaghokpicgaaGreat
open Go.RowKit Go.Joins Go.ChangeShapes Go.WideShapes Go.Deep
set_option linter.unusedVariables false
set_option maxHeartbeats 16000000
theorem cell_chg {F : Nat → Prop} {W W' : World} (h : Chg F W W') {a : Addr} {v : Value} (hc : W.cell? a = some v) (hn : ¬ F a.block) : W'.cell? a = some v := by
 have hlt : a.block < W.heap.size := by
  by_cases cb : a.block < W.heap.size
  ·exact cb
  ·simp [World.cell?, Array.getElem?_eq_none (show W.heap.size ≤ a.block by omega)] at hc
 exact (World.cell?_of_block (w := W) (h.block _ hlt hn)).trans hc
theorem bulk_one {H : Type} (d : DataW H) : 1 ≤ Rows.uptoBulk d := by
 cases d with
 | lit l => cases l <;> simp [Rows.uptoBulk]
 | nil => simp [Rows.uptoBulk]
 | ptr d => simp [Rows.uptoBulk]
 | slice elems spare => simp [Rows.uptoBulk]
 | agg parts => simp [Rows.uptoBulk]
 | iface t d => simp [Rows.uptoBulk]
 | map entries => simp [Rows.uptoBulk]
 | held h => simp [Rows.uptoBulk]
theorem cells_each {w : World} {a : Addr} {n : Nat} {cs : List Value} (h : w.cells? 0 a n = some cs) : ∀ j u, cs[j]? = some u → w.cell? (a.add j) = some u := by
 obtain ⟨_, hl, hc⟩ := World.cells?_some h
 intro j u hj
 have hlt : j < n := by
  have := (List.getElem?_eq_some_iff.1 hj).1
  omega
 rw [hc j hlt, hj]
theorem choose_list {α : Type} {P : Nat → α → Prop} (n : Nat) (h : ∀ i, i < n → ∃ a, P i a) : ∃ l : List α, l.length = n ∧ ∀ (i : Nat) (a : α), l[i]? = some a → P i a := by
 induction n with
 | zero => exact ⟨[], rfl, fun i a e => by simp at e⟩
 | succ n ih =>
  obtain ⟨l, hl, hp⟩ := ih (fun i hi => h i (by omega))
  obtain ⟨a, ha⟩ := h n (by omega)
  refine ⟨l ++ [a], by simp [hl], fun i b e => ?_⟩
  by_cases c : i < n
  ·rw [List.getElem?_append_left (by omega)] at e
   exact hp i b e
  ·have hi : i = n := by
     have := (List.getElem?_eq_some_iff.1 e).1
     simp [hl] at this
     omega
   subst hi
   rw [← hl] at e
   simp at e
   subst e
   exact ha
theorem nat_u64 {n : Int} (h : (Lit.int .u64 n).wf = true) : ∃ m : Nat, n = (m : Int) ∧ m < 18446744073709551616 := by
 have b := bounds_u64 h
 exact ⟨n.toNat, by omega, by omega⟩
def PairsAt (W : World) (p : Option Addr) (l : List (Nat × Nat)) : Prop := l = [] ∨ ∃ bk off, p = some ⟨bk, off, none⟩ ∧ bk < W.heap.size ∧ ∀ (i : Nat) (k x : Nat), l[i]? = some (k, x) → k < 18446744073709551616 ∧ x < 18446744073709551616 ∧ W.cell? ⟨bk, off + i * 2, none⟩ = some (.int .u64 k) ∧ W.cell? ⟨bk, off + i * 2 + 1, none⟩ = some (.int .u64 x)
end Go.Proofs.YtahgaghokpicgaaGreat
namespace Go.Proofs.YtahgaghokpicgaaGreat
open Go.RowKit Go.Joins
theorem wf_u64 {n : Nat} (h : n < 18446744073709551616) : (Lit.int .u64 n).wf = true := by
 have e1 : IntKind.u64.min = 0 := by decide
 have e2 : IntKind.u64.max = 18446744073709551615 := by decide
 simp [Lit.wf, e1, e2]
 omega
theorem trod_u (n : Nat) (h : n < 18446744073709551616) (w : World) : ∃ m, DataW.trod (H := Unit) (fun _ => ()) Tryz.prog w 0 (fun _ => true) true m 30 [.int .u64 n] = some (.lit (.int .u64 n), []) :=
 ⟨1, by simp [DataW.trod, Tryz.underlying30, wf_u64 h]⟩
theorem pair_key (a b : Nat) (ha : a < 18446744073709551616) (hb : b < 18446744073709551616) (w : World) : ∃ l, keyOf Tryz.prog 86 (.agg #[.int .u64 a, .int .u64 b]) = some l := by
 have t := shut_agg2 (enc := fun _ => ()) (P := Tryz.prog) (w := w) (base := 0) (spare := fun _ => true) (held := true) Tryz.underlying86 (by kernel_rfl) (by kernel_rfl) (trod_u a ha w) (trod_u b hb w)
 exact ⟨_, (keyOf_asKey (by kernel_rfl) (by kernel_rfl) (by kernel_rfl) t).1⟩
set_option maxRecDepth 100000 in
theorem pair_eql (a b c d : Nat) (ha : a < 18446744073709551616) (hb : b < 18446744073709551616) (hc : c < 18446744073709551616) (hd : d < 18446744073709551616) (w : World) :
    (Op.equal 86 (.agg #[.int .u64 a, .int .u64 b]) (.agg #[.int .u64 c, .int .u64 d])).run Tryz.prog w = .ok (decide ((a, b) = (c, d))) w := by
 obtain ⟨l, hl⟩ := pair_key a b ha hb w
 obtain ⟨l', hl'⟩ := pair_key c d hc hd w
 obtain ⟨r, hr, hi⟩ := run_equal_deep (P := Tryz.prog) w (m := 3) (by omega) (by kernel_rfl) (by kernel_rfl) hl hl'
 rw [hr]
 congr 1
 by_cases e : (a, b) = (c, d)
 ·simp only [Prod.mk.injEq] at e
  obtain ⟨rfl, rfl⟩ := e
  rw [hl] at hl'
  simp only [Option.some.injEq] at hl'
  simp [hi.2 hl']
 ·have h1 : ¬ r = true := fun h => by
    have h2 := hi.1 h
    subst h2
    have h3 := keyOf_inj_deep (P := Tryz.prog) (m := 3) (by kernel_rfl) (by kernel_rfl) hl hl'
    simp at h3
    exact e (by simp; omega)
  simp [e, h1]
set_option maxRecDepth 100000 in
theorem pair_neq (a b c d : Nat) (ha : a < 18446744073709551616) (hb : b < 18446744073709551616) (hc : c < 18446744073709551616) (hd : d < 18446744073709551616) (w : World) :
    (binOp .neq 86 (.agg #[.int .u64 a, .int .u64 b]) (.agg #[.int .u64 c, .int .u64 d])).run Tryz.prog w = .ok (.bool (!decide ((a, b) = (c, d)))) w := by
 have h := pair_eql a b c d ha hb hc hd w
 simp only [binOp, go_sem]
 simp [h, Result.andThen]
end Go.Proofs.YtahgaghokpicgaaGreat
namespace Go.Proofs.YtahgaghokpicgaaGreat
open Go.RowKit
set_option linter.unusedVariables false
set_option maxHeartbeats 16000000
theorem PairsAt.get {W W' : World} {p : Option Addr} {l : List (Nat × Nat)} (h : PairsAt W p l) (c : Chg (fun _ => False) W W') (i k x : Nat) (hi : l[i]? = some (k, x)) : ∃ bk off, p = some ⟨bk, off, none⟩ ∧ k < 18446744073709551616 ∧ x < 18446744073709551616 ∧ W'.cell? ⟨bk, off + i * 2, none⟩ = some (.int .u64 k) ∧ W'.cell? ⟨bk, off + i * 2 + 1, none⟩ = some (.int .u64 x) := by
 rcases h with rfl | ⟨bk, off, rfl, _, h⟩
 ·simp at hi
 ·obtain ⟨b1, b2, h1, h2⟩ := h i k x hi
  exact ⟨bk, off, rfl, b1, b2, cell_chg c h1 (fun x => x), cell_chg c h2 (fun x => x)⟩
set_option maxRecDepth 100000 in
theorem r_pairs (pa pb : Option Addr) (ca cb : Nat) (la lb : List (Nat × Nat)) (W : World) (hA : PairsAt W pa la) (hB : PairsAt W pb lb) (hla : la.length ≤ 17592186044416) (hlb : lb.length ≤ 17592186044416) :
    Calls Tryz.prog 39 #[.slice pa la.length ca, .slice pb lb.length cb] W fun e W' => e = .returned (.bool (decide (la = lb))) ∧ Chg (fun _ => False) W W' := by
 have HA := keepH hA
 have HB := keepH hB
 clear hA hB
 by_cases hl : la.length = lb.length
 ·have d1 : decide (la.length = lb.length) = true := decide_eq_true hl
  have b1 : ((la.length : Int) != (lb.length : Int)) = false := by rw [hl]; simp
  go_enter Tryz.func39, Tryz.ntmps39
  go_wp2_with fail
  go_loopw [5] (fun s wr => ∃ k : Nat, k ≤ la.length ∧ s = .int .i64 k ∧ Hid ((∀ j, j < k → la[j]? = lb[j]?) ∧ Chg (fun _ => False) W wr)) (fun s _ => la.length - (intOf s).toNat)
  case atStart => exact ⟨0, by omega, rfl, keepH ⟨fun j h => absurd h (by omega), Chg.refl _ _⟩⟩
  case round =>
   obtain ⟨k, hk, rfl, HK⟩ := hrel
   by_cases hlt : k < la.length
   ·have t1 : (k : Int) < (la.length : Int) := by omega
    have t2 : (k : Int) < (lb.length : Int) := by omega
    obtain ⟨⟨a, b⟩, hx⟩ : ∃ x, la[k]? = some x := ⟨la[k], List.getElem?_eq_getElem hlt⟩
    obtain ⟨⟨c, d⟩, hy⟩ : ∃ x, lb[k]? = some x := ⟨lb[k], List.getElem?_eq_getElem (by omega)⟩
    obtain ⟨bk, off, rfl, ba, bb, c0, c1⟩ := HA.out.get HK.out.2 k a b hx
    obtain ⟨bk', off', rfl, bc, bd, d0, d1'⟩ := HB.out.get HK.out.2 k c d hy
    have hpn := pair_neq a b c d ba bb bc bd
    have HX : Hid (la[k]? = some (a, b) ∧ lb[k]? = some (c, d)) := ⟨hx, hy⟩
    clear hx hy
    by_cases e : (a, b) = (c, d)
    ·have dd : decide ((a, b) = (c, d)) = true := decide_eq_true e
     rw [dd] at hpn
     have HE := keepH e
     clear dd e
     go_wp2_with fail
     go_quiet (fail)
     go_wp2_with fail
     go_roundw
     case rel => exact ⟨k + 1, by omega, by first | rfl | go_num, keepH ⟨fun j hj => by
      by_cases z : j = k
      ·subst z; rw [HX.out.1, HX.out.2, HE.out]
      ·exact HK.out.1 j (by omega), HK.out.2.trans (H := fun _ => False) ⟨rfl, rfl, rfl, Nat.le_refl _, fun _ _ _ => rfl⟩ (fun _ _ x => x) (fun _ _ x => x)⟩⟩
     case measure => simp [intOf]; omega
    ·have dd : decide ((a, b) = (c, d)) = false := decide_eq_false e
     rw [dd] at hpn
     have HE := keepH e
     clear dd e
     go_wp2_with fail
     go_quiet (fail)
     go_wp2_with fail
     go_ret
     have hne : ¬ la = lb := fun z => HE.out (by have q1 := HX.out.1; rw [z, HX.out.2] at q1; simpa using q1.symm)
     exact ⟨by simp [hne], HK.out.2.trans (H := fun _ => False) ⟨rfl, rfl, rfl, Nat.le_refl _, fun _ _ _ => rfl⟩ (fun _ _ x => x) (fun _ _ x => x)⟩
   ·obtain rfl : k = la.length := by omega
    have t1 : ¬ (la.length : Int) < (la.length : Int) := by omega
    go_wp2_with fail
    go_ret
    have he : la = lb := by
     apply List.ext_getElem?
     intro j
     by_cases z : j < la.length
     ·exact HK.out.1 j z
     ·rw [List.getElem?_eq_none (by omega), List.getElem?_eq_none (by omega)]
    exact ⟨by simp [he], HK.out.2⟩
 ·have d1 : decide (la.length = lb.length) = false := decide_eq_false hl
  have b1 : ((la.length : Int) != (lb.length : Int)) = true := bne_iff_ne.2 (by omega)
  have hne : ¬ la = lb := fun z => hl (by rw [z])
  have HNE := keepH hne
  clear hne
  go_enter Tryz.func39, Tryz.ntmps39
  go_wp2_with fail
  go_ret
  exact ⟨by simp [HNE.out], Chg.refl _ _⟩
set_option maxRecDepth 100000 in
theorem m_equal (pa pb : Option Addr) (ca cb : Nat) (la lb : List (Nat × Nat)) (W : World) (hA : PairsAt W pa la) (hB : PairsAt W pb lb) (hla : la.length ≤ 17592186044416) (hlb : lb.length ≤ 17592186044416) :
    Calls Tryz.prog 85 #[.slice pa la.length ca, .slice pb lb.length cb] W fun e W' => e = .returned (.bool (decide (la = lb))) ∧ Chg (fun _ => False) W W' := by
 have HA := keepH hA
 have HB := keepH hB
 clear hA hB
 by_cases hl : la.length = lb.length
 ·have d1 : decide (la.length = lb.length) = true := decide_eq_true hl
  have b1 : ((la.length : Int) != (lb.length : Int)) = false := by rw [hl]; simp
  go_enter Tryz.func85, Tryz.ntmps85
  go_wp2_with fail
  go_loopw [13] (fun s wr => ∃ k : Nat, k ≤ la.length ∧ s = .int .i64 k ∧ Hid ((∀ j, j < k → la[j]? = lb[j]?) ∧ Chg (fun _ => False) W wr)) (fun s _ => la.length - (intOf s).toNat)
  case atStart => exact ⟨0, by omega, rfl, keepH ⟨fun j h => absurd h (by omega), Chg.refl _ _⟩⟩
  case round =>
   obtain ⟨k, hk, rfl, HK⟩ := hrel
   by_cases hlt : k < la.length
   ·have t1 : (k : Int) < (la.length : Int) := by omega
    have t2 : (k : Int) < (lb.length : Int) := by omega
    obtain ⟨⟨a, b⟩, hx⟩ : ∃ x, la[k]? = some x := ⟨la[k], List.getElem?_eq_getElem hlt⟩
    obtain ⟨⟨c, d⟩, hy⟩ : ∃ x, lb[k]? = some x := ⟨lb[k], List.getElem?_eq_getElem (by omega)⟩
    obtain ⟨bk, off, rfl, ba, bb, c0, c1⟩ := HA.out.get HK.out.2 k a b hx
    obtain ⟨bk', off', rfl, bc, bd, d0, d1'⟩ := HB.out.get HK.out.2 k c d hy
    have hpn := pair_neq a b c d ba bb bc bd
    have HX : Hid (la[k]? = some (a, b) ∧ lb[k]? = some (c, d)) := ⟨hx, hy⟩
    clear hx hy
    by_cases e : (a, b) = (c, d)
    ·have dd : decide ((a, b) = (c, d)) = true := decide_eq_true e
     rw [dd] at hpn
     have HE := keepH e
     clear dd e
     go_wp2_with fail
     go_quiet (fail)
     go_wp2_with fail
     go_roundw
     case rel => exact ⟨k + 1, by omega, by first | rfl | go_num, keepH ⟨fun j hj => by
      by_cases z : j = k
      ·subst z; rw [HX.out.1, HX.out.2, HE.out]
      ·exact HK.out.1 j (by omega), HK.out.2.trans (H := fun _ => False) ⟨rfl, rfl, rfl, Nat.le_refl _, fun _ _ _ => rfl⟩ (fun _ _ x => x) (fun _ _ x => x)⟩⟩
     case measure => simp [intOf]; omega
    ·have dd : decide ((a, b) = (c, d)) = false := decide_eq_false e
     rw [dd] at hpn
     have HE := keepH e
     clear dd e
     go_wp2_with fail
     go_quiet (fail)
     go_wp2_with fail
     go_ret
     have hne : ¬ la = lb := fun z => HE.out (by have q1 := HX.out.1; rw [z, HX.out.2] at q1; simpa using q1.symm)
     exact ⟨by simp [hne], HK.out.2.trans (H := fun _ => False) ⟨rfl, rfl, rfl, Nat.le_refl _, fun _ _ _ => rfl⟩ (fun _ _ x => x) (fun _ _ x => x)⟩
   ·obtain rfl : k = la.length := by omega
    have t1 : ¬ (la.length : Int) < (la.length : Int) := by omega
    go_wp2_with fail
    go_ret
    have he : la = lb := by
     apply List.ext_getElem?
     intro j
     by_cases z : j < la.length
     ·exact HK.out.1 j z
     ·rw [List.getElem?_eq_none (by omega), List.getElem?_eq_none (by omega)]
    exact ⟨by simp [he], HK.out.2⟩
 ·have d1 : decide (la.length = lb.length) = false := decide_eq_false hl
  have b1 : ((la.length : Int) != (lb.length : Int)) = true := bne_iff_ne.2 (by omega)
  have hne : ¬ la = lb := fun z => hl (by rw [z])
  have HNE := keepH hne
  clear hne
  go_enter Tryz.func85, Tryz.ntmps85
  go_wp2_with fail
  go_ret
  exact ⟨by simp [HNE.out], Chg.refl _ _⟩
structure Ans where
 e : Int
 f : Bool
 x : Nat
 d : Bool
 h : Nat
 l : List (Nat × Nat)
 n : Nat
deriving DecidableEq
theorem PairsAt.chg {W W' : World} {p : Option Addr} {l : List (Nat × Nat)} (h : PairsAt W p l) (c : Chg (fun _ => False) W W') : PairsAt W' p l := by
 rcases h with rfl | ⟨bk, off, rfl, hb, h⟩
 ·exact .inl rfl
 ·refine .inr ⟨bk, off, rfl, Nat.lt_of_lt_of_le hb c.size, fun i k x hi => ?_⟩
  obtain ⟨b1, b2, h1, h2⟩ := h i k x hi
  exact ⟨b1, b2, cell_chg c h1 (fun x => x), cell_chg c h2 (fun x => x)⟩
set_option maxRecDepth 100000 in
theorem m_same (e1 e2 : Int) (f1 f2 d1 d2 : Bool) (x1 x2 h1 h2 n1 n2 : Nat) (p1 p2 : Option Addr) (c1 c2 : Nat) (l1 l2 : List (Nat × Nat)) (W : World) (hA : PairsAt W p1 l1) (hB : PairsAt W p2 l2) (hla : l1.length ≤ 17592186044416) (hlb : l2.length ≤ 17592186044416) :
    Calls Tryz.prog 42 #[.agg #[.int .i64 e1, .bool f1, .int .u64 x1, .bool d1, .int .u64 h1, .slice p1 l1.length c1, .int .u64 n1], .agg #[.int .i64 e2, .bool f2, .int .u64 x2, .bool d2, .int .u64 h2, .slice p2 l2.length c2, .int .u64 n2]] W fun e W' => e = .returned (.bool (decide ((⟨e1, f1, x1, d1, h1, l1, n1⟩ : Ans) = ⟨e2, f2, x2, d2, h2, l2, n2⟩))) ∧ Chg (fun _ => False) W W' := by
 obtain ⟨w0, hw0⟩ : ∃ w0, w0 = (W.alloc (.cells #[.int .i64 e1, .bool f1, .int .u64 x1, .bool d1, .int .u64 h1, .slice p1 l1.length c1, .int .u64 n1] 39)).alloc (.cells #[.int .i64 e2, .bool f2, .int .u64 x2, .bool d2, .int .u64 h2, .slice p2 l2.length c2, .int .u64 n2] 39) := ⟨_, rfl⟩
 have C0 : Chg (fun _ => False) W w0 := by rw [hw0]; exact ((Chg.refl _ _).alloc _).alloc _
 have b1 : w0.heap[W.heap.size]? = some (.cells #[.int .i64 e1, .bool f1, .int .u64 x1, .bool d1, .int .u64 h1, .slice p1 l1.length c1, .int .u64 n1] 39 (0, 0)) := by rw [hw0]; exact alloc_of (heap_alloc_new _ _) _
 have b2 : w0.heap[W.heap.size + 1]? = some (.cells #[.int .i64 e2, .bool f2, .int .u64 x2, .bool d2, .int .u64 h2, .slice p2 l2.length c2, .int .u64 n2] 39 (0, 0)) := by
  rw [hw0]
  exact al2
 have r0 : w0.cell? ⟨W.heap.size, 0, none⟩ = some (.int .i64 e1) := cell_of b1 0
 have s0 : w0.cell? ⟨W.heap.size + 1, 0, none⟩ = some (.int .i64 e2) := cell_of b2 0
 have r1 : w0.cell? ⟨W.heap.size, 1, none⟩ = some (.bool f1) := cell_of b1 1
 have s1 : w0.cell? ⟨W.heap.size + 1, 1, none⟩ = some (.bool f2) := cell_of b2 1
 have r2 : w0.cell? ⟨W.heap.size, 2, none⟩ = some (.int .u64 x1) := cell_of b1 2
 have s2 : w0.cell? ⟨W.heap.size + 1, 2, none⟩ = some (.int .u64 x2) := cell_of b2 2
 have r3 : w0.cell? ⟨W.heap.size, 3, none⟩ = some (.bool d1) := cell_of b1 3
 have s3 : w0.cell? ⟨W.heap.size + 1, 3, none⟩ = some (.bool d2) := cell_of b2 3
 have r4 : w0.cell? ⟨W.heap.size, 4, none⟩ = some (.int .u64 h1) := cell_of b1 4
 have s4 : w0.cell? ⟨W.heap.size + 1, 4, none⟩ = some (.int .u64 h2) := cell_of b2 4
 have r5 : w0.cell? ⟨W.heap.size, 5, none⟩ = some (.slice p1 l1.length c1) := cell_of b1 5
 have s5 : w0.cell? ⟨W.heap.size + 1, 5, none⟩ = some (.slice p2 l2.length c2) := cell_of b2 5
 have r6 : w0.cell? ⟨W.heap.size, 6, none⟩ = some (.int .u64 n1) := cell_of b1 6
 have s6 : w0.cell? ⟨W.heap.size + 1, 6, none⟩ = some (.int .u64 n2) := cell_of b2 6
 have HP := keepH (m_equal p1 p2 c1 c2 l1 l2 w0 (hA.chg C0) (hB.chg C0) hla hlb)
 have HC := keepH C0
 clear C0 b1 b2 hA hB
 go_enter Tryz.func42, Tryz.ntmps42
 go_upto_region 1 with fail
 rw [← hw0]
 clear hw0
 by_cases ze : e1 = e2
 ·have qe : (e1 == e2) = true := by rw [ze]; simp
  have te : decide (e1 = e2) = true := decide_eq_true ze
  by_cases zf : f1 = f2
  ·have qf : (f1 == f2) = true := by rw [zf]; simp
   have tf : decide (f1 = f2) = true := decide_eq_true zf
   by_cases zx : x1 = x2
   ·have qx : ((x1 : Int) == (x2 : Int)) = true := by rw [zx]; simp
    have tx : decide (x1 = x2) = true := decide_eq_true zx
    by_cases zd : d1 = d2
    ·have qd : (d1 == d2) = true := by rw [zd]; simp
     have td : decide (d1 = d2) = true := decide_eq_true zd
     by_cases zh : h1 = h2
     ·have qh : ((h1 : Int) == (h2 : Int)) = true := by rw [zh]; simp
      have th : decide (h1 = h2) = true := decide_eq_true zh
      by_cases zn : n1 = n2
      ·have qn : ((n1 : Int) == (n2 : Int)) = true := by rw [zn]; simp
       have tn : decide (n1 = n2) = true := decide_eq_true zn
       by_cases zl : l1 = l2
       ·have tl : decide (l1 = l2) = true := decide_eq_true zl
        have HZ := keepH (decide_eq_true (show (⟨e1, f1, x1, d1, h1, l1, n1⟩ : Ans) = ⟨e2, f2, x2, d2, h2, l2, n2⟩ by subst ze zf zx zd zh zn zl; rfl))
        clear ze zf zx zd zh zn zl
        go_wp2_with fail
        refine HP.out.mono ?_
        rintro e w1 ⟨rfl, C1⟩
        have HC1 : Hid (Chg (fun _ => False) W w1) := HC.out.trans C1 (fun _ _ x => x) (fun _ _ x => x)
        have r6b := cell_chg C1 r6 (fun x => x)
        have s6b := cell_chg C1 s6 (fun x => x)
        clear C1
        try rw [tl]
        go_wp2_with fail
        go_ret
        exact ⟨by rw [HZ.out]; first | rfl | simp, HC1.out⟩
       ·have tl : decide (l1 = l2) = false := decide_eq_false zl
        have HZ := keepH (decide_eq_false (show ¬ (⟨e1, f1, x1, d1, h1, l1, n1⟩ : Ans) = ⟨e2, f2, x2, d2, h2, l2, n2⟩ by intro q; exact zl (by injection q)))
        clear ze zf zx zd zh zn zl
        go_wp2_with fail
        refine HP.out.mono ?_
        rintro e w1 ⟨rfl, C1⟩
        have HC1 : Hid (Chg (fun _ => False) W w1) := HC.out.trans C1 (fun _ _ x => x) (fun _ _ x => x)
        have r6b := cell_chg C1 r6 (fun x => x)
        have s6b := cell_chg C1 s6 (fun x => x)
        clear C1
        try rw [tl]
        go_wp2_with fail
        go_ret
        exact ⟨by rw [HZ.out]; first | rfl | simp, HC1.out⟩
      ·have qn : ((n1 : Int) == (n2 : Int)) = false := beq_eq_false_iff_ne.2 (by omega)
       have tn : decide (n1 = n2) = false := decide_eq_false zn
       have HZ := keepH (decide_eq_false (show ¬ (⟨e1, f1, x1, d1, h1, l1, n1⟩ : Ans) = ⟨e2, f2, x2, d2, h2, l2, n2⟩ by intro q; exact zn (by injection q)))
       clear ze zf zx zd zh zn
       go_wp2_with fail
       go_ret
       exact ⟨by rw [HZ.out]; first | rfl | simp, HC.out⟩
     ·have qh : ((h1 : Int) == (h2 : Int)) = false := beq_eq_false_iff_ne.2 (by omega)
      have th : decide (h1 = h2) = false := decide_eq_false zh
      have HZ := keepH (decide_eq_false (show ¬ (⟨e1, f1, x1, d1, h1, l1, n1⟩ : Ans) = ⟨e2, f2, x2, d2, h2, l2, n2⟩ by intro q; exact zh (by injection q)))
      clear ze zf zx zd zh
      go_wp2_with fail
      go_ret
      exact ⟨by rw [HZ.out]; first | rfl | simp, HC.out⟩
    ·have qd : (d1 == d2) = false := beq_eq_false_iff_ne.2 zd
     have td : decide (d1 = d2) = false := decide_eq_false zd
     have HZ := keepH (decide_eq_false (show ¬ (⟨e1, f1, x1, d1, h1, l1, n1⟩ : Ans) = ⟨e2, f2, x2, d2, h2, l2, n2⟩ by intro q; exact zd (by injection q)))
     clear ze zf zx zd
     go_wp2_with fail
     go_ret
     exact ⟨by rw [HZ.out]; first | rfl | simp, HC.out⟩
   ·have qx : ((x1 : Int) == (x2 : Int)) = false := beq_eq_false_iff_ne.2 (by omega)
    have tx : decide (x1 = x2) = false := decide_eq_false zx
    have HZ := keepH (decide_eq_false (show ¬ (⟨e1, f1, x1, d1, h1, l1, n1⟩ : Ans) = ⟨e2, f2, x2, d2, h2, l2, n2⟩ by intro q; exact zx (by injection q)))
    clear ze zf zx
    go_wp2_with fail
    go_ret
    exact ⟨by rw [HZ.out]; first | rfl | simp, HC.out⟩
  ·have qf : (f1 == f2) = false := beq_eq_false_iff_ne.2 zf
   have tf : decide (f1 = f2) = false := decide_eq_false zf
   have HZ := keepH (decide_eq_false (show ¬ (⟨e1, f1, x1, d1, h1, l1, n1⟩ : Ans) = ⟨e2, f2, x2, d2, h2, l2, n2⟩ by intro q; exact zf (by injection q)))
   clear ze zf
   go_wp2_with fail
   go_ret
   exact ⟨by rw [HZ.out]; first | rfl | simp, HC.out⟩
 ·have qe : (e1 == e2) = false := beq_eq_false_iff_ne.2 ze
  have te : decide (e1 = e2) = false := decide_eq_false ze
  have HZ := keepH (decide_eq_false (show ¬ (⟨e1, f1, x1, d1, h1, l1, n1⟩ : Ans) = ⟨e2, f2, x2, d2, h2, l2, n2⟩ by intro q; exact ze (by injection q)))
  clear ze
  go_wp2_with fail
  go_ret
  exact ⟨by rw [HZ.out]; first | rfl | simp, HC.out⟩
set_option maxRecDepth 100000 in
theorem r_same (e1 e2 : Int) (f1 f2 d1 d2 : Bool) (x1 x2 h1 h2 n1 n2 : Nat) (p1 p2 : Option Addr) (c1 c2 : Nat) (l1 l2 : List (Nat × Nat)) (W : World) (hA : PairsAt W p1 l1) (hB : PairsAt W p2 l2) (hla : l1.length ≤ 17592186044416) (hlb : l2.length ≤ 17592186044416) :
    Calls Tryz.prog 47 #[.agg #[.int .i64 e1, .bool f1, .int .u64 x1, .bool d1, .int .u64 h1, .slice p1 l1.length c1, .int .u64 n1], .agg #[.int .i64 e2, .bool f2, .int .u64 x2, .bool d2, .int .u64 h2, .slice p2 l2.length c2, .int .u64 n2]] W fun e W' => e = .returned (.bool (decide ((⟨e1, f1, x1, d1, h1, l1, n1⟩ : Ans) = ⟨e2, f2, x2, d2, h2, l2, n2⟩))) ∧ Chg (fun _ => False) W W' := by
 obtain ⟨w0, hw0⟩ : ∃ w0, w0 = (W.alloc (.cells #[.int .i64 e1, .bool f1, .int .u64 x1, .bool d1, .int .u64 h1, .slice p1 l1.length c1, .int .u64 n1] 39)).alloc (.cells #[.int .i64 e2, .bool f2, .int .u64 x2, .bool d2, .int .u64 h2, .slice p2 l2.length c2, .int .u64 n2] 39) := ⟨_, rfl⟩
 have C0 : Chg (fun _ => False) W w0 := by rw [hw0]; exact ((Chg.refl _ _).alloc _).alloc _
 have b1 : w0.heap[W.heap.size]? = some (.cells #[.int .i64 e1, .bool f1, .int .u64 x1, .bool d1, .int .u64 h1, .slice p1 l1.length c1, .int .u64 n1] 39 (0, 0)) := by rw [hw0]; exact alloc_of (heap_alloc_new _ _) _
 have b2 : w0.heap[W.heap.size + 1]? = some (.cells #[.int .i64 e2, .bool f2, .int .u64 x2, .bool d2, .int .u64 h2, .slice p2 l2.length c2, .int .u64 n2] 39 (0, 0)) := by
  rw [hw0]
  exact al2
 have r0 : w0.cell? ⟨W.heap.size, 0, none⟩ = some (.int .i64 e1) := cell_of b1 0
 have s0 : w0.cell? ⟨W.heap.size + 1, 0, none⟩ = some (.int .i64 e2) := cell_of b2 0
 have r1 : w0.cell? ⟨W.heap.size, 1, none⟩ = some (.bool f1) := cell_of b1 1
 have s1 : w0.cell? ⟨W.heap.size + 1, 1, none⟩ = some (.bool f2) := cell_of b2 1
 have r2 : w0.cell? ⟨W.heap.size, 2, none⟩ = some (.int .u64 x1) := cell_of b1 2
 have s2 : w0.cell? ⟨W.heap.size + 1, 2, none⟩ = some (.int .u64 x2) := cell_of b2 2
 have r3 : w0.cell? ⟨W.heap.size, 3, none⟩ = some (.bool d1) := cell_of b1 3
 have s3 : w0.cell? ⟨W.heap.size + 1, 3, none⟩ = some (.bool d2) := cell_of b2 3
 have r4 : w0.cell? ⟨W.heap.size, 4, none⟩ = some (.int .u64 h1) := cell_of b1 4
 have s4 : w0.cell? ⟨W.heap.size + 1, 4, none⟩ = some (.int .u64 h2) := cell_of b2 4
 have r5 : w0.cell? ⟨W.heap.size, 5, none⟩ = some (.slice p1 l1.length c1) := cell_of b1 5
 have s5 : w0.cell? ⟨W.heap.size + 1, 5, none⟩ = some (.slice p2 l2.length c2) := cell_of b2 5
 have r6 : w0.cell? ⟨W.heap.size, 6, none⟩ = some (.int .u64 n1) := cell_of b1 6
 have s6 : w0.cell? ⟨W.heap.size + 1, 6, none⟩ = some (.int .u64 n2) := cell_of b2 6
 have HP := keepH (r_pairs p1 p2 c1 c2 l1 l2 w0 (hA.chg C0) (hB.chg C0) hla hlb)
 have HC := keepH C0
 clear C0 b1 b2 hA hB
 go_enter Tryz.func47, Tryz.ntmps47
 go_upto_region 1 with fail
 rw [← hw0]
 clear hw0
 by_cases ze : e1 = e2
 ·have qe : (e1 == e2) = true := by rw [ze]; simp
  have te : decide (e1 = e2) = true := decide_eq_true ze
  by_cases zf : f1 = f2
  ·have qf : (f1 == f2) = true := by rw [zf]; simp
   have tf : decide (f1 = f2) = true := decide_eq_true zf
   by_cases zx : x1 = x2
   ·have qx : ((x1 : Int) == (x2 : Int)) = true := by rw [zx]; simp
    have tx : decide (x1 = x2) = true := decide_eq_true zx
    by_cases zd : d1 = d2
    ·have qd : (d1 == d2) = true := by rw [zd]; simp
     have td : decide (d1 = d2) = true := decide_eq_true zd
     by_cases zh : h1 = h2
     ·have qh : ((h1 : Int) == (h2 : Int)) = true := by rw [zh]; simp
      have th : decide (h1 = h2) = true := decide_eq_true zh
      by_cases zl : l1 = l2
      ·have tl : decide (l1 = l2) = true := decide_eq_true zl
       by_cases zn : n1 = n2
       ·have qn : ((n1 : Int) == (n2 : Int)) = true := by rw [zn]; simp
        have tn : decide (n1 = n2) = true := decide_eq_true zn
        have HZ := keepH (decide_eq_true (show (⟨e1, f1, x1, d1, h1, l1, n1⟩ : Ans) = ⟨e2, f2, x2, d2, h2, l2, n2⟩ by subst ze zf zx zd zh zl zn; rfl))
        clear ze zf zx zd zh zl zn
        go_wp2_with fail
        refine HP.out.mono ?_
        rintro e w1 ⟨rfl, C1⟩
        have HC1 : Hid (Chg (fun _ => False) W w1) := HC.out.trans C1 (fun _ _ x => x) (fun _ _ x => x)
        have r6b := cell_chg C1 r6 (fun x => x)
        have s6b := cell_chg C1 s6 (fun x => x)
        clear C1
        try rw [tl]
        go_wp2_with fail
        go_ret
        exact ⟨by rw [HZ.out]; first | rfl | simp, HC1.out⟩
       ·have qn : ((n1 : Int) == (n2 : Int)) = false := beq_eq_false_iff_ne.2 (by omega)
        have tn : decide (n1 = n2) = false := decide_eq_false zn
        have HZ := keepH (decide_eq_false (show ¬ (⟨e1, f1, x1, d1, h1, l1, n1⟩ : Ans) = ⟨e2, f2, x2, d2, h2, l2, n2⟩ by intro q; exact zn (by injection q)))
        clear ze zf zx zd zh zl zn
        go_wp2_with fail
        refine HP.out.mono ?_
        rintro e w1 ⟨rfl, C1⟩
        have HC1 : Hid (Chg (fun _ => False) W w1) := HC.out.trans C1 (fun _ _ x => x) (fun _ _ x => x)
        have r6b := cell_chg C1 r6 (fun x => x)
        have s6b := cell_chg C1 s6 (fun x => x)
        clear C1
        try rw [tl]
        go_wp2_with fail
        go_ret
        exact ⟨by rw [HZ.out]; first | rfl | simp, HC1.out⟩
      ·have tl : decide (l1 = l2) = false := decide_eq_false zl
       have HZ := keepH (decide_eq_false (show ¬ (⟨e1, f1, x1, d1, h1, l1, n1⟩ : Ans) = ⟨e2, f2, x2, d2, h2, l2, n2⟩ by intro q; exact zl (by injection q)))
       clear ze zf zx zd zh zl
       go_wp2_with fail
       refine HP.out.mono ?_
       rintro e w1 ⟨rfl, C1⟩
       have HC1 : Hid (Chg (fun _ => False) W w1) := HC.out.trans C1 (fun _ _ x => x) (fun _ _ x => x)
       have r6b := cell_chg C1 r6 (fun x => x)
       have s6b := cell_chg C1 s6 (fun x => x)
       clear C1
       try rw [tl]
       go_wp2_with fail
       go_ret
       exact ⟨by rw [HZ.out]; first | rfl | simp, HC1.out⟩
     ·have qh : ((h1 : Int) == (h2 : Int)) = false := beq_eq_false_iff_ne.2 (by omega)
      have th : decide (h1 = h2) = false := decide_eq_false zh
      have HZ := keepH (decide_eq_false (show ¬ (⟨e1, f1, x1, d1, h1, l1, n1⟩ : Ans) = ⟨e2, f2, x2, d2, h2, l2, n2⟩ by intro q; exact zh (by injection q)))
      clear ze zf zx zd zh
      go_wp2_with fail
      go_ret
      exact ⟨by rw [HZ.out]; first | rfl | simp, HC.out⟩
    ·have qd : (d1 == d2) = false := beq_eq_false_iff_ne.2 zd
     have td : decide (d1 = d2) = false := decide_eq_false zd
     have HZ := keepH (decide_eq_false (show ¬ (⟨e1, f1, x1, d1, h1, l1, n1⟩ : Ans) = ⟨e2, f2, x2, d2, h2, l2, n2⟩ by intro q; exact zd (by injection q)))
     clear ze zf zx zd
     go_wp2_with fail
     go_ret
     exact ⟨by rw [HZ.out]; first | rfl | simp, HC.out⟩
   ·have qx : ((x1 : Int) == (x2 : Int)) = false := beq_eq_false_iff_ne.2 (by omega)
    have tx : decide (x1 = x2) = false := decide_eq_false zx
    have HZ := keepH (decide_eq_false (show ¬ (⟨e1, f1, x1, d1, h1, l1, n1⟩ : Ans) = ⟨e2, f2, x2, d2, h2, l2, n2⟩ by intro q; exact zx (by injection q)))
    clear ze zf zx
    go_wp2_with fail
    go_ret
    exact ⟨by rw [HZ.out]; first | rfl | simp, HC.out⟩
  ·have qf : (f1 == f2) = false := beq_eq_false_iff_ne.2 zf
   have tf : decide (f1 = f2) = false := decide_eq_false zf
   have HZ := keepH (decide_eq_false (show ¬ (⟨e1, f1, x1, d1, h1, l1, n1⟩ : Ans) = ⟨e2, f2, x2, d2, h2, l2, n2⟩ by intro q; exact zf (by injection q)))
   clear ze zf
   go_wp2_with fail
   go_ret
   exact ⟨by rw [HZ.out]; first | rfl | simp, HC.out⟩
 ·have qe : (e1 == e2) = false := beq_eq_false_iff_ne.2 ze
  have te : decide (e1 = e2) = false := decide_eq_false ze
  have HZ := keepH (decide_eq_false (show ¬ (⟨e1, f1, x1, d1, h1, l1, n1⟩ : Ans) = ⟨e2, f2, x2, d2, h2, l2, n2⟩ by intro q; exact ze (by injection q)))
  clear ze
  go_wp2_with fail
  go_ret
  exact ⟨by rw [HZ.out]; first | rfl | simp, HC.out⟩
theorem ck_u (k : Int) (em : Bool) (w : World) : (Instr.checkKey em 10000 30 (.int .u64 k)).run Tryz.prog w = .ok () w := by kernel_rfl
theorem fk_u0 (x : Value) (w : World) : (Instr.findKey 30 x []).run Tryz.prog w = .ok none w := by kernel_rfl
theorem fk_7 (v : Value) (b : Nat) (w : World) : (Instr.findKey 30 (.int .u64 7) [⟨.int .u64 7, v, b⟩]).run Tryz.prog w = .ok (some (0, v)) w := by kernel_rfl
theorem fk_5 (v : Value) (b : Nat) (w : World) : (Instr.findKey 30 (.int .u64 5) [⟨.int .u64 5, v, b⟩]).run Tryz.prog w = .ok (some (0, v)) w := by kernel_rfl
theorem ks_7 (w : World) : (Instr.keyThatStays (.int .u64 7) (.int .u64 7)).run Tryz.prog w = .ok (.int .u64 7) w := by kernel_rfl
theorem now_0 {w : World} {b : Nat} (hb : w.heap[b]? = some (.map #[] 0)) : (Instr.lookup 97 (.map (some b)) (.int .u64 7) true).run Tryz.prog w = .ok (.tuple #[.int .u64 0, .bool false]) w := by
 simp [Instr.lookup, run_underlying Tryz.underlying97, MapKept.run_getObj_map hb, ck_u, fk_u0, Result.andThen, show (zeroValue 30).run Tryz.prog w = .ok (.int .u64 0) w by kernel_rfl]
theorem now_1 {w : World} {b c : Nat} {x : Int} (hb : w.heap[b]? = some (.map #[⟨.int .u64 7, .int .u64 x, 0⟩] c)) : (Instr.lookup 97 (.map (some b)) (.int .u64 7) true).run Tryz.prog w = .ok (.tuple #[.int .u64 x, .bool true]) w := by
 simp [Instr.lookup, run_underlying Tryz.underlying97, MapKept.run_getObj_map hb, ck_u, fk_7, Result.andThen]
theorem held_0 {w : World} {b : Nat} (hb : w.heap[b]? = some (.map #[] 0)) : (Instr.lookup 98 (.map (some b)) (.int .u64 5) true).run Tryz.prog w = .ok (.tuple #[.map none, .bool false]) w := by
 simp [Instr.lookup, run_underlying Tryz.underlying98, MapKept.run_getObj_map hb, ck_u, fk_u0, Result.andThen, show (zeroValue 97).run Tryz.prog w = .ok (.map none) w by kernel_rfl]
theorem held_1 {w : World} {b c : Nat} {v : Value} (hb : w.heap[b]? = some (.map #[⟨.int .u64 5, v, 0⟩] c)) : (Instr.lookup 98 (.map (some b)) (.int .u64 5) true).run Tryz.prog w = .ok (.tuple #[v, .bool true]) w := by
 simp [Instr.lookup, run_underlying Tryz.underlying98, MapKept.run_getObj_map hb, ck_u, fk_5, Result.andThen]
theorem held_2 {w : World} {b c : Nat} {v : Value} (hb : w.heap[b]? = some (.map #[⟨.int .u64 5, v, 0⟩] c)) : (Instr.lookup 98 (.map (some b)) (.int .u64 5) false).run Tryz.prog w = .ok v w := by
 simp [Instr.lookup, run_underlying Tryz.underlying98, MapKept.run_getObj_map hb, ck_u, fk_5, Result.andThen]
theorem put_0 {w : World} {b : Nat} (hb : w.heap[b]? = some (.map #[] 0)) (x : Int) : (Instr.mapUpdate 97 (.map (some b)) (.int .u64 7) (.int .u64 x)).run Tryz.prog w = .ok () (ChangeMaps.setBlock w b (.map #[⟨.int .u64 7, .int .u64 x, 0⟩] 1)) := by
 simp [Instr.mapUpdate, run_underlying Tryz.underlying97, MapKept.run_getObj_map hb, ck_u, fk_u0, MapKept.run_setObj_map _ hb, Result.andThen, ChangeMaps.setBlock]
theorem put_1 {w : World} {b c : Nat} {y : Int} (hb : w.heap[b]? = some (.map #[⟨.int .u64 7, .int .u64 y, 0⟩] c)) (x : Int) : (Instr.mapUpdate 97 (.map (some b)) (.int .u64 7) (.int .u64 x)).run Tryz.prog w = .ok () (ChangeMaps.setBlock w b (.map #[⟨.int .u64 7, .int .u64 x, 0⟩] c)) := by
 simp [Instr.mapUpdate, run_underlying Tryz.underlying97, MapKept.run_getObj_map hb, ck_u, fk_7, ks_7, MapKept.run_setObj_map _ hb, Result.andThen, ChangeMaps.setBlock]
theorem hold_0 {w : World} {b : Nat} (hb : w.heap[b]? = some (.map #[] 0)) (v : Value) : (Instr.mapUpdate 98 (.map (some b)) (.int .u64 5) v).run Tryz.prog w = .ok () (ChangeMaps.setBlock w b (.map #[⟨.int .u64 5, v, 0⟩] 1)) := by
 simp [Instr.mapUpdate, run_underlying Tryz.underlying98, MapKept.run_getObj_map hb, ck_u, fk_u0, MapKept.run_setObj_map _ hb, Result.andThen, ChangeMaps.setBlock]
theorem setBlock_at {w : World} {b : Nat} {o : Obj} (hb : w.heap[b]? = some o) (o' : Obj) : (ChangeMaps.setBlock w b o').heap[b]? = some o' := by
 show (w.heap.setIfInBounds b o')[b]? = some o'
 rw [Array.getElem?_setIfInBounds_self_of_lt (Array.getElem?_eq_some_iff.1 hb).1]
theorem setBlock_chg {w : World} {b : Nat} {o : Obj} (hb : w.heap[b]? = some o) (o' : Obj) : Chg (fun k => k = b) w (ChangeMaps.setBlock w b o') :=
 ⟨rfl, rfl, rfl, by simp [ChangeMaps.setBlock], fun k _ hn => by
  show (w.heap.setIfInBounds b o')[k]? = w.heap[k]?
  rw [Array.getElem?_setIfInBounds_ne (fun e => hn e.symm)]⟩
set_option maxRecDepth 100000 in
theorem holds_any {W : World} {m : Nat} {v : Value} {n : Value} {h : Nat} (hm : W.heap[m]? = some (.cells #[.int .i64 4, n, .map (some h)] 100 (0, 0))) (r : Bool) (y : Value) (hlk : (Instr.lookup 98 (.map (some h)) (.int .u64 5) true).run Tryz.prog W = .ok (.tuple #[y, .bool r]) W) :
    Calls Tryz.prog 56 #[.pointer (some ⟨m, 0, none⟩), .int .u64 5] W fun e W' => e = .returned (.bool r) ∧ W' = W := by
 have c2 : W.cell? ⟨m, 2, none⟩ = some (.map (some h)) := cell_of hm 2
 clear hm
 go_enter Tryz.func56, Tryz.ntmps56
 go_wp2_with fail
 go_ret
 exact ⟨by simp, rfl⟩
set_option maxRecDepth 100000 in
theorem new_4 (W : World) : Calls Tryz.prog 24 #[.int .i64 4] W fun e W' => e = .returned (.tuple #[.pointer (some ⟨W.heap.size + 2, 0, none⟩), .int .i64 0]) ∧ W' = ((W.alloc (.map #[] 0)).alloc (.map #[] 0)).alloc (.cells #[.int .i64 4, .map (some W.heap.size), .map (some (W.heap.size + 1))] 100) := by
 have hmm := @run_makeMap Tryz.prog
 go_enter Tryz.func24, Tryz.ntmps24
 go_wp2_with fail
 go_ret2
 exact ⟨by simp, by simp⟩
end Go.Proofs.YtahgaghokpicgaaGreat
