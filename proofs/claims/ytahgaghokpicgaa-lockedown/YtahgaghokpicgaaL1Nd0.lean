/- Laws of no program: append of so many zeros to a row of one's own; append as a step of a region that draws; blocks by their cells; what has changed. -/
import Derived.Test.YtahgaghokpicgaaRows
import Derived.WalkKit
import Derived.ProofKit
import Derived.ArgAppend
import Derived.Maps.AppendAt
import Derived.Laws.OwnMore
import Derived.Laws.CopyOwn
import Derived.WalkLawsBesides
import Derived.Lib.AppendZeros
import Derived.Deep.RegionLaw
import Derived.Deep.RegionWith
import Derived.BigQuiet
import Derived.Below
import Derived.Lib.SmallJoins
import Derived.Deep.Slices
import Derived.Carry
import Derived.OpenShut
import Derived.Deep.Cut
import Derived.Deep.CutBlock
import Derived.Deep.DeepCutAuto
import Derived.MapViews
import Derived.DeepKeys4
import Derived.Maps.Keyed
import Derived.Shelf.SlMaps.Clone
import Derived.Deep.RegionHeld3
import Derived.Deep.MidRow
import Derived.Maps.OwnSet
import Derived.Maps.RangeWalk
import Derived.OwnWalk
import Derived.Maps.Ext
import Derived.Deep.Upon
namespace Go.Proofs.Ytahgaghokpicgaa
open Go.RowKit

theorem keepH {p : Prop} (h : p) : Hid p := h

/-- What has changed lies in F, or is new. -/
structure Chg (F : Nat → Prop) (w w' : World) : Prop where
  os : w'.os = w.os
  tape : w'.tape = w.tape
  output : w'.output = w.output
  size : w.heap.size ≤ w'.heap.size
  block : ∀ k, k < w.heap.size → ¬ F k → w'.heap[k]? = w.heap[k]?

theorem Chg.refl (F : Nat → Prop) (w : World) : Chg F w w := ⟨rfl, rfl, rfl, Nat.le_refl _, fun _ _ _ => rfl⟩
theorem Chg.trans {F G H : Nat → Prop} {a b c : World} (h : Chg F a b) (k : Chg G b c) (hF : ∀ i, i < a.heap.size → F i → H i) (hG : ∀ i, i < a.heap.size → G i → H i) : Chg H a c :=
  ⟨k.os.trans h.os, k.tape.trans h.tape, k.output.trans h.output, Nat.le_trans h.size k.size, fun i hi hn =>
    (k.block i (Nat.lt_of_lt_of_le hi h.size) (fun x => hn (hG i hi x))).trans (h.block i hi (fun x => hn (hF i hi x)))⟩
theorem Chg.mono {F G : Nat → Prop} {a b : World} (h : Chg F a b) (hF : ∀ i, i < a.heap.size → F i → G i) : Chg G a b :=
  ⟨h.os, h.tape, h.output, h.size, fun i hi hn => h.block i hi (fun x => hn (hF i hi x))⟩
theorem Chg.drew {F : Nat → Prop} {a b : World} (h : Chg F a b) : Chg F a b.drew := ⟨h.os, h.tape, h.output, h.size, h.block⟩
theorem Chg.alloc {F : Nat → Prop} {a b : World} (h : Chg F a b) (o : Obj) : Chg F a (b.alloc o) :=
  ⟨h.os, h.tape, h.output, by have := h.size; simp; omega, fun i hi hn => (Below.heap_alloc _ _ _ (Nat.lt_of_lt_of_le hi h.size)).trans (h.block i hi hn)⟩
theorem Chg.setCell {F : Nat → Prop} {a b : World} (h : Chg F a b) {p : Addr} (hp : p.block < a.heap.size → F p.block) (u : Value) : Chg F a (b.setCell p u) :=
  ⟨h.os, h.tape, h.output, by have := h.size; simp [World.setCell]; omega, fun i hi hn => (Below.heap_setCell _ _ _ _ (fun e => hn (by subst e; exact hp hi))).trans (h.block i hi hn)⟩
theorem Chg.grown {F : Nat → Prop} {a b c : World} {row : Option Nat} (h : Chg F a b) (hg : b.grownBy c row) (hr : ∀ k, row = some k → k < a.heap.size → F k) : Chg F a c :=
  ⟨hg.os.trans h.os, hg.tape.trans h.tape, hg.output.trans h.output, Nat.le_trans h.size hg.size, fun i hi hn =>
    (hg.block i (Nat.lt_of_lt_of_le hi h.size) (fun e => hn (hr i e.symm hi))).trans (h.block i hi hn)⟩
theorem Chg.below {B : Nat} {a b : World} (h : Chg (fun k => B ≤ k) a b) (hB : B ≤ a.heap.size) : Below B a b := ⟨h.os, h.tape, h.output, h.size, fun k hk => h.block k (by omega) (by omega)⟩
theorem cell_of {W : World} {b : Nat} {cs : Array Value} {t : TypeId} {f : Nat × Nat} (h : W.heap[b]? = some (.cells cs t f)) (k : Nat) : W.cell? ⟨b, k, none⟩ = cs[k]? := by simp [World.cell?, h]
theorem free_of {W : World} {b : Nat} {cs : Array Value} {t : TypeId} (h : W.heap[b]? = some (.cells cs t (0, 0))) (k : Nat) : W.frozen? ⟨b, k, none⟩ = false := by simp [World.frozen?, h]
theorem set_of {W : World} {b : Nat} {cs : Array Value} {t : TypeId} {f : Nat × Nat} (h : W.heap[b]? = some (.cells cs t f)) (k : Nat) (v : Value) : (W.setCell ⟨b, k, none⟩ v).heap[b]? = some (.cells (cs.setIfInBounds k v) t f) := by
  obtain ⟨hlt, hk⟩ := Array.getElem?_eq_some_iff.1 h
  show (W.heap.modify b _)[b]? = _
  rw [Array.getElem?_eq_getElem (by rw [Array.size_modify]; exact hlt), Array.getElem_modify_self, hk]
  rfl
theorem lt_of {W : World} {b : Nat} {o : Obj} (h : W.heap[b]? = some o) : b < W.heap.size := (Array.getElem?_eq_some_iff.1 h).1
theorem other_of {W : World} {b c k : Nat} {o : Obj} (h : W.heap[b]? = some o) (hne : b ≠ c) (v : Value) : (W.setCell ⟨c, k, none⟩ v).heap[b]? = some o := (Below.heap_setCell W ⟨c, k, none⟩ v b hne).trans h
theorem alloc_of {W : World} {b : Nat} {o : Obj} (h : W.heap[b]? = some o) (x : Obj) : (W.alloc x).heap[b]? = some o := (Below.heap_alloc W x b (lt_of h)).trans h

/-- A row stays where its block stays. -/
theorem row_kept {W W' : World} {e : TypeId} {s n : Nat} {v : Value} {xs : List Value} (h : W.ownsRow 0 e s v n xs) (hb : ∀ k, v.ownBlock = some k → W'.heap[k]? = W.heap[k]?) : W'.ownsRow 0 e s v n xs := by
  refine ⟨h.1, ?_⟩
  rcases h.2 with h2 | ⟨g, cap, cur, hv, hg, hh, r⟩
  · exact .inl h2
  · exact .inr ⟨g, cap, cur, hv, hg, (hb g (by subst hv; rfl)).trans hh, r⟩
end Go.Proofs.Ytahgaghokpicgaa
/- What comes in: a list of pairs. -/
namespace Go.Proofs.Ytahgaghokpicgaa
open Go.RowKit Go.Joins Go.ChangeShapes Go.WideShapes Go.Deep
set_option linter.unusedVariables false

theorem cell_chg {F : Nat → Prop} {W W' : World} (h : Chg F W W') {a : Addr} {v : Value} (hc : W.cell? a = some v) (hn : ¬ F a.block) : W'.cell? a = some v := by
  have hlt : a.block < W.heap.size := by
    by_cases cb : a.block < W.heap.size
    · exact cb
    · simp [World.cell?, Array.getElem?_eq_none (show W.heap.size ≤ a.block by omega)] at hc
  exact (World.cell?_of_block (w := W) (h.block _ hlt hn)).trans hc
theorem bulk_one {H : Type} (d : DataW H) : 1 ≤ Rows.uptoBulk d := by
  cases d with
  | lit l => cases l <;> simp [Rows.uptoBulk]
  | nil => simp [Rows.uptoBulk]
  | ptr d => simp [Rows.uptoBulk]
  | slice elems spare => simp [Rows.uptoBulk]
  | agg parts => simp [Rows.uptoBulk]
  | iface t d => simp [Rows.uptoBulk]
  | map entries => simp [Rows.uptoBulk]
  | held h => simp [Rows.uptoBulk]
theorem bulk_length {H : Type} (l : List (DataW H)) : l.length ≤ Rows.uptoBulkAll l := by
  induction l with
  | nil => simp [Rows.uptoBulkAll]
  | cons x r ih => have := bulk_one x; simp only [Rows.uptoBulkAll, List.length_cons]; omega
theorem cells_each {w : World} {a : Addr} {n : Nat} {cs : List Value} (h : w.cells? 0 a n = some cs) : ∀ j u, cs[j]? = some u → w.cell? (a.add j) = some u := by
  obtain ⟨_, hl, hc⟩ := World.cells?_some h
  intro j u hj
  have hlt : j < n := by
    have := (List.getElem?_eq_some_iff.1 hj).1
    omega
  rw [hc j hlt, hj]
theorem choose_list {α : Type} {P : Nat → α → Prop} (n : Nat) (h : ∀ i, i < n → ∃ a, P i a) : ∃ l : List α, l.length = n ∧ ∀ (i : Nat) (a : α), l[i]? = some a → P i a := by
  induction n with
  | zero => exact ⟨[], rfl, fun i a e => by simp at e⟩
  | succ n ih =>
    obtain ⟨l, hl, hp⟩ := ih (fun i hi => h i (by omega))
    obtain ⟨a, ha⟩ := h n (by omega)
    refine ⟨l ++ [a], by simp [hl], fun i b e => ?_⟩
    by_cases c : i < n
    · rw [List.getElem?_append_left (by omega)] at e
      exact hp i b e
    · have hi : i = n := by
        have := (List.getElem?_eq_some_iff.1 e).1
        simp [hl] at this
        omega
      subst hi
      rw [← hl] at e
      simp at e
      subst e
      exact ha

/-- A list that came in: its elements' cells. -/
theorem slice_rows {H : Type} {enc : TypeId × Value → H} {W : World} {sp : Nat → Bool} {held : Bool} {fuel : Nat} {cs : List Value} {x : DataW H × List MemPlace} {T E : TypeId} {s : Nat} {Q : List Value → Prop} (hT : Try.prog.underlying T = some (.slice E)) (hs : Try.prog.cellsOf E = s) (hs0 : 0 < s)
    (hQ : ∀ fuel cs y, DataW.trod enc Try.prog W 0 sp held fuel E cs = some y → Q cs ∧ cs.length = s) (hf : DataW.trod enc Try.prog W 0 sp held fuel T cs = some x) :
    ∃ p n c, cs = [.slice p n c] ∧ n ≤ Rows.uptoBulk x.1 ∧ (n = 0 ∨ ∃ bk off, p = some ⟨bk, off, none⟩ ∧ bk < W.heap.size ∧ ∀ i, i < n → ∃ cs' : List Value, Q cs' ∧ ∀ (j : Nat) (u : Value), cs'[j]? = some u → W.cell? ⟨bk, off + (i * s + j), none⟩ = some u) := by
  rcases open_slice hT hf with ⟨hcs, _⟩ | ⟨a, len, cap, m, k, D, Pl, hcs, _, hl, hm, hme, hx, hi⟩
  · exact ⟨none, 0, 0, hcs, Nat.zero_le _, .inl rfl⟩
  · have hmn : len ≤ m := by rw [hme]; split <;> omega
    have hb : len ≤ Rows.uptoBulk x.1 := by
      rw [hx]
      have := bulk_length ((List.range len).map D)
      simp only [Rows.uptoBulk]
      simp at this
      omega
    refine ⟨some a, len, cap, hcs, hb, ?_⟩
    rcases Nat.eq_zero_or_pos len with h0 | h0
    · exact .inl h0
    · obtain ⟨bk, off, spot⟩ := a
      have hrow : ∀ i, i < len → ∃ cs' : List Value, (Q cs' ∧ cs'.length = s) ∧ ∀ (j : Nat) (u : Value), cs'[j]? = some u → W.cell? ((⟨bk, off, spot⟩ : Addr).add (i * s + j)) = some u := fun i hin => by
        obtain ⟨cs', hc, ht⟩ := hi i (by omega)
        refine ⟨cs', hQ _ _ _ ht, fun j u hj => ?_⟩
        rw [hs] at hc
        have e2 := cells_each hc j u hj
        have e3 : ((⟨bk, off, spot⟩ : Addr).add (i * s)).add j = (⟨bk, off, spot⟩ : Addr).add (i * s + j) := by
          unfold Addr.add
          split <;> split <;> simp_all <;> omega
        rw [← e3]
        exact e2
      have h00 : ∃ u, W.cell? ((⟨bk, off, spot⟩ : Addr).add 0) = some u := by
        obtain ⟨cs', ⟨_, hl'⟩, ho⟩ := hrow 0 h0
        obtain ⟨u, hu⟩ : ∃ u, cs'[0]? = some u := ⟨cs'[0]'(by omega), List.getElem?_eq_getElem _⟩
        exact ⟨u, by simpa using ho 0 u hu⟩
      obtain ⟨u, hu⟩ := h00
      have hspot : spot = none := by simpa [Addr.add] using World.cell?_spot hu
      subst hspot
      have hbk : bk < W.heap.size := World.block_lt_of_cell? W _ hu
      refine .inr ⟨bk, off, rfl, hbk, fun i hin => ?_⟩
      obtain ⟨cs', ⟨hq, _⟩, ho⟩ := hrow i hin
      refine ⟨cs', hq, fun j u hj => ?_⟩
      have e := ho j u hj
      unfold Addr.add at e
      split at e
      · rename_i z
        have z0 : i * s + j = 0 := by simpa using z
        rw [z0]
        exact e
      · exact e

theorem coU : Try.prog.cellsOf 29 = 1 := by kernel_rfl
theorem nat_u64 {n : Int} (h : (Lit.int .u64 n).wf = true) : ∃ m : Nat, n = (m : Int) ∧ m < 18446744073709551616 := by
  have b := bounds_u64 h
  exact ⟨n.toNat, by omega, by omega⟩
def PairsAt (W : World) (p : Option Addr) (l : List (Nat × Nat)) : Prop := l = [] ∨ ∃ bk off, p = some ⟨bk, off, none⟩ ∧ bk < W.heap.size ∧ ∀ (i : Nat) (k x : Nat), l[i]? = some (k, x) → k < 18446744073709551616 ∧ x < 18446744073709551616 ∧ W.cell? ⟨bk, off + i * 2, none⟩ = some (.int .u64 (k : Int)) ∧ W.cell? ⟨bk, off + i * 2 + 1, none⟩ = some (.int .u64 (x : Int))
end Go.Proofs.Ytahgaghokpicgaa
/- Two pairs held against each other. -/
namespace Go.Proofs.Ytahgaghokpicgaa
open Go.RowKit Go.Joins
theorem wf_u64 {n : Nat} (h : n < 18446744073709551616) : (Lit.int .u64 (n : Int)).wf = true := by
  have e1 : IntKind.u64.min = 0 := by decide
  have e2 : IntKind.u64.max = 18446744073709551615 := by decide
  simp [Lit.wf, e1, e2]
  omega
theorem trod_u (n : Nat) (h : n < 18446744073709551616) (w : World) : ∃ m, DataW.trod (H := Unit) (fun _ => ()) Try.prog w 0 (fun _ => true) true m 29 [.int .u64 (n : Int)] = some (.lit (.int .u64 (n : Int)), []) :=
  ⟨1, by simp [DataW.trod, Try.underlying29, wf_u64 h]⟩
theorem pair_key (a b : Nat) (ha : a < 18446744073709551616) (hb : b < 18446744073709551616) (w : World) : ∃ l, keyOf Try.prog 55 (.agg #[.int .u64 (a : Int), .int .u64 (b : Int)]) = some l := by
  have t := shut_agg2 (enc := fun _ => ()) (P := Try.prog) (w := w) (base := 0) (spare := fun _ => true) (held := true) Try.underlying55 (by kernel_rfl) (by kernel_rfl) (trod_u a ha w) (trod_u b hb w)
  exact ⟨_, (keyOf_asKey (by kernel_rfl) (by kernel_rfl) (by kernel_rfl) t).1⟩
set_option maxRecDepth 100000 in
theorem pair_eql (a b c d : Nat) (ha : a < 18446744073709551616) (hb : b < 18446744073709551616) (hc : c < 18446744073709551616) (hd : d < 18446744073709551616) (w : World) :
    (Op.equal 55 (.agg #[.int .u64 (a : Int), .int .u64 (b : Int)]) (.agg #[.int .u64 (c : Int), .int .u64 (d : Int)])).run Try.prog w = .ok (decide ((a, b) = (c, d))) w := by
  obtain ⟨l, hl⟩ := pair_key a b ha hb w
  obtain ⟨l', hl'⟩ := pair_key c d hc hd w
  obtain ⟨r, hr, hi⟩ := run_equal_deep (P := Try.prog) w (m := 3) (by omega) (by kernel_rfl) (by kernel_rfl) hl hl'
  rw [hr]
  congr 1
  by_cases e : (a, b) = (c, d)
  · simp only [Prod.mk.injEq] at e
    obtain ⟨rfl, rfl⟩ := e
    rw [hl] at hl'
    simp only [Option.some.injEq] at hl'
    simp [hi.2 hl']
  · have h1 : ¬ r = true := fun h => by
      have h2 := hi.1 h
      subst h2
      have h3 := keyOf_inj_deep (P := Try.prog) (m := 3) (by kernel_rfl) (by kernel_rfl) hl hl'
      simp at h3
      exact e (by simp; omega)
    simp [e, h1]
set_option maxRecDepth 100000 in
theorem pair_neq (a b c d : Nat) (ha : a < 18446744073709551616) (hb : b < 18446744073709551616) (hc : c < 18446744073709551616) (hd : d < 18446744073709551616) (w : World) :
    (binOp .neq 55 (.agg #[.int .u64 (a : Int), .int .u64 (b : Int)]) (.agg #[.int .u64 (c : Int), .int .u64 (d : Int)])).run Try.prog w = .ok (.bool (!decide ((a, b) = (c, d)))) w := by
  have h := pair_eql a b c d ha hb hc hd w
  simp only [binOp, go_sem]
  simp [h, Result.andThen]
end Go.Proofs.Ytahgaghokpicgaa
/- Lists of pairs, held against each other. -/
namespace Go.Proofs.Ytahgaghokpicgaa
open Go.RowKit
set_option linter.unusedVariables false

theorem PairsAt.get {W W' : World} {p : Option Addr} {l : List (Nat × Nat)} (h : PairsAt W p l) (c : Chg (fun _ => False) W W') (i k x : Nat) (hi : l[i]? = some (k, x)) : ∃ bk off, p = some ⟨bk, off, none⟩ ∧ k < 18446744073709551616 ∧ x < 18446744073709551616 ∧ W'.cell? ⟨bk, off + i * 2, none⟩ = some (.int .u64 (k : Int)) ∧ W'.cell? ⟨bk, off + i * 2 + 1, none⟩ = some (.int .u64 (x : Int)) := by
  rcases h with rfl | ⟨bk, off, rfl, _, h⟩
  · simp at hi
  · obtain ⟨b1, b2, h1, h2⟩ := h i k x hi
    exact ⟨bk, off, rfl, b1, b2, cell_chg c h1 (fun x => x), cell_chg c h2 (fun x => x)⟩
end Go.Proofs.Ytahgaghokpicgaa
/- Two answers, held against each other. -/
namespace Go.Proofs.Ytahgaghokpicgaa
open Go.RowKit
set_option linter.unusedVariables false

structure Ans where
  e : Int
  f : Bool
  x : Nat
  d : Bool
  h : Nat
  l : List (Nat × Nat)
  n : Nat
deriving DecidableEq
theorem PairsAt.chg {W W' : World} {p : Option Addr} {l : List (Nat × Nat)} (h : PairsAt W p l) (c : Chg (fun _ => False) W W') : PairsAt W' p l := by
  rcases h with rfl | ⟨bk, off, rfl, hb, h⟩
  · exact .inl rfl
  · refine .inr ⟨bk, off, rfl, Nat.lt_of_lt_of_le hb c.size, fun i k x hi => ?_⟩
    obtain ⟨b1, b2, h1, h2⟩ := h i k x hi
    exact ⟨b1, b2, cell_chg c h1 (fun x => x), cell_chg c h2 (fun x => x)⟩
end Go.Proofs.Ytahgaghokpicgaa
/- The model's tells and do, of the operations that are asked for. -/
namespace Go.Proofs.Ytahgaghokpicgaa
open Go.RowKit
set_option linter.unusedVariables false

theorem bset {w : World} {g : Nat} {cs : Array Value} {t : TypeId} (h : w.heap[g]? = some (.cells cs t (0, 0))) (i : Nat) (v : Value) : (w.setCell ⟨g, i, none⟩ v).heap[g]? = some (.cells (cs.setIfInBounds i v) t (0, 0)) := set_of h i v
def IsModel (W : World) (m n h : Nat) : Prop := W.heap[m]? = some (.cells #[.int .i64 4, .map (some n), .map (some h)] 101 (0, 0))
theorem IsModel.chg {F : Nat → Prop} {W W' : World} {m n h : Nat} (H : IsModel W m n h) (c : Chg F W W') (hn : ¬ F m) : IsModel W' m n h := (c.block m (lt_of H) hn).trans H
theorem setP {W : World} {p i : Nat} (u : Value) : Chg (fun k => k = p) W (W.setCell ⟨p, i, none⟩ u) := (Chg.refl (fun k => k = p) W).setCell (p := ⟨p, i, none⟩) (fun _ => rfl) u
theorem setCells_of (t : TypeId) (p : Nat) (vs : List Value) : ∀ (pre old post : List Value) (w : World), w.heap[p]? = some (.cells (pre ++ old ++ post).toArray t (0, 0)) → old.length = vs.length → (w.setCells p pre.length vs).heap[p]? = some (.cells (pre ++ vs ++ post).toArray t (0, 0)) := by
  induction vs with
  | nil =>
    intro pre old post w h hl
    obtain rfl : old = [] := List.length_eq_zero_iff.1 hl
    simpa [World.setCells] using h
  | cons x vs ih =>
    intro pre old post w h hl
    obtain ⟨y, old', rfl⟩ : ∃ y old', old = y :: old' := by
      cases old with
      | nil => simp at hl
      | cons y o => exact ⟨y, o, rfl⟩
    have h1 := set_of h pre.length x
    have e : (pre ++ y :: old' ++ post).toArray.setIfInBounds pre.length x = ((pre ++ [x]) ++ old' ++ post).toArray := by
      rw [List.setIfInBounds_toArray]
      congr 1
      simp
    rw [e] at h1
    have h2 := ih (pre ++ [x]) old' post (w.setCell ⟨p, pre.length, none⟩ x) h1 (by simpa using hl)
    simp only [List.length_append, List.length_singleton] at h2
    simpa [World.setCells] using h2
theorem setCells_chg (p : Nat) (vs : List Value) : ∀ (o : Nat) (w : World), Chg (fun k => k = p) w (w.setCells p o vs) := by
  induction vs with
  | nil => intro o w; exact Chg.refl _ _
  | cons x vs ih =>
    intro o w
    exact (setP (W := w) (p := p) (i := o) x).trans (ih (o + 1) _) (fun _ _ x => x) (fun _ _ x => x)
end Go.Proofs.Ytahgaghokpicgaa
/- A picture of a map of one entry. -/
namespace Go.Proofs.Ytahgaghokpicgaa
open Go.RowKit Go.Maps
set_option linter.unusedVariables false

theorem K64 : Keyed Try.prog 29 := int_keyed Try.underlying29
theorem grown_chg {a b : World} {row : Option Nat} {F : Nat → Prop} (h : a.grownBy b row) (hr : ∀ k, row = some k → F k) : Chg F a b := (Chg.refl F a).grown h (fun k e _ => hr k e)
theorem mk_hint (n : Int) (w : World) : (Instr.makeMap 98 (some (.int .i64 n))).run Try.prog w = .ok (.map (some w.heap.size)) (w.alloc (.map #[] 0)) := by
  simp [Instr.makeMap, run_underlying Try.underlying98, asInt, asIntOf, Result.andThen]
end Go.Proofs.Ytahgaghokpicgaa
/- What a copy of the model holds, as a list. -/
namespace Go.Proofs.Ytahgaghokpicgaa
open Go.RowKit Go.Maps
set_option linter.unusedVariables false

theorem cells_new (w : World) (g : Nat) (hg : w.heap.size = g) (cs : Array Value) (t : TypeId) : ∀ j u, cs.toList[j]? = some u → (w.alloc (.cells cs t)).cell? ((⟨g, 0, none⟩ : Addr).add j) = some u := by
  intro j u h
  subst hg
  have e : (⟨w.heap.size, 0, none⟩ : Addr).add j = ⟨w.heap.size, j, none⟩ := by unfold Addr.add; split <;> simp_all
  rw [e]
  have hh : (w.alloc (.cells cs t)).heap[w.heap.size]? = some (.cells cs t (0, 0)) := heap_alloc_new _ _
  rw [cell_of hh j]
  simpa using h
theorem infoPair : (Try.prog.info? 55).map (fun i => (i.zero, i.size, i.bytes)) = some (some (.agg #[.int .u64 0, .int .u64 0]), 2, 16) := by kernel_rfl
end Go.Proofs.Ytahgaghokpicgaa
/- What must be whatever is asked (layer 6). -/
namespace Go.Proofs.Ytahgaghokpicgaa
open Go.RowKit
set_option linter.unusedVariables false

structure LM (W w : World) (m n h : Nat) (es : Array MapEntry) (c : Nat) (ho : Obj) : Prop where
  md : IsModel w m n h
  nn : w.heap[n]? = some (.map es c)
  hh : w.heap[h]? = some ho
  mn : m ≠ n
  mh : m ≠ h
  nh : n ≠ h
  ch : Chg (fun _ => False) W w
theorem blk_lt {w : World} {k : Nat} {o : Obj} (h : w.heap[k]? = some o) : k < w.heap.size := (Array.getElem?_eq_some_iff.1 h).1
theorem LM.chg {W w w' : World} {m n h : Nat} {es : Array MapEntry} {c : Nat} {ho : Obj} (H : LM W w m n h es c ho) (k : Chg (fun _ => False) w w') : LM W w' m n h es c ho :=
  ⟨H.md.chg k (fun x => x), (k.block n (blk_lt H.nn) (fun x => x)).trans H.nn, (k.block h (blk_lt H.hh) (fun x => x)).trans H.hh, H.mn, H.mh, H.nh, H.ch.trans k (fun _ _ x => x) (fun _ _ x => x)⟩
end Go.Proofs.Ytahgaghokpicgaa
/- The model's maps, whatever they hold. -/
namespace Go.Proofs.Ytahgaghokpicgaa
open Go.RowKit Go.Maps
set_option linter.unusedVariables false

theorem own_chg {H : Type} {P : Program} {k : TypeId} {R : Value → Option (DataW H × List MemPlace)} {w w' : World} {b n : Nat} {D : DataW H} {F : Nat → Prop} (h : w.ownsMap P k R b n D) (c : Chg F w w') (hb : ¬ F b) : w'.ownsMap P k R b n D := by
  obtain ⟨es, clock, e, r⟩ := h
  exact ⟨es, clock, (c.block b (blk_lt e) hb).trans e, r⟩
def updO (f : Nat → Option Nat) (k : Nat) (v : Option Nat) : Nat → Option Nat := fun j => if j = k then v else f j
theorem updO_same (f : Nat → Option Nat) (k : Nat) (v : Option Nat) : updO f k v k = v := if_pos rfl
theorem updO_other (f : Nat → Option Nat) {k j : Nat} (v : Option Nat) (h : j ≠ k) : updO f k v j = f j := if_neg h
theorem lit_ne {j k : Nat} (h : j ≠ k) : (Lit.int .u64 (j : Int)) ≠ Lit.int .u64 (k : Int) := fun e => h (by injection e with _ e; omega)
/-- What a map's datum says: f. -/
structure RdM {H : Type} (el : Nat → DataW H) (ok : Nat → Prop) (D : DataW H) (f : Nat → Option Nat) : Prop where
  has : ∀ k : Nat, Maps.has D (.int .u64 (k : Int)) = (f k).isSome
  val : ∀ k v, f k = some v → ∀ z, D.atKey (.int .u64 (k : Int)) z = el v
  lt : ∀ k v, f k = some v → k < 18446744073709551616 ∧ ok v
theorem RdM.put {H : Type} {el : Nat → DataW H} {ok : Nat → Prop} {D : DataW H} {f : Nat → Option Nat} (h : RdM el ok D f) (hm : IsMap D) {k v : Nat} (hk : k < 18446744073709551616) (hv : ok v) : RdM el ok (D.put (.int .u64 (k : Int)) (el v)) (updO f k (some v)) := by
  refine ⟨fun j => ?_, fun j u hj z => ?_, fun j u hj => ?_⟩
  · by_cases e : j = k
    · subst e; rw [updO_same, has_put_same hm (by trivial)]; rfl
    · rw [updO_other _ _ e, has_put_other (lit_ne e)]; exact h.has j
  · by_cases e : j = k
    · subst e; rw [updO_same] at hj; injection hj with hj; subst hj; exact atKey_put_same hm (by trivial) _ _
    · rw [updO_other _ _ e] at hj; rw [atKey_put_other (lit_ne e)]; exact h.val j u hj z
  · by_cases e : j = k
    · subst e; rw [updO_same] at hj; injection hj with hj; subst hj; exact ⟨hk, hv⟩
    · rw [updO_other _ _ e] at hj; exact h.lt j u hj
theorem RdM.del {H : Type} {el : Nat → DataW H} {ok : Nat → Prop} {D : DataW H} {f : Nat → Option Nat} (h : RdM el ok D f) (k : Nat) : RdM el ok (D.del (.int .u64 (k : Int))) (updO f k none) := by
  refine ⟨fun j => ?_, fun j u hj z => ?_, fun j u hj => ?_⟩
  · by_cases e : j = k
    · subst e; rw [updO_same, has_del_same]; rfl
    · rw [updO_other _ _ e, has_del_other (lit_ne e)]; exact h.has j
  · by_cases e : j = k
    · subst e; rw [updO_same] at hj; cases hj
    · rw [updO_other _ _ e] at hj; rw [atKey_del_other (lit_ne e)]; exact h.val j u hj z
  · by_cases e : j = k
    · subst e; rw [updO_same] at hj; cases hj
    · rw [updO_other _ _ e] at hj; exact h.lt j u hj
/-- A block that is a map: f. -/
def MapR {H : Type} (R : Value → Option (DataW H × List MemPlace)) (el : Nat → DataW H) (ok : Nat → Prop) (W : World) (b n : Nat) (f : Nat → Option Nat) : Prop :=
  ∃ D, W.ownsMap Try.prog 29 R b n D ∧ RdM el ok D f
theorem MapR.lt {H : Type} {R : Value → Option (DataW H × List MemPlace)} {el : Nat → DataW H} {ok : Nat → Prop} {W : World} {b n : Nat} {f : Nat → Option Nat} (h : MapR R el ok W b n f) : b < W.heap.size := by
  obtain ⟨D, h, _⟩ := h; exact h.lt
theorem MapR.chg {H : Type} {R : Value → Option (DataW H × List MemPlace)} {el : Nat → DataW H} {ok : Nat → Prop} {F : Nat → Prop} {W W' : World} {b n : Nat} {f : Nat → Option Nat} (h : MapR R el ok W b n f) (c : Chg F W W') (hn : ¬ F b) : MapR R el ok W' b n f := by
  obtain ⟨D, h, r⟩ := h; exact ⟨D, own_chg h c hn, r⟩
theorem MapR.mono {H : Type} {R : Value → Option (DataW H × List MemPlace)} {el : Nat → DataW H} {ok : Nat → Prop} {W : World} {b n n' : Nat} {f : Nat → Option Nat} (h : MapR R el ok W b n f) (hn : n ≤ n') : MapR R el ok W b n' f := by
  obtain ⟨D, h, r⟩ := h; exact ⟨D, h.mono hn, r⟩
theorem MapR.made {H : Type} (R : Value → Option (DataW H × List MemPlace)) (el : Nat → DataW H) (ok : Nat → Prop) (W : World) : MapR R el ok (W.alloc (.map #[] 0)) W.heap.size 0 (fun _ => none) :=
  ⟨.map [], World.ownsMap_made W Try.prog 29 R, ⟨fun k => rfl, fun k v h => by simp at h, fun k v h => by simp at h⟩⟩
theorem MapR.block {H : Type} {R : Value → Option (DataW H × List MemPlace)} {el : Nat → DataW H} {ok : Nat → Prop} {W W' : World} {b b' n : Nat} {f : Nat → Option Nat} (h : MapR R el ok W b n f) {es : Array MapEntry} {c : Nat} (hb : W.heap[b]? = some (.map es c)) (hb' : W'.heap[b']? = some (.map es c)) : MapR R el ok W' b' n f := by
  obtain ⟨D, ⟨es0, c0, h0, F, hs, hD⟩, r⟩ := h
  rw [hb] at h0
  simp only [Option.some.injEq, Obj.map.injEq] at h0
  obtain ⟨rfl, rfl⟩ := h0
  exact ⟨D, ⟨es, c, hb', F, hs, hD⟩, r⟩
theorem MapR.is {H : Type} {R : Value → Option (DataW H × List MemPlace)} {el : Nat → DataW H} {ok : Nat → Prop} {W : World} {b n : Nat} {f : Nat → Option Nat} (h : MapR R el ok W b n f) : ∃ es c, W.heap[b]? = some (.map es c) := by
  obtain ⟨D, ⟨es0, c0, h0, _⟩, r⟩ := h; exact ⟨_, _, h0⟩
theorem key64 {k : Nat} (hk : k < 18446744073709551616) : keyOf Try.prog 29 (.int .u64 (k : Int)) = some (.int .u64 (k : Int)) := keyOf_int_mk Try.underlying29 (wf_u64 hk)
theorem MapR.putR {H : Type} {R : Value → Option (DataW H × List MemPlace)} {el : Nat → DataW H} {ok : Nat → Prop} {W : World} {b n : Nat} {f : Nat → Option Nat} (h : MapR R el ok W b n f) {t e : TypeId} (ht : Try.prog.underlying t = some (.map 29 e)) (hn : n < maxLen) {k v : Nat} {val : Value} {ps : List MemPlace} (hk : k < 18446744073709551616) (hv : ok v) (hR : R val = some (el v, ps)) :
    ∃ W', (Instr.mapUpdate t (.map (some b)) (.int .u64 (k : Int)) val).run Try.prog W = .ok () W' ∧ MapR R el ok W' b (n + 1) (updO f k (some v)) ∧ Chg (fun i => i = b) W W' := by
  obtain ⟨D, h, r⟩ := h
  obtain ⟨w', hr, ho, hg⟩ := h.update K64 ht hn (key64 hk) hR
  exact ⟨w', hr, ⟨_, ho, r.put h.isMap hk hv⟩, grown_chg hg (fun i e => (Option.some.inj e).symm)⟩
theorem MapR.delR {H : Type} {R : Value → Option (DataW H × List MemPlace)} {el : Nat → DataW H} {ok : Nat → Prop} {W : World} {b n : Nat} {f : Nat → Option Nat} (h : MapR R el ok W b n f) {t e : TypeId} (ht : Try.prog.underlying t = some (.map 29 e)) {k : Nat} (hk : k < 18446744073709551616) (ty : TypeId) :
    ∃ W', (Builtin.delete_ #[t, 29] ty #[.map (some b), .int .u64 (k : Int)]).run Try.prog W = .ok (.tuple #[]) W' ∧ MapR R el ok W' b n (updO f k none) ∧ Chg (fun i => i = b) W W' := by
  obtain ⟨D, h, r⟩ := h
  obtain ⟨w', hr, ho, hg⟩ := h.drop K64 ht (key64 hk) ty
  exact ⟨w', hr, ⟨_, ho, r.del k⟩, grown_chg hg.grown (fun i e => (Option.some.inj e).symm)⟩
/-- A content: keys and values. -/
def elU (v : Nat) : DataW Unit := .lit (.int .u64 (v : Int))
def MapAt (W : World) (b n : Nat) (f : Nat → Option Nat) : Prop := MapR (H := Unit) (plainElem Try.prog 29) elU (fun v => v < 18446744073709551616) W b n f
/-- The pictures: handles and blocks. -/
def heldM (v : Value) : Option (DataW (Option Nat) × List MemPlace) := match v with
  | .map p => some (.held p, [])
  | _ => none
def elH (b : Nat) : DataW (Option Nat) := .held (some b)
def HeldAt (W : World) (b n : Nat) (h : Nat → Option Nat) : Prop := MapR heldM elH (fun _ => True) W b n h
theorem zeroU (w : World) : (zeroValue 29).run Try.prog w = .ok (.int .u64 0) w := by kernel_rfl
theorem zeroC (w : World) : (zeroValue 98).run Try.prog w = .ok (.map none) w := by kernel_rfl
theorem MapAt.look {W : World} {b n : Nat} {f : Nat → Option Nat} (h : MapAt W b n f) {k : Nat} (hk : k < 18446744073709551616) :
    (Instr.lookup 98 (.map (some b)) (.int .u64 (k : Int)) true).run Try.prog W = .ok (.tuple #[.int .u64 (((f k).getD 0 : Nat) : Int), .bool (f k).isSome]) W := by
  obtain ⟨D, h, r⟩ := h
  obtain ⟨v, ps, hr, hv⟩ := h.look_ok K64 Try.underlying98 (zeroU W) (plainElem_int (H := Unit) Try.underlying29 (show (Lit.int .u64 0).wf = true by decide)) (key64 hk)
  rw [hr, r.has k]
  cases hf : f k with
  | none =>
    rw [atKey_of_not_has (by rw [r.has k, hf]; rfl)] at hv
    obtain ⟨c, rfl, hc, _⟩ := plainElem_int_inv Try.underlying29 hv
    simp at hc
    simp [← hc.1]
  | some u =>
    rw [r.val k u hf] at hv
    obtain ⟨c, rfl, hc, _⟩ := plainElem_int_inv Try.underlying29 hv
    simp [elU] at hc
    simp [← hc.1]
theorem HeldAt.look {W : World} {b n : Nat} {f : Nat → Option Nat} (h : HeldAt W b n f) {k : Nat} (hk : k < 18446744073709551616) :
    (Instr.lookup 99 (.map (some b)) (.int .u64 (k : Int)) true).run Try.prog W = .ok (.tuple #[.map (f k), .bool (f k).isSome]) W := by
  obtain ⟨D, h, r⟩ := h
  obtain ⟨v, ps, hr, hv⟩ := h.look_ok K64 Try.underlying99 (zeroC W) (show heldM (.map none) = some (.held none, []) from rfl) (key64 hk)
  rw [hr, r.has k]
  have e : v = .map (f k) := by
    cases hf : f k with
    | none =>
      rw [atKey_of_not_has (by rw [r.has k, hf]; rfl)] at hv
      cases v <;> simp [heldM] at hv
      rw [hv.1]
    | some u =>
      rw [r.val k u hf] at hv
      cases v <;> simp [heldM, elH] at hv
      rw [hv.1]
  rw [e]
theorem MapAt.put {W : World} {b n : Nat} {f : Nat → Option Nat} (h : MapAt W b n f) (hn : n < maxLen) {k v : Nat} (hk : k < 18446744073709551616) (hv : v < 18446744073709551616) :
    ∃ W', (Instr.mapUpdate 98 (.map (some b)) (.int .u64 (k : Int)) (.int .u64 (v : Int))).run Try.prog W = .ok () W' ∧ MapAt W' b (n + 1) (updO f k (some v)) ∧ Chg (fun i => i = b) W W' :=
  MapR.putR h Try.underlying98 hn hk hv (plainElem_int (H := Unit) Try.underlying29 (wf_u64 hv))
theorem HeldAt.put {W : World} {b n : Nat} {f : Nat → Option Nat} (h : HeldAt W b n f) (hn : n < maxLen) {k : Nat} (hk : k < 18446744073709551616) (v : Nat) :
    ∃ W', (Instr.mapUpdate 99 (.map (some b)) (.int .u64 (k : Int)) (.map (some v))).run Try.prog W = .ok () W' ∧ HeldAt W' b (n + 1) (updO f k (some v)) ∧ Chg (fun i => i = b) W W' :=
  MapR.putR h Try.underlying99 hn hk trivial rfl
end Go.Proofs.Ytahgaghokpicgaa
/- ModelSames: the whole walk. -/
namespace Go.Proofs.Ytahgaghokpicgaa
open Go.RowKit
set_option linter.unusedVariables false

def prRow (l : List (Nat × Nat)) : List Value := l.flatMap (fun x => [.int .u64 (x.1 : Int), .int .u64 (x.2 : Int)])
theorem prRow_len (l : List (Nat × Nat)) : (prRow l).length = l.length * 2 := by
  induction l with
  | nil => rfl
  | cons x l ih => simp [prRow] at ih ⊢; omega
theorem prRow_get (l : List (Nat × Nat)) : ∀ (i k x : Nat), l[i]? = some (k, x) → (prRow l)[i * 2]? = some (.int .u64 (k : Int)) ∧ (prRow l)[i * 2 + 1]? = some (.int .u64 (x : Int)) := by
  induction l with
  | nil => intro i k x h; simp at h
  | cons y l ih =>
    intro i k x h
    have e : prRow (y :: l) = .int .u64 (y.1 : Int) :: .int .u64 (y.2 : Int) :: prRow l := rfl
    rw [e]
    cases i with
    | zero => simp at h; subst h; exact ⟨rfl, rfl⟩
    | succ i =>
      have q := ih i k x (by simpa using h)
      rw [show (i + 1) * 2 = i * 2 + 1 + 1 by omega]
      exact ⟨by simpa using q.1, by simpa using q.2⟩
theorem prRow_inv (l : List (Nat × Nat)) : ∀ (j : Nat) (u : Value), (prRow l)[j]? = some u → ∃ i k x : Nat, l[i]? = some (k, x) ∧ ((j = i * 2 ∧ u = .int .u64 (k : Int)) ∨ (j = i * 2 + 1 ∧ u = .int .u64 (x : Int))) := by
  intro j u h
  have hj := (List.getElem?_eq_some_iff.1 h).1
  rw [prRow_len] at hj
  obtain ⟨⟨k, x⟩, hk⟩ : ∃ y, l[j / 2]? = some y := ⟨l[j / 2]'(by omega), List.getElem?_eq_getElem _⟩
  have q := prRow_get l (j / 2) k x hk
  refine ⟨j / 2, k, x, hk, ?_⟩
  rcases Nat.mod_two_eq_zero_or_one j with m | m
  · left
    have e : j = j / 2 * 2 := by omega
    refine ⟨e, ?_⟩
    rw [e, q.1] at h
    simpa using h.symm
  · right
    have e : j = j / 2 * 2 + 1 := by omega
    refine ⟨e, ?_⟩
    rw [e, q.2] at h
    simpa using h.symm
theorem prRow_one (l : List (Nat × Nat)) : ∀ u ∈ prRow l, u.oneCell' = true := by
  intro u hu
  obtain ⟨j, hj⟩ := List.mem_iff_getElem?.1 hu
  obtain ⟨i, k, x, _, h⟩ := prRow_inv l j u hj
  rcases h with ⟨_, rfl⟩ | ⟨_, rfl⟩ <;> rfl
end Go.Proofs.Ytahgaghokpicgaa
/- A content as a list by rising keys; how many keys there are between two. -/
namespace Go.Proofs.Ytahgaghokpicgaa
open Go.RowKit Go.Maps
set_option linter.unusedVariables false

/-- The pairs of f from lo to hi, by rising keys. -/
def Lists (f : Nat → Option Nat) (lo hi : Nat) (l : List (Nat × Nat)) : Prop := l.Pairwise (fun a b => a.1 < b.1) ∧ ∀ k v, (k, v) ∈ l ↔ f k = some v ∧ lo ≤ k ∧ k ≤ hi
theorem rising_unique : ∀ {l₁ l₂ : List (Nat × Nat)}, l₁.Pairwise (fun a b => a.1 < b.1) → l₂.Pairwise (fun a b => a.1 < b.1) → (∀ p, p ∈ l₁ ↔ p ∈ l₂) → l₁ = l₂
  | [], [], _, _, _ => rfl
  | [], y :: r, _, _, h => absurd ((h y).2 (by simp)) (by simp)
  | x :: r, [], _, _, h => absurd ((h x).1 (by simp)) (by simp)
  | x :: r, y :: s, h1, h2, h => by
    obtain ⟨a1, b1⟩ := List.pairwise_cons.1 h1
    obtain ⟨a2, b2⟩ := List.pairwise_cons.1 h2
    have e : x = y := by
      rcases List.mem_cons.1 ((h x).1 (by simp)) with e | e
      · exact e
      · rcases List.mem_cons.1 ((h y).2 (by simp)) with e' | e'
        · exact e'.symm
        · have q1 := a2 x e
          have q2 := a1 y e'
          omega
    subst e
    rw [rising_unique b1 b2 (fun p => ?_)]
    constructor
    · intro hp
      rcases List.mem_cons.1 ((h p).1 (by simp [hp])) with e | e
      · subst e; have := a1 p hp; omega
      · exact e
    · intro hp
      rcases List.mem_cons.1 ((h p).2 (by simp [hp])) with e | e
      · subst e; have := a2 p hp; omega
      · exact e
theorem Lists.unique {f : Nat → Option Nat} {lo hi : Nat} {l₁ l₂ : List (Nat × Nat)} (h1 : Lists f lo hi l₁) (h2 : Lists f lo hi l₂) : l₁ = l₂ :=
  rising_unique h1.1 h2.1 (fun ⟨k, v⟩ => (h1.2 k v).trans (h2.2 k v).symm)
/-- What has come of f so far. -/
structure Part (f : Nat → Option Nat) (lo hi : Nat) (left : Lit → Bool) (l : List (Nat × Nat)) : Prop where
  nd : (l.map Prod.fst).Nodup
  mem : ∀ k v, (k, v) ∈ l ↔ f k = some v ∧ lo ≤ k ∧ k ≤ hi ∧ left (.int .u64 (k : Int)) = false
theorem Part.start {H : Type} {el : Nat → DataW H} {ok : Nat → Prop} {D : DataW H} {f : Nat → Option Nat} (r : RdM el ok D f) (lo hi : Nat) : Part f lo hi (Maps.has D) [] :=
  ⟨List.nodup_nil, fun k v => ⟨fun h => by simp at h, fun ⟨h, _, _, h2⟩ => by rw [r.has k, h] at h2; cases h2⟩⟩
theorem left_step {left : Lit → Bool} (x k : Nat) : ((fun z : Lit => left z && !z.sameKey (.int .u64 (x : Int))) (.int .u64 (k : Int)) = false) ↔ left (.int .u64 (k : Int)) = false ∨ k = x := by
  by_cases e : k = x
  · subst e
    simp [WideAt.sameKey_self (show WideAt.IsKeyLit (.int .u64 (k : Int)) by trivial)]
  · simp [sameKey_ne (lit_ne e), e]
theorem Part.more {f : Nat → Option Nat} {lo hi : Nat} {left : Lit → Bool} {l : List (Nat × Nat)} (h : Part f lo hi left l) {x c : Nat} (hf : f x = some c) (hl : left (.int .u64 (x : Int)) = true) (h1 : lo ≤ x) (h2 : x ≤ hi) : Part f lo hi (fun z => left z && !z.sameKey (.int .u64 (x : Int))) (l ++ [(x, c)]) := by
  refine ⟨?_, fun k v => ?_⟩
  · rw [List.map_append, List.nodup_append]
    refine ⟨h.nd, by simp, fun a ha b hb => ?_⟩
    simp at hb
    subst hb
    rintro rfl
    obtain ⟨⟨k, v⟩, hm, e⟩ := List.mem_map.1 ha
    simp at e
    subst e
    have := ((h.mem k v).1 hm).2.2.2
    rw [hl] at this
    cases this
  · rw [left_step, List.mem_append, h.mem k v]
    constructor
    · rintro (⟨a, b, c, d⟩ | q)
      · exact ⟨a, b, c, .inl d⟩
      · simp at q
        obtain ⟨rfl, rfl⟩ := q
        exact ⟨hf, h1, h2, .inr rfl⟩
    · rintro ⟨a, b, c, d | d⟩
      · exact .inl ⟨a, b, c, d⟩
      · subst d
        rw [hf] at a
        injection a with a
        subst a
        exact .inr (by simp)
theorem Part.skip {f : Nat → Option Nat} {lo hi : Nat} {left : Lit → Bool} {l : List (Nat × Nat)} (h : Part f lo hi left l) {x : Nat} (h1 : ¬ (lo ≤ x ∧ x ≤ hi)) : Part f lo hi (fun z => left z && !z.sameKey (.int .u64 (x : Int))) l := by
  refine ⟨h.nd, fun k v => ?_⟩
  rw [left_step, h.mem k v]
  constructor
  · rintro ⟨a, b, c, d⟩; exact ⟨a, b, c, .inl d⟩
  · rintro ⟨a, b, c, d | d⟩
    · exact ⟨a, b, c, d⟩
    · subst d; exact absurd ⟨b, c⟩ h1
theorem RdM.came {D : DataW Unit} {ok : Nat → Prop} {f : Nat → Option Nat} (r : RdM elU ok D f) {x c : Nat} (h : ∀ zd, D.atKey (.int .u64 (x : Int)) zd = .lit (.int .u64 (c : Int))) : f x = some c := by
  have hh := has_true_of_atKey h
  rw [r.has x] at hh
  obtain ⟨v, hv⟩ := Option.isSome_iff_exists.1 hh
  have e := (r.val x v hv .nil).symm.trans (h .nil)
  simp [elU] at e
  rw [hv]
  exact congrArg some (by omega)
def byK (a b : Nat × Nat) : Bool := decide (a.1 ≤ b.1)
theorem Part.lists {f : Nat → Option Nat} {lo hi : Nat} {left : Lit → Bool} {l : List (Nat × Nat)} (h : Part f lo hi left l) (hl : ∀ k, left k = false) {l' : List (Nat × Nat)} (hp : l'.Perm l) (hs : l'.Pairwise (fun a b => a.1 ≤ b.1)) : Lists f lo hi l' := by
  refine ⟨?_, fun k v => ?_⟩
  · have nd : (l'.map Prod.fst).Nodup := (hp.map Prod.fst).nodup_iff.2 h.nd
    have nd2 : l'.Pairwise (fun a b => a.1 ≠ b.1) := List.pairwise_map.1 nd
    refine (hs.and nd2).imp ?_
    rintro a b ⟨h1, h2⟩
    omega
  · rw [hp.mem_iff, h.mem k v]
    simp [hl]
theorem Part.exists {f : Nat → Option Nat} {lo hi : Nat} {left : Lit → Bool} {l : List (Nat × Nat)} (h : Part f lo hi left l) (hl : ∀ k, left k = false) : ∃ l', Lists f lo hi l' ∧ l'.length = l.length := by
  have hp := List.mergeSort_perm l byK
  refine ⟨l.mergeSort byK, h.lists hl hp ?_, hp.length_eq⟩
  refine (List.pairwise_mergeSort (le := byK) ?_ ?_ l).imp ?_
  · intro a b c h1 h2; simp [byK] at *; omega
  · intro a b; simp [byK]; omega
  · intro a b h; simpa [byK] using h
def natOf (v : Value) : Nat := (intOf v).toNat
set_option maxRecDepth 100000 in
set_option maxHeartbeats 2000000 in
theorem c_count {W : World} {b n : Nat} {f : Nat → Option Nat} (h : MapAt W b n f) (hn : n ≤ 8796093022000) {lo hi : Nat} (hlo : lo < 18446744073709551616) (hhi : hi < 18446744073709551616) :
    Calls Try.prog 93 #[.map (some b), .int .u64 (lo : Int), .int .u64 (hi : Int)] W fun e W' => (∃ l, Lists f lo hi l ∧ e = .returned (.int .u64 (l.length : Int)) ∧ l.length ≤ n) ∧ Chg (fun _ => False) W W' := by
  obtain ⟨D, hown, r⟩ := h
  have hsz := hown.size_le
  have HR := keepH r
  clear r
  go_enter Try.func93, Try.ntmps93
  go_wp2_with (first | (at_range; refine wpList_range_own _ rfl _ 98 rfl 29 29 K64 Try.underlying98 _ b n _ rfl hown ?_; intro w1 hrg1 hg1 hs1))
  have HC1 : Hid (Chg (fun _ => False) W w1) := grown_chg hg1 (fun k e => by simp at e)
  have HRG := keepH hrg1
  clear hg1 hrg1 hown hs1
  go_frame
  go_loopw [7] (fun s wr => ∃ (left : Lit → Bool) (cnt : Nat) (l : List (Nat × Nat)), s = .int .u64 (l.length : Int) ∧ Hid (wr.ranges Try.prog 29 (plainElem Try.prog 29) b W.heap.size n D left cnt ∧ Part f lo hi left l ∧ l.length + cnt ≤ Maps.size D ∧ Chg (fun _ => False) W wr)) (fun _ wr => wr.rangeLeft b W.heap.size)
  case atStart => exact ⟨_, _, [], rfl, ⟨HRG.out, Part.start HR.out lo hi, by simp, HC1.out⟩⟩
  case round =>
    obtain ⟨left, cnt, l, rfl, HK⟩ := hrel
    have hrg := HK.out.1
    have hlc := HK.out.2.2.1
    go_wp2_with (first | (at_next; refine wpList_next_ranges_ii _ rfl _ rfl 29 29 .u64 .u64 K64 Try.underlying29 Try.underlying29 b W.heap.size n _ _ _ rfl hrg ?_ ?_))
    · intro h0 hl0
      go_wp2_with fail
      go_ret
      obtain ⟨l', h1, h2⟩ := HK.out.2.1.exists hl0
      exact ⟨⟨l', h1, by simp [h2], by omega⟩, HK.out.2.2.2⟩
    · intro x c w2 cnt2 hwx hwc hlx hat hrg2 hlt hg2 hs2 hen
      obtain ⟨x, rfl, hx⟩ := nat_u64 hwx
      obtain ⟨c, rfl, hc⟩ := nat_u64 hwc
      have hf := HR.out.came hat
      have HC2 : Hid (Chg (fun _ => False) W w2) := HK.out.2.2.2.trans (grown_chg hg2 (F := fun k => k = W.heap.size) (fun k e => (Option.some.inj e).symm)) (fun _ _ x => x) (fun i hi e => by omega)
      have HF : Hid (f x = some c ∧ left (.int .u64 (x : Int)) = true) := ⟨hf, hlx⟩
      have HG2 := keepH hrg2
      have hmeas := hrg2.left_eq
      have hmeas0 := hrg.left_eq
      clear hat hf hlx hwx hwc hg2 hs2 hrg2 hrg
      by_cases t1 : lo ≤ x
      · have q1 : (lo : Int) ≤ (x : Int) := by omega
        by_cases t2 : x ≤ hi
        · have q2 : (x : Int) ≤ (hi : Int) := by omega
          have T := keepH (And.intro t1 t2)
          clear t1 t2
          go_wp2_with fail
          go_roundw
          case rel => exact ⟨_, cnt2, l ++ [(x, c)], by first | rfl | go_num | simp, HG2.out, HK.out.2.1.more HF.out.1 HF.out.2 T.out.1 T.out.2, by simp; omega, HC2.out⟩
          case measure => rw [hmeas, hmeas0]; exact hlt
        · have q2 : ¬ (x : Int) ≤ (hi : Int) := by omega
          have T : Hid (¬ (lo ≤ x ∧ x ≤ hi)) := fun z => t2 z.2
          clear t1 t2
          go_wp2_with fail
          go_roundw
          case rel => exact ⟨_, cnt2, l, rfl, HG2.out, HK.out.2.1.skip T.out, by omega, HC2.out⟩
          case measure => rw [hmeas, hmeas0]; exact hlt
      · have q1 : ¬ (lo : Int) ≤ (x : Int) := by omega
        have T : Hid (¬ (lo ≤ x ∧ x ≤ hi)) := fun z => t1 z.1
        clear t1
        go_wp2_with fail
        go_roundw
        case rel => exact ⟨_, cnt2, l, rfl, HG2.out, HK.out.2.1.skip T.out, by omega, HC2.out⟩
        case measure => rw [hmeas, hmeas0]; exact hlt
end Go.Proofs.Ytahgaghokpicgaa
/- A content asked for some keys; pairs laid one behind the other. -/
namespace Go.Proofs.Ytahgaghokpicgaa
open Go.RowKit Go.Maps
set_option linter.unusedVariables false

/-- Numbers that lie in a row. -/
def KeysAt (W : World) (p : Option Addr) (l : List Nat) : Prop := l = [] ∨ ∃ bk off, p = some ⟨bk, off, none⟩ ∧ bk < W.heap.size ∧ ∀ (i : Nat) (k : Nat), l[i]? = some k → k < 18446744073709551616 ∧ W.cell? ⟨bk, off + i, none⟩ = some (.int .u64 (k : Int))
theorem KeysAt.chg {F : Nat → Prop} {W W' : World} {p : Option Addr} {l : List Nat} (h : KeysAt W p l) (c : Chg F W W') (hn : ∀ bk off, p = some ⟨bk, off, none⟩ → ¬ F bk) : KeysAt W' p l := by
  rcases h with h | ⟨bk, off, rfl, hb, h⟩
  · exact .inl h
  · exact .inr ⟨bk, off, rfl, Nat.lt_of_lt_of_le hb c.size, fun i k hk => ⟨(h i k hk).1, cell_chg c (h i k hk).2 (hn bk off rfl)⟩⟩
theorem PairsAt.chgF {F : Nat → Prop} {W W' : World} {p : Option Addr} {l : List (Nat × Nat)} (h : PairsAt W p l) (c : Chg F W W') (hn : ∀ bk off, p = some ⟨bk, off, none⟩ → ¬ F bk) : PairsAt W' p l := by
  rcases h with h | ⟨bk, off, rfl, hb, h⟩
  · exact .inl h
  · exact .inr ⟨bk, off, rfl, Nat.lt_of_lt_of_le hb c.size, fun i k x hk => by
      obtain ⟨a, b, c1, c2⟩ := h i k x hk
      exact ⟨a, b, cell_chg c c1 (hn bk off rfl), cell_chg c c2 (hn bk off rfl)⟩⟩
def small64 (l : List (Nat × Nat)) : Prop := ∀ x ∈ l, x.1 < 18446744073709551616 ∧ x.2 < 18446744073709551616
/-- A row of pairs of the call's own. -/
def PRow (W : World) (B : Nat) (v : Value) (l : List (Nat × Nat)) : Prop := W.ownsRow B 55 2 v l.length (prRow l) ∧ small64 l
theorem PRow.nil (W : World) (B : Nat) : PRow W B (.slice none 0 0) [] := ⟨⟨rfl, .inl ⟨rfl, rfl⟩⟩, fun x h => by simp at h⟩
theorem PRow.kept {W W' : World} {B : Nat} {v : Value} {l : List (Nat × Nat)} {row : Option Nat} (h : PRow W B v l) (hg : W.grownBy W' row) (hn : v.ownBlock = none ∨ v.ownBlock ≠ row) : PRow W' B v l := ⟨h.1.kept hg hn, h.2⟩
theorem PRow.lt {W : World} {B : Nat} {v : Value} {l : List (Nat × Nat)} (h : PRow W B v l) : ∀ b, v.ownBlock = some b → B ≤ b ∧ b < W.heap.size := h.1.lt
theorem PRow.slice {W : World} {B : Nat} {v : Value} {l : List (Nat × Nat)} (h : PRow W B v l) : ∃ p c, v = .slice p l.length c ∧ PairsAt W p l ∧ ∀ bk off, p = some ⟨bk, off, none⟩ → B ≤ bk := by
  obtain ⟨⟨hl, h⟩, hs⟩ := h
  rcases h with ⟨rfl, e⟩ | ⟨g, cap, cur, rfl, hB, hg, _, _, _, ht⟩
  · obtain rfl := List.length_eq_zero_iff.1 e
    exact ⟨none, 0, rfl, .inl rfl, fun bk off e => by cases e⟩
  · refine ⟨_, cap, rfl, .inr ⟨g, 0, rfl, lt_of hg, fun i k x hk => ?_⟩, fun bk off e => by injection e with e; injection e with e; omega⟩
    have hm := hs (k, x) (List.mem_of_getElem? hk)
    have hi := (List.getElem?_eq_some_iff.1 hk).1
    obtain ⟨q1, q2⟩ := prRow_get l i k x hk
    rw [← ht, List.getElem?_take_of_lt (by omega)] at q1 q2
    refine ⟨hm.1, hm.2, ?_, ?_⟩
    · rw [cell_of hg]; simpa using q1
    · rw [cell_of hg]; simpa using q2
/-- A row of pairs of one's own, by its slice. -/
def OPairs (W : World) (p : Option Addr) (c : Nat) (l : List (Nat × Nat)) : Prop := PRow W 0 (.slice p l.length c) l
theorem OPairs.nil (W : World) : OPairs W none 0 [] := PRow.nil W 0
theorem OPairs.of_nil {W : World} {l : List (Nat × Nat)} (h : l = []) : OPairs W none 0 l := by subst h; exact OPairs.nil W
theorem PRow.oslice {W : World} {B : Nat} {v : Value} {l : List (Nat × Nat)} (h : PRow W B v l) : ∃ p c, v = .slice p l.length c ∧ OPairs W p c l ∧ ∀ bk off, p = some ⟨bk, off, none⟩ → B ≤ bk := by
  obtain ⟨p, c, rfl, -, hb⟩ := h.slice
  refine ⟨p, c, rfl, ⟨⟨h.1.1, ?_⟩, h.2⟩, hb⟩
  rcases h.1.2 with q | ⟨g, cap, cur, q1, q2, q3⟩
  · exact .inl q
  · exact .inr ⟨g, cap, cur, q1, Nat.zero_le _, q3⟩
theorem OPairs.at_ {W : World} {p : Option Addr} {c : Nat} {l : List (Nat × Nat)} (h : OPairs W p c l) : PairsAt W p l := by
  obtain ⟨p', c', e, hP, -⟩ := h.slice
  injection e with e1 e2 e3
  subst e1
  exact hP
theorem OPairs.chgF {F : Nat → Prop} {W W' : World} {p : Option Addr} {c : Nat} {l : List (Nat × Nat)} (h : OPairs W p c l) (k : Chg F W W') (hn : ∀ bk off, p = some ⟨bk, off, none⟩ → ¬ F bk) : OPairs W' p c l := by
  refine ⟨⟨h.1.1, ?_⟩, h.2⟩
  rcases h.1.2 with q | ⟨g, cap, cur, q1, q2, q3, q4⟩
  · exact .inl q
  · refine .inr ⟨g, cap, cur, q1, q2, (k.block g (lt_of q3) ?_).trans q3, q4⟩
    injection q1 with e1 e2 e3
    exact hn g 0 e1
theorem OPairs.chg {W W' : World} {p : Option Addr} {c : Nat} {l : List (Nat × Nat)} (h : OPairs W p c l) (k : Chg (fun _ => False) W W') : OPairs W' p c l := h.chgF k (fun _ _ _ x => x)
def OPx (W : World) (p : Option Addr) (l : List (Nat × Nat)) : Prop := ∃ c, OPairs W p c l
theorem OPx.chgF {F : Nat → Prop} {W W' : World} {p : Option Addr} {l : List (Nat × Nat)} (h : OPx W p l) (k : Chg F W W') (hn : ∀ bk off, p = some ⟨bk, off, none⟩ → ¬ F bk) : OPx W' p l := h.imp (fun _ h => h.chgF k hn)
theorem OPx.at_ {W : World} {p : Option Addr} {l : List (Nat × Nat)} (h : OPx W p l) : PairsAt W p l := h.choose_spec.at_
theorem prRow_add (l : List (Nat × Nat)) (k v : Nat) : prRow l ++ [.int .u64 (k : Int), .int .u64 (v : Int)] = prRow (l ++ [(k, v)]) := by simp [prRow]
theorem PRow.add {W' : World} {B : Nat} {v' : Value} {l : List (Nat × Nat)} (hs : small64 l) {k x : Nat} (hk : k < 18446744073709551616) (hx : x < 18446744073709551616) (h : W'.ownsRow B 55 2 v' (l.length + 1) (prRow l ++ [.int .u64 (k : Int), .int .u64 (x : Int)])) : PRow W' B v' (l ++ [(k, x)]) := by
  refine ⟨?_, fun y hy => ?_⟩
  · rw [← prRow_add]; simpa using h
  · rcases List.mem_append.1 hy with hy | hy
    · exact hs y hy
    · simp at hy; subst hy; exact ⟨hk, hx⟩
def pairsOf (f : Nat → Option Nat) (ks : List Nat) : List (Nat × Nat) := ks.filterMap (fun k => (f k).map (fun v => (k, v)))
theorem pairsOf_add (f : Nat → Option Nat) (ks : List Nat) (i k : Nat) (h : ks[i]? = some k) : pairsOf f (ks.take (i + 1)) = pairsOf f (ks.take i) ++ pairsOf f [k] := by
  rw [List.take_add_one, h]
  simp [pairsOf]
theorem pairsOf_len (f : Nat → Option Nat) (ks : List Nat) : (pairsOf f ks).length ≤ ks.length := List.length_filterMap_le _ _
set_option maxRecDepth 100000 in
set_option maxHeartbeats 4000000 in
theorem c_of {W : World} {b n : Nat} {f : Nat → Option Nat} (h : MapAt W b n f) {p : Option Addr} {ks : List Nat} (hk : KeysAt W p ks) (hkl : ks.length ≤ 8796093022000) (c : Nat) :
    Calls Try.prog 92 #[.map (some b), .slice p ks.length c] W fun e W' => (∃ v, e = .returned v ∧ PRow W' W.heap.size v (pairsOf f ks)) ∧ Chg (fun _ => False) W W' := by
  obtain ⟨i0, hi, hz0, hz1, hz2⟩ := info_parts infoPair
  have HM := keepH h
  have HK := keepH hk
  clear h hk
  go_enter Try.func92, Try.ntmps92
  go_wp2_with fail
  go_loopw [5, 12] (fun s q wr => ∃ i : Nat, i ≤ ks.length ∧ q = .int .i64 (i : Int) ∧ Hid (PRow wr W.heap.size s (pairsOf f (ks.take i)) ∧ Chg (fun _ => False) W wr)) (fun _ q _ => ks.length - natOf q)
  case atStart => exact ⟨0, Nat.zero_le _, rfl, PRow.nil _ _, Chg.refl _ _⟩
  case round =>
    obtain ⟨i, hil, rfl, HX⟩ := hrel
    by_cases hlt : i < ks.length
    · have q1 : (i : Int) < (ks.length : Int) := by omega
      obtain ⟨k, hk⟩ : ∃ k, ks[i]? = some k := ⟨ks[i], List.getElem?_eq_getElem hlt⟩
      obtain ⟨bk, off, rfl, hbk, hcs⟩ := HK.out.resolve_left (by intro e; subst e; simp at hk)
      obtain ⟨hk64, hcell⟩ := hcs i k hk
      have c0 := cell_chg HX.out.2 hcell (fun x => x)
      have hlk := MapAt.look (MapR.chg HM.out HX.out.2 (fun x => x)) hk64
      have HT := keepH (pairsOf_add f ks i k hk)
      have hpl := pairsOf_len f (ks.take i)
      rw [List.length_take] at hpl
      have HB : Hid ((pairsOf f (ks.take i)).length < 8796093022000 ∧ k < 18446744073709551616) := ⟨by omega, hk64⟩
      clear hk hcs hcell hpl
      cases hf : f k with
      | none =>
        rw [hf] at hlk
        have HF := keepH hf
        clear hf
        go_wp2_with fail
        go_roundw
        case rel => exact ⟨i + 1, by omega, by first | rfl | go_num, by rw [HT.out]; simpa [pairsOf, HF.out] using HX.out.1, HX.out.2⟩
        case measure => simp [natOf, intOf]; omega
      | some v =>
        obtain ⟨D, _, r⟩ := HM.out
        have hv64 := (r.lt k v hf).2
        rw [hf] at hlk
        have HF : Hid (f k = some v ∧ v < 18446744073709551616) := ⟨hf, hv64⟩
        clear hf r hv64
        go_wp2_with (first | (at_builtin; go_loud (refine wpList_append_own_at _ rfl _ _ 36 rfl W.heap.size 55 i0 (.agg #[.int .u64 0, .int .u64 0]) 2 16 Try.underlying36 hi hz0 hz1 hz2 rfl (by decide) _ _ _ rfl (HX.out.1.1.kept (World.grownBy_alloc _ _ none) (by cases Value.ownBlock _ <;> simp)) ⟨_, 0, none⟩ 1 1 [.int .u64 (k : Int), .int .u64 (v : Int)] rfl rfl (cells_new _ _ rfl _ _) (by intro u hu; simp at hu; rcases hu with rfl | rfl <;> rfl) (by unfold maxLen; have := HB.out.1; omega) (by have := HB.out.1; omega) (Nat.le_trans HX.out.2.size (by simp)) ?_); intro v' w3 r1 r2 r3 r4; have R1 := keepH r1; have R2 := keepH r2; have R4 := keepH r4; clear r1 r2 r3 r4))
        go_roundw
        case rel =>
          refine ⟨i + 1, by omega, by first | rfl | go_num, ?_, ?_⟩
          · rw [HT.out]
            have e : pairsOf f [k] = [(k, v)] := by simp [pairsOf, HF.out.1]
            rw [e]
            exact PRow.add HX.out.1.2 HB.out.2 HF.out.2 R1.out
          · exact (HX.out.2.alloc _).trans (grown_chg (F := fun j => W.heap.size ≤ j) R2.out (fun j e => (HX.out.1.lt j e).1)) (fun _ _ x => x) (fun j hj e => by omega)
        case measure => simp [natOf, intOf]; omega
    · have q1 : ¬ (i : Int) < (ks.length : Int) := by omega
      obtain rfl : i = ks.length := by omega
      go_wp2_with fail
      go_ret
      rw [List.take_length] at HX
      exact ⟨⟨_, rfl, HX.out.1⟩, HX.out.2⟩
end Go.Proofs.Ytahgaghokpicgaa
/- A model in memory: its map, its pictures. -/
namespace Go.Proofs.Ytahgaghokpicgaa
open Go.RowKit Go.Maps
set_option linter.unusedVariables false

structure MoAt (W : World) (m nw hd mu : Nat) (f h : Nat → Option Nat) (g : Nat → Nat → Option Nat) (n : Nat) : Prop where
  md : W.heap[m]? = some (.cells #[.int .i64 (mu : Int), .map (some nw), .map (some hd)] 101 (0, 0))
  now : MapAt W nw n f
  held : HeldAt W hd n h
  pic : ∀ k b, h k = some b → MapAt W b n (g b)
  mn : m ≠ nw
  mh : m ≠ hd
  nh : nw ≠ hd
  ap : ∀ k b, h k = some b → b ≠ nw ∧ b ≠ hd ∧ b ≠ m
theorem MoAt.chg {F : Nat → Prop} {W W' : World} {m nw hd mu : Nat} {f h : Nat → Option Nat} {g : Nat → Nat → Option Nat} {n : Nat} (H : MoAt W m nw hd mu f h g n) (c : Chg F W W') (h1 : ¬ F m) (h2 : ¬ F nw) (h3 : ¬ F hd) (h4 : ∀ k b, h k = some b → ¬ F b) : MoAt W' m nw hd mu f h g n :=
  ⟨(c.block m (lt_of H.md) h1).trans H.md, MapR.chg H.now c h2, MapR.chg H.held c h3, fun k b hb => MapR.chg (H.pic k b hb) c (h4 k b hb), H.mn, H.mh, H.nh, H.ap⟩
theorem MoAt.quiet {W W' : World} {m nw hd mu : Nat} {f h : Nat → Option Nat} {g : Nat → Nat → Option Nat} {n : Nat} (H : MoAt W m nw hd mu f h g n) (c : Chg (fun _ => False) W W') : MoAt W' m nw hd mu f h g n :=
  H.chg c (fun x => x) (fun x => x) (fun x => x) (fun _ _ _ x => x)
theorem MoAt.blk {W : World} {m nw hd mu : Nat} {f h : Nat → Option Nat} {g : Nat → Nat → Option Nat} {n : Nat} (H : MoAt W m nw hd mu f h g n) : m < W.heap.size ∧ nw < W.heap.size ∧ hd < W.heap.size ∧ ∀ k b, h k = some b → b < W.heap.size :=
  ⟨lt_of H.md, MapR.lt H.now, MapR.lt H.held, fun k b hb => MapR.lt (H.pic k b hb)⟩
theorem MoAt.mono {W : World} {m nw hd mu : Nat} {f h : Nat → Option Nat} {g : Nat → Nat → Option Nat} {n n' : Nat} (H : MoAt W m nw hd mu f h g n) (hn : n ≤ n') : MoAt W m nw hd mu f h g n' :=
  ⟨H.md, MapR.mono H.now hn, MapR.mono H.held hn, fun k b hb => MapR.mono (H.pic k b hb) hn, H.mn, H.mh, H.nh, H.ap⟩
set_option maxRecDepth 100000 in
theorem holds_g {W : World} {m nw hd mu : Nat} {f h : Nat → Option Nat} {g : Nat → Nat → Option Nat} {n : Nat} (H : MoAt W m nw hd mu f h g n) {k : Nat} (hk : k < 18446744073709551616) :
    Calls Try.prog 45 #[.pointer (some ⟨m, 0, none⟩), .int .u64 (k : Int)] W fun e W' => e = .returned (.bool (h k).isSome) ∧ W' = W := by
  have c2 : W.cell? ⟨m, 2, none⟩ = some (.map (some hd)) := cell_of H.md 2
  have hlk := HeldAt.look H.held hk
  clear H
  go_enter Try.func45, Try.ntmps45
  go_wp2_with fail
  go_ret
  exact ⟨by simp, rfl⟩
end Go.Proofs.Ytahgaghokpicgaa
