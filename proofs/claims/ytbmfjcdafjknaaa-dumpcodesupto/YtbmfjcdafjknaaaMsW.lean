/- What must be whatever is asked (layer 6). -/
import Derived.Test.YtbmfjcdafjknaaaMsV
namespace Go.Proofs.Ytbmfjcdafjknaaa
open Go.RowKit
set_option linter.unusedVariables false

structure LM (W w : World) (m n h : Nat) (es : Array MapEntry) (c : Nat) (ho : Obj) : Prop where
  md : IsModel w m n h
  nn : w.heap[n]? = some (.map es c)
  hh : w.heap[h]? = some ho
  mn : m ≠ n
  mh : m ≠ h
  nh : n ≠ h
  ch : Chg (fun _ => False) W w
theorem blk_lt {w : World} {k : Nat} {o : Obj} (h : w.heap[k]? = some o) : k < w.heap.size := (Array.getElem?_eq_some_iff.1 h).1
theorem LM.chg {W w w' : World} {m n h : Nat} {es : Array MapEntry} {c : Nat} {ho : Obj} (H : LM W w m n h es c ho) (k : Chg (fun _ => False) w w') : LM W w' m n h es c ho :=
  ⟨H.md.chg k (fun x => x), (k.block n (blk_lt H.nn) (fun x => x)).trans H.nn, (k.block h (blk_lt H.hh) (fun x => x)).trans H.hh, H.mn, H.mh, H.nh, H.ch.trans k (fun _ _ x => x) (fun _ _ x => x)⟩
theorem new_lm (W : World) : Calls Try.prog 32 #[.int .i64 4] W fun e W' => ∃ m n h, e = .returned (.tuple #[.pointer (some ⟨m, 0, none⟩), .int .i64 0]) ∧ LM W W' m n h #[] 0 (.map #[] 0) ∧ W.heap.size ≤ n ∧ W.heap.size ≤ h := by
  refine (new_4 W).mono ?_
  rintro e W' ⟨rfl, rfl⟩
  refine ⟨W.heap.size + 2, W.heap.size, W.heap.size + 1, rfl, ⟨?_, alloc_of (alloc_of (heap_alloc_new _ _) _) _, ?_, by omega, by omega, by omega, (((Chg.refl _ _).alloc _).alloc _).alloc _⟩, by omega, by omega⟩
  · have e := heap_alloc_new ((W.alloc (.map #[] 0)).alloc (.map #[] 0)) (.cells #[.int .i64 4, .map (some W.heap.size), .map (some (W.heap.size + 1))] 108)
    rw [World.size_alloc, World.size_alloc] at e
    exact e
  · have e := heap_alloc_new (W.alloc (.map #[] 0)) (.map #[] 0)
    rw [World.size_alloc] at e
    exact alloc_of e _
theorem put_live (v x : Nat) (th : Bool) {W w : World} {m n h : Nat} {es es' : Array MapEntry} {c c' : Nat} {ho : Obj} (H : LM W w m n h es c ho) (hn : W.heap.size ≤ n)
    (hlk : ∀ w : World, w.heap[n]? = some (.map es c) → (Instr.lookup 105 (.map (some n)) (.int .u64 7) true).run Try.prog w = .ok (.tuple #[.int .u64 (x : Int), .bool th]) w)
    (hup : ∀ w : World, w.heap[n]? = some (.map es c) → (Instr.mapUpdate 105 (.map (some n)) (.int .u64 7) (.int .u64 (v : Int))).run Try.prog w = .ok () (ChangeMaps.setBlock w n (.map es' c'))) :
    Calls Try.prog 33 #[.pointer (some ⟨m, 0, none⟩), .agg #[.int .u8 2, .int .u64 (7 : Int), .int .u64 (v : Int), .int .u64 0, .int .u64 0, .bool false, .int .i64 0, .int .i64 0, .slice none 0 0, .int .u64 0, .int .u64 0], .int .u64 0] w fun e w' => e = .returned (.agg #[.int .i64 0, .bool th, .int .u64 (x : Int), .bool false, .int .u64 0, .slice none 0 0, .int .u64 0]) ∧ LM W w' m n h es' c' ho ∧ ∀ k, k < w.heap.size → k ≠ n → w'.heap[k]? = w.heap[k]? := by
  refine (Do_2 v x th (T := fun a b => b.heap[n]? = some (.map es' c')) (fun a ca => tells_2 v (H.md.chg ca (fun x => x)) x th (fun w cw => hlk w ((cw.block n (blk_lt (H.chg ca).nn) (fun x => x)).trans (H.chg ca).nn))) n (blk_lt H.nn) (fun a ca => do_put v x th (H.chg ca).md H.mn (H.chg ca).nn hup)).mono ?_
  rintro e w' ⟨rfl, a, b, ca, hs, hT, cb, cw⟩
  have ln := blk_lt H.nn
  have lh := blk_lt H.hh
  have lm := lt_of H.md
  have za := ca.size
  have zb := cb.size
  have kk : ∀ k, k < w.heap.size → k ≠ n → w'.heap[k]? = w.heap[k]? := fun k hk hne => (cw.block k (by omega) (by omega)).trans ((cb.block k (by omega) hne).trans (ca.block k hk (fun x => x)))
  refine ⟨rfl, ⟨(kk m lm H.mn).trans H.md, (cw.block n (by omega) (by omega)).trans hT, (kk h lh (Ne.symm H.nh)).trans H.hh, H.mn, H.mh, H.nh, ?_⟩, kk⟩
  have c1 : Chg (fun k => k = n ∨ k = w.heap.size + 1) w w' := (ca.trans cb (H := fun k => k = n ∨ k = w.heap.size + 1) (fun _ _ x => x.elim) (fun _ _ x => .inl x)).trans cw (fun _ _ x => x) (fun _ _ x => .inr x)
  exact H.ch.trans c1 (fun _ _ x => x) (fun i hi e => by have := H.ch.size; omega)
theorem snap_live {W w : World} {m n h : Nat} (H : LM W w m n h #[⟨.int .u64 7, .int .u64 1, 0⟩] 1 (.map #[] 0)) (hh : W.heap.size ≤ h) :
    Calls Try.prog 33 #[.pointer (some ⟨m, 0, none⟩), .agg #[.int .u8 5, .int .u64 (0 : Int), .int .u64 (0 : Int), .int .u64 0, .int .u64 0, .bool false, .int .i64 0, .int .i64 0, .slice none 0 0, .int .u64 0, .int .u64 0], .int .u64 5] w fun e w' => e = .returned (.agg #[.int .i64 0, .bool false, .int .u64 0, .bool false, .int .u64 5, .slice none 0 0, .int .u64 0]) ∧ ∃ cl, w.heap.size ≤ cl ∧ LM W w' m n h #[⟨.int .u64 7, .int .u64 1, 0⟩] 1 (.map #[⟨.int .u64 5, .map (some cl), 0⟩] 1) ∧ w'.heap[cl]? = some (.map #[⟨.int .u64 7, .int .u64 1, 0⟩] 1) ∧ ∀ k, k < w.heap.size → k ≠ h → w'.heap[k]? = w.heap[k]? := by
  refine (Do_5 (T := fun a b => ∃ cl, a.heap.size ≤ cl ∧ b.heap[h]? = some (.map #[⟨.int .u64 5, .map (some cl), 0⟩] 1) ∧ b.heap[cl]? = some (.map #[⟨.int .u64 7, .int .u64 1, 0⟩] 1)) (fun a ca => tells_5 0 (H.md.chg ca (fun x => x)) (fun w cw => held_0 ((cw.block h (blk_lt (H.chg ca).hh) (fun x => x)).trans (H.chg ca).hh))) h (blk_lt H.hh) (fun a ca => (do_snap (H.chg ca).md H.mh H.nh (H.chg ca).nn (H.chg ca).hh).mono ?_)).mono ?_
  · rintro e w' ⟨rfl, cl, h1, h2, h3, h4⟩
    exact ⟨rfl, ⟨cl, h1, h2, h3⟩, h4⟩
  rintro e w' ⟨rfl, a, b, ca, hs, ⟨cl, hcl, hT1, hT2⟩, cb, cw⟩
  have ln := blk_lt H.nn
  have lh := blk_lt H.hh
  have lm := lt_of H.md
  have lc := blk_lt hT2
  have za := ca.size
  have zb := cb.size
  have kk : ∀ k, k < w.heap.size → k ≠ h → w'.heap[k]? = w.heap[k]? := fun k hk hne => (cw.block k (by omega) (by omega)).trans ((cb.block k (by omega) hne).trans (ca.block k hk (fun x => x)))
  refine ⟨rfl, cl, by omega, ⟨(kk m lm H.mh).trans H.md, (kk n ln H.nh).trans H.nn, (cw.block h (by omega) (by omega)).trans hT1, H.mn, H.mh, H.nh, ?_⟩, (cw.block cl lc (by omega)).trans hT2, kk⟩
  have c1 : Chg (fun k => k = h ∨ k = w.heap.size + 1) w w' := (ca.trans cb (H := fun k => k = h ∨ k = w.heap.size + 1) (fun _ _ x => x.elim) (fun _ _ x => .inl x)).trans cw (fun _ _ x => x) (fun _ _ x => .inr x)
  exact H.ch.trans c1 (fun _ _ x => x) (fun i hi e => by have := H.ch.size; omega)
end Go.Proofs.Ytbmfjcdafjknaaa
