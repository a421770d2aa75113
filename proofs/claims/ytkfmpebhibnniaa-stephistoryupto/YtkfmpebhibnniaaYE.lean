/- The document's runner: its numbers are set, its events grow. -/
import Derived.Test.YtkfmpebhibnniaaYw
namespace Go.Proofs.Ytkfmpebhibnniaa
open Go.RowKit Go.Shelf
set_option linter.unusedVariables false

section
variable {X Y : World} {B : Nat} {tg : Nat → Nat} {r nm T st gc ga gg : Nat} {p : Option Addr} {c8 : Nat} {ev wv : Value} {es : List Ev} {ws : List Int} {gv : Nat → Value} {gl : Nat → List Nat} {R : Nat → Prop} {m : Mu} {t : List Acc} {call at_ : Nat → Nat}
theorem D4At.put (h : D4At X B tg r nm T st gc ga gg p c8 ev wv es ws gv gl R m t call at_) (hs : X.heap.size ≤ Y.heap.size) {st' : Nat} {call' at' : Nat → Nat} (hb : Y.heap[r]? = some (.cells #[.pointer (some ⟨nm, 0, none⟩), .slice p T c8, .slice (some ⟨gc, 0, none⟩) T T, .slice (some ⟨ga, 0, none⟩) T T, .int .i64 (st' : Int), ev, wv, .slice (some ⟨gg, 0, none⟩) T T] 120 (0, 0))) (hc : Y.heap[gc]? = some (.cells (intR call' T) 3 (0, 0))) (ha : Y.heap[ga]? = some (.cells (intR at' T) 3 (0, 0))) (hk : ∀ k, tg k ≠ 0 → tg k ≠ 1 → tg k ≠ 2 → tg k ≠ 3 → Y.heap[k]? = X.heap[k]?) (hst : st ≤ st') : D4At Y B tg r nm T st' gc ga gg p c8 ev wv es ws gv gl R m t call' at' := by
  obtain ⟨l, ⟨nc, av, os, hl1⟩, hl2⟩ := h.rm
  obtain ⟨b1, b2, b3, b4, b5, b6⟩ := h.bd
  have k4 : ∀ k x, tg k = x → 4 ≤ x → Y.heap[k]? = X.heap[k]? := fun k x e hx => hk k (by omega) (by omega) (by omega) (by omega)
  exact ⟨hb, hc, ha, (k4 gg 4 h.tG (by omega)).trans h.gb, row_kept h.er (fun k e => k4 k 5 (h.te k e) (by omega)), row_kept h.wr (fun k e => k4 k 6 (h.tw k e) (by omega)), fun i hi => row_kept (h.gr i hi) (fun k e => k4 k _ (h.tg_ i k hi e) (by omega)), ⟨l, ⟨nc, av, os, hl1.kept hs (fun k e => k4 k 7 (h.tR k e) (by omega))⟩, hl2⟩, h.tr, h.tc, h.ta, h.tG, h.te, h.tw, h.tR, h.tg_, fun k e => ⟨(h.lo k e).1, by have := (h.lo k e).2; omega⟩, ⟨by omega, b2, fun i hi => by have := b3 i hi; omega, by omega, b5, b6⟩⟩
theorem intR_set (f : Nat → Nat) (T i v : Nat) : (intR f T).setIfInBounds i (.int .i64 (v : Int)) = intR (fun j => if j = i then v else f j) T := by
  apply Array.ext'
  apply List.ext_getElem?
  intro j
  simp only [intR, Array.toList_setIfInBounds, List.getElem?_set, List.getElem?_map]
  by_cases hj : j < T
  · rw [List.getElem?_range hj]
    by_cases e : i = j
    · subst e; simp [hj]
    · have e' : ¬ j = i := fun z => e z.symm
      rw [if_neg e]
      simp [e']
  · have hr : (List.range T)[j]? = none := List.getElem?_eq_none (by simp; omega)
    rw [hr]
    by_cases e : i = j
    · subst e; simp [hj]
    · rw [if_neg e]; rfl
/-- One pick more. -/
theorem D4At.setSt (h : D4At X B tg r nm T st gc ga gg p c8 ev wv es ws gv gl R m t call at_) (st' : Nat) (hst : st ≤ st') : D4At (X.setCell ⟨r, 4, none⟩ (.int .i64 (st' : Int))) B tg r nm T st' gc ga gg p c8 ev wv es ws gv gl R m t call at_ :=
  h.put (by simp [World.setCell]) (by rw [set_of h.blk 4]; rfl) ((Below.heap_setCell _ _ _ gc (fun e => by have e2 : gc = r := e; have := h.tc; rw [e2, h.tr] at this; omega)).trans h.cb) ((Below.heap_setCell _ _ _ ga (fun e => by have e2 : ga = r := e; have := h.ta; rw [e2, h.tr] at this; omega)).trans h.ab) (fun k _ e1 _ _ => Below.heap_setCell _ _ _ k (fun e => e1 (by rw [show k = r from e]; exact h.tr))) hst
/-- How many steps a thread's call took. -/
theorem D4At.setAt (h : D4At X B tg r nm T st gc ga gg p c8 ev wv es ws gv gl R m t call at_) (i v : Nat) : D4At (X.setCell ⟨ga, i, none⟩ (.int .i64 (v : Int))) B tg r nm T st gc ga gg p c8 ev wv es ws gv gl R m t call (fun j => if j = i then v else at_ j) :=
  h.put (by simp [World.setCell]) ((Below.heap_setCell _ _ _ r (fun e => by have e2 : r = ga := e; have := h.ta; rw [← e2, h.tr] at this; omega)).trans h.blk) ((Below.heap_setCell _ _ _ gc (fun e => by have e2 : gc = ga := e; have := h.tc; rw [e2, h.ta] at this; omega)).trans h.cb) (by rw [set_of h.ab i, intR_set]) (fun k _ _ _ e3 => Below.heap_setCell _ _ _ k (fun e => e3 (by rw [show k = ga from e]; exact h.ta))) (Nat.le_refl _)
/-- Which call is a thread's next. -/
theorem D4At.setCall (h : D4At X B tg r nm T st gc ga gg p c8 ev wv es ws gv gl R m t call at_) (i v : Nat) : D4At (X.setCell ⟨gc, i, none⟩ (.int .i64 (v : Int))) B tg r nm T st gc ga gg p c8 ev wv es ws gv gl R m t (fun j => if j = i then v else call j) at_ :=
  h.put (by simp [World.setCell]) ((Below.heap_setCell _ _ _ r (fun e => by have e2 : r = gc := e; have := h.tc; rw [← e2, h.tr] at this; omega)).trans h.blk) (by rw [set_of h.cb i, intR_set]) ((Below.heap_setCell _ _ _ ga (fun e => by have e2 : ga = gc := e; have := h.ta; rw [e2, h.tc] at this; omega)).trans h.ab) (fun k _ _ e2 _ => Below.heap_setCell _ _ _ k (fun e => e2 (by rw [show k = gc from e]; exact h.tc))) (Nat.le_refl _)
/-- One event more. -/
theorem D4At.event (h : D4At X B tg r nm T st gc ga gg p c8 ev wv es ws gv gl R m t call at_) {ev' : Value} {x : Ev} {o : Obj} (r1 : Y.ownsRow 0 112 4 ev' (es.length + 1) (evRow es ++ x.cells)) (r2 : (X.alloc o).grownBy Y ev.ownBlock) (r4 : ev'.ownBlock = ev.ownBlock ∨ ev'.ownBlock = some (X.alloc o).heap.size) (hB : B ≤ X.heap.size) (hl : es.length + 1 ≤ 2 * st) :
    D4At (Y.setCell ⟨r, 5, none⟩ ev') B (fun k => if k < X.heap.size then tg k else if ev'.ownBlock = some k then 5 else 0) r nm T st gc ga gg p c8 ev' wv (es ++ [x]) ws gv gl R m t call at_ := by
  have c : Chg (fun k => ev.ownBlock = some k) X Y := ((Chg.refl (fun k => ev.ownBlock = some k) X).alloc o).grown r2 (fun k e _ => e)
  have sz := c.size
  have lt : ∀ k, tg k ≠ 0 → k < X.heap.size := fun k e => (h.lo k e).2
  have ky : ∀ k, tg k ≠ 0 → tg k ≠ 5 → Y.heap[k]? = X.heap[k]? := fun k e e5 => c.block k (lt k e) (fun q => e5 (h.te k q))
  have kz : ∀ k, tg k ≠ 0 → tg k ≠ 5 → tg k ≠ 1 → (Y.setCell ⟨r, 5, none⟩ ev').heap[k]? = X.heap[k]? := fun k e e5 e1 => (Below.heap_setCell _ _ _ k (fun q => e1 (by rw [show k = r from q]; exact h.tr))).trans (ky k e e5)
  have wlt : ∀ k, ev'.ownBlock = some k → k < Y.heap.size := fun k e => row_lt r1 k e
  have wr_ : ∀ k, ev'.ownBlock = some k → k < X.heap.size → tg k = 5 := fun k e hk => by
    rcases r4 with q | q
    · exact h.te k (q ▸ e)
    · rw [q] at e; simp at e; omega
  have old : ∀ k, tg k ≠ 0 → (fun k => if k < X.heap.size then tg k else if ev'.ownBlock = some k then 5 else 0) k = tg k := fun k e => by simp only [if_pos (lt k e)]
  obtain ⟨l, ⟨nc, av, os, hl1⟩, hl2⟩ := h.rm
  have b := h.bd
  have hszz : (Y.setCell ⟨r, 5, none⟩ ev').heap.size = Y.heap.size := by simp [World.setCell]
  refine ⟨?_, (kz gc (by rw [h.tc]; decide) (by rw [h.tc]; decide) (by rw [h.tc]; decide)).trans h.cb, (kz ga (by rw [h.ta]; decide) (by rw [h.ta]; decide) (by rw [h.ta]; decide)).trans h.ab, (kz gg (by rw [h.tG]; decide) (by rw [h.tG]; decide) (by rw [h.tG]; decide)).trans h.gb, ?_, row_kept h.wr (fun k e => kz k (by rw [h.tw k e]; decide) (by rw [h.tw k e]; decide) (by rw [h.tw k e]; decide)), fun i hi => row_kept (h.gr i hi) (fun k e => kz k (by rw [h.tg_ i k hi e]; omega) (by rw [h.tg_ i k hi e]; omega) (by rw [h.tg_ i k hi e]; omega)), ⟨l, ⟨nc, av, os, hl1.kept (by rw [hszz]; exact sz) (fun k e => kz k (by rw [h.tR k e]; decide) (by rw [h.tR k e]; decide) (by rw [h.tR k e]; decide))⟩, hl2⟩, ?_, ?_, ?_, ?_, fun k e => ?_, fun k e => ?_, fun k e => ?_, fun i k hi e => ?_, fun k e => ?_, ⟨by simp; omega, b.2⟩⟩
  · have hb : Y.heap[r]? = _ := (ky r (by rw [h.tr]; decide) (by rw [h.tr]; decide)).trans h.blk
    rw [set_of hb 5 ev']
    rfl
  · have e1 : Y.ownsRow 0 112 4 ev' (es ++ [x]).length (evRow (es ++ [x])) := by
      have e0 : evRow (es ++ [x]) = evRow es ++ x.cells := by simp [evRow]
      rw [e0, List.length_append]
      exact r1
    refine row_kept e1 (fun k e => Below.heap_setCell _ _ _ k (fun q => ?_))
    have q2 : k = r := q
    have : k < X.heap.size := by rw [q2]; exact lt r (by rw [h.tr]; decide)
    have := wr_ k e this
    rw [q2, h.tr] at this
    omega
  · exact (old r (by rw [h.tr]; decide)).trans (h.tr)
  · exact (old gc (by rw [h.tc]; decide)).trans (h.tc)
  · exact (old ga (by rw [h.ta]; decide)).trans (h.ta)
  · exact (old gg (by rw [h.tG]; decide)).trans (h.tG)
  · by_cases hk : k < X.heap.size
    · simp only [if_pos hk]; exact wr_ k e hk
    · simp only [if_neg hk, if_pos e]
  · exact (old k (by rw [h.tw k e]; decide)).trans (h.tw k e)
  · exact (old k (by rw [h.tR k e]; decide)).trans (h.tR k e)
  · exact (old k (by rw [h.tg_ i k hi e]; omega)).trans (h.tg_ i k hi e)
  · rw [hszz]
    by_cases hk : k < X.heap.size
    · simp only [if_pos hk] at e
      exact ⟨(h.lo k e).1, by omega⟩
    · simp only [if_neg hk] at e
      split at e
      · rename_i q; exact ⟨by omega, wlt k q⟩
      · exact absurd rfl e
end
end Go.Proofs.Ytkfmpebhibnniaa
