/- The document's runner: an access is made; a thread is told. -/
import Derived.Test.YtkfmpebhibnniaaYE
namespace Go.Proofs.Ytkfmpebhibnniaa
open Go.RowKit Go.Shelf
set_option linter.unusedVariables false

section
variable {X Y : World} {B : Nat} {tg : Nat → Nat} {r nm T st gc ga gg : Nat} {p : Option Addr} {c8 : Nat} {ev wv : Value} {es : List Ev} {ws : List Int} {gv : Nat → Value} {gl : Nat → List Nat} {R : Nat → Prop} {m : Mu} {t : List Acc} {call at_ : Nat → Nat}
theorem valR_set (f : Nat → Value) (T i : Nat) (v : Value) : (valR f T).setIfInBounds i v = valR (fun j => if j = i then v else f j) T := by
  apply Array.ext'
  apply List.ext_getElem?
  intro j
  simp only [valR, Array.toList_setIfInBounds, List.getElem?_set, List.getElem?_map]
  by_cases hj : j < T
  · rw [List.getElem?_range hj]
    by_cases e : i = j
    · subst e; simp [hj]
    · have e' : ¬ j = i := fun z => e z.symm
      rw [if_neg e]
      simp [e']
  · have hr : (List.range T)[j]? = none := List.getElem?_eq_none (by simp; omega)
    rw [hr]
    by_cases e : i = j
    · subst e; simp [hj]
    · rw [if_neg e]; rfl
open Classical in
/-- An access of the document's memory. -/
theorem D4At.made (h : D4At X B tg r nm T st gc ga gg p c8 ev wv es ws gv gl R m t call at_) {R' : Nat → Prop} {m' : Mu} {t' : List Acc} (hR : RM Y R' nm 200 m'.next m'.cs t') (g : Goes X Y R R') (hB : B ≤ X.heap.size) (ht : t.length ≤ t'.length ∧ t'.length ≤ st + 1) (hm : m'.next ≤ 200) :
    D4At Y B (fun k => if k < X.heap.size then tg k else if R' k then 7 else 0) r nm T st gc ga gg p c8 ev wv es ws gv gl R' m' t' call at_ := by
  have sz := g.chg.size
  have lt : ∀ k, tg k ≠ 0 → k < X.heap.size := fun k e => (h.lo k e).2
  have ky : ∀ k, tg k ≠ 0 → tg k ≠ 7 → Y.heap[k]? = X.heap[k]? := fun k e e7 => g.chg.block k (lt k e) (fun q => e7 (h.tR k q))
  have old : ∀ k, tg k ≠ 0 → (fun k => if k < X.heap.size then tg k else if R' k then 7 else 0) k = tg k := fun k e => by simp only [if_pos (lt k e)]
  obtain ⟨b1, b2, b3, b4, b5, b6⟩ := h.bd
  refine ⟨(ky r (by rw [h.tr]; decide) (by rw [h.tr]; decide)).trans h.blk, (ky gc (by rw [h.tc]; decide) (by rw [h.tc]; decide)).trans h.cb, (ky ga (by rw [h.ta]; decide) (by rw [h.ta]; decide)).trans h.ab, (ky gg (by rw [h.tG]; decide) (by rw [h.tG]; decide)).trans h.gb, row_kept h.er (fun k e => ky k (by rw [h.te k e]; decide) (by rw [h.te k e]; decide)), row_kept h.wr (fun k e => ky k (by rw [h.tw k e]; decide) (by rw [h.tw k e]; decide)), fun i hi => row_kept (h.gr i hi) (fun k e => ky k (by rw [h.tg_ i k hi e]; omega) (by rw [h.tg_ i k hi e]; omega)), hR, ?_, ?_, ?_, ?_, fun k e => ?_, fun k e => ?_, fun k e => ?_, fun i k hi e => ?_, fun k e => ?_, ⟨b1, by omega, b3, ht.2, hm, b6⟩⟩
  · exact (old r (by rw [h.tr]; decide)).trans h.tr
  · exact (old gc (by rw [h.tc]; decide)).trans h.tc
  · exact (old ga (by rw [h.ta]; decide)).trans h.ta
  · exact (old gg (by rw [h.tG]; decide)).trans h.tG
  · exact (old k (by rw [h.te k e]; decide)).trans (h.te k e)
  · exact (old k (by rw [h.tw k e]; decide)).trans (h.tw k e)
  · by_cases hk : k < X.heap.size
    · simp only [if_pos hk]
      rcases g.new k e with q | q
      · exact h.tR k q
      · omega
    · simp only [if_neg hk, if_pos e]
  · exact (old k (by rw [h.tg_ i k hi e]; omega)).trans (h.tg_ i k hi e)
  · by_cases hk : k < X.heap.size
    · simp only [if_pos hk] at e
      exact ⟨(h.lo k e).1, by omega⟩
    · simp only [if_neg hk] at e
      split at e
      · rename_i q; exact ⟨by omega, hR.lt k q⟩
      · exact absurd rfl e
/-- A thread is told a number. -/
theorem D4At.told (h : D4At X B tg r nm T st gc ga gg p c8 ev wv es ws gv gl R m t call at_) (i : Nat) (hi : i < T) {v' : Value} {x : Nat} {o : Obj} (r1 : Y.ownsRow 0 51 1 v' ((gl i).length + 1) ((gl i).map u64V ++ [.int .u64 (x : Int)])) (r2 : (X.alloc o).grownBy Y (gv i).ownBlock) (r4 : v'.ownBlock = (gv i).ownBlock ∨ v'.ownBlock = some (X.alloc o).heap.size) (hB : B ≤ X.heap.size) (hl : (gl i).length + 1 ≤ st) :
    D4At (Y.setCell ⟨gg, i, none⟩ v') B (fun k => if k < X.heap.size then tg k else if v'.ownBlock = some k then 8 + i else 0) r nm T st gc ga gg p c8 ev wv es ws (fun j => if j = i then v' else gv j) (fun j => if j = i then gl i ++ [x] else gl j) R m t call at_ := by
  have c : Chg (fun k => (gv i).ownBlock = some k) X Y := ((Chg.refl (fun k => (gv i).ownBlock = some k) X).alloc o).grown r2 (fun k e _ => e)
  have sz := c.size
  have lt : ∀ k, tg k ≠ 0 → k < X.heap.size := fun k e => (h.lo k e).2
  have ky : ∀ k, tg k ≠ 0 → tg k ≠ 8 + i → Y.heap[k]? = X.heap[k]? := fun k e e8 => c.block k (lt k e) (fun q => e8 (h.tg_ i k hi q))
  have kz : ∀ k, tg k ≠ 0 → tg k ≠ 8 + i → tg k ≠ 4 → (Y.setCell ⟨gg, i, none⟩ v').heap[k]? = X.heap[k]? := fun k e e8 e4 => (Below.heap_setCell _ _ _ k (fun q => e4 (by rw [show k = gg from q]; exact h.tG))).trans (ky k e e8)
  have wlt : ∀ k, v'.ownBlock = some k → k < Y.heap.size := fun k e => row_lt r1 k e
  have wr_ : ∀ k, v'.ownBlock = some k → k < X.heap.size → tg k = 8 + i := fun k e hk => by
    rcases r4 with q | q
    · exact h.tg_ i k hi (q ▸ e)
    · rw [q] at e; simp at e; omega
  have old : ∀ k, tg k ≠ 0 → (fun k => if k < X.heap.size then tg k else if v'.ownBlock = some k then 8 + i else 0) k = tg k := fun k e => by simp only [if_pos (lt k e)]
  obtain ⟨l, ⟨nc, av, os, hl1⟩, hl2⟩ := h.rm
  obtain ⟨b1, b2, b3, b4, b5, b6⟩ := h.bd
  have hszz : (Y.setCell ⟨gg, i, none⟩ v').heap.size = Y.heap.size := by simp [World.setCell]
  have kx : ∀ k x, tg k = x → x ≠ 0 → x ≠ 8 + i → x ≠ 4 → (Y.setCell ⟨gg, i, none⟩ v').heap[k]? = X.heap[k]? := fun k x e a1 a2 a3 => kz k (by omega) (by omega) (by omega)
  refine ⟨(kx r 1 h.tr (by omega) (by omega) (by omega)).trans h.blk, (kx gc 2 h.tc (by omega) (by omega) (by omega)).trans h.cb, (kx ga 3 h.ta (by omega) (by omega) (by omega)).trans h.ab, ?_, row_kept h.er (fun k e => kx k 5 (h.te k e) (by omega) (by omega) (by omega)), row_kept h.wr (fun k e => kx k 6 (h.tw k e) (by omega) (by omega) (by omega)), fun j hj => ?_, ⟨l, ⟨nc, av, os, hl1.kept (by rw [hszz]; exact sz) (fun k e => kx k 7 (h.tR k e) (by omega) (by omega) (by omega))⟩, hl2⟩, ?_, ?_, ?_, ?_, fun k e => ?_, fun k e => ?_, fun k e => ?_, fun j k hj e => ?_, fun k e => ?_, ⟨b1, b2, fun j hj => ?_, b4, b5, b6⟩⟩
  · have hb : Y.heap[gg]? = _ := (ky gg (by rw [h.tG]; decide) (by rw [h.tG]; omega)).trans h.gb
    rw [set_of hb i v', valR_set]
  · by_cases e : j = i
    · subst e
      simp only [if_true]
      have e1 : Y.ownsRow 0 51 1 v' (gl j ++ [x]).length ((gl j ++ [x]).map u64V) := by simpa [u64V] using r1
      refine row_kept e1 (fun k e => Below.heap_setCell _ _ _ k (fun q => ?_))
      have q2 : k = gg := q
      have : k < X.heap.size := by rw [q2]; exact lt gg (by rw [h.tG]; decide)
      have := wr_ k e this
      rw [q2, h.tG] at this
      omega
    · simp only [if_neg e]
      exact row_kept (h.gr j hj) (fun k q => kx k (8 + j) (h.tg_ j k hj q) (by omega) (by omega) (by omega))
  · exact (old r (by rw [h.tr]; decide)).trans h.tr
  · exact (old gc (by rw [h.tc]; decide)).trans h.tc
  · exact (old ga (by rw [h.ta]; decide)).trans h.ta
  · exact (old gg (by rw [h.tG]; decide)).trans h.tG
  · exact (old k (by rw [h.te k e]; decide)).trans (h.te k e)
  · exact (old k (by rw [h.tw k e]; decide)).trans (h.tw k e)
  · exact (old k (by rw [h.tR k e]; decide)).trans (h.tR k e)
  · by_cases ej : j = i
    · subst ej
      simp only [if_true] at e
      by_cases hk : k < X.heap.size
      · simp only [if_pos hk]; exact wr_ k e hk
      · simp only [if_neg hk, if_pos e]
    · simp only [if_neg ej] at e
      exact (old k (by rw [h.tg_ j k hj e]; omega)).trans (h.tg_ j k hj e)
  · rw [hszz]
    by_cases hk : k < X.heap.size
    · simp only [if_pos hk] at e
      exact ⟨(h.lo k e).1, by omega⟩
    · simp only [if_neg hk] at e
      split at e
      · rename_i q; exact ⟨by omega, wlt k q⟩
      · exact absurd rfl e
  · by_cases ej : j = i
    · subst ej; simp only [if_true]; simp; omega
    · simp only [if_neg ej]; exact b3 j hj
end
end Go.Proofs.Ytkfmpebhibnniaa
