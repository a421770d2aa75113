/- The document's runner: a new one. -/
import Derived.Test.YtkfmpebhibnniaaYv
namespace Go.Proofs.Ytkfmpebhibnniaa
open Go.RowKit Go.Shelf
set_option linter.unusedVariables false

section
variable {X Y : World} {B : Nat} {tg : Nat → Nat} {r nm T st gc ga gg : Nat} {p : Option Addr} {c8 : Nat} {ev wv : Value} {es : List Ev} {ws : List Int} {gv : Nat → Value} {gl : Nat → List Nat} {R : Nat → Prop} {m : Mu} {t : List Acc} {call at_ : Nat → Nat}
/-- One number more is written down. -/
theorem D4At.noted (h : D4At X B tg r nm T st gc ga gg p c8 ev wv es ws gv gl R m t call at_) {wv' : Value} {x : Int} {o : Obj} (r1 : Y.ownsRow 0 3 1 wv' (ws.length + 1) (ws.map i64V ++ [.int .i64 x])) (r2 : (X.alloc o).grownBy Y wv.ownBlock) (r4 : wv'.ownBlock = wv.ownBlock ∨ wv'.ownBlock = some (X.alloc o).heap.size) (hB : B ≤ X.heap.size) (hl : ws.length + 1 ≤ t.length) :
    D4At (Y.setCell ⟨r, 6, none⟩ wv') B (fun k => if k < X.heap.size then tg k else if wv'.ownBlock = some k then 6 else 0) r nm T st gc ga gg p c8 ev wv' es (ws ++ [x]) gv gl R m t call at_ := by
  have c : Chg (fun k => wv.ownBlock = some k) X Y := ((Chg.refl (fun k => wv.ownBlock = some k) X).alloc o).grown r2 (fun k e _ => e)
  have sz := c.size
  have lt : ∀ k, tg k ≠ 0 → k < X.heap.size := fun k e => (h.lo k e).2
  have ky : ∀ k, tg k ≠ 0 → tg k ≠ 6 → Y.heap[k]? = X.heap[k]? := fun k e e6 => c.block k (lt k e) (fun q => e6 (h.tw k q))
  have kz : ∀ k, tg k ≠ 0 → tg k ≠ 6 → tg k ≠ 1 → (Y.setCell ⟨r, 6, none⟩ wv').heap[k]? = X.heap[k]? := fun k e e6 e1 => (Below.heap_setCell _ _ _ k (fun q => e1 (by rw [show k = r from q]; exact h.tr))).trans (ky k e e6)
  have wlt : ∀ k, wv'.ownBlock = some k → k < Y.heap.size := fun k e => row_lt r1 k e
  have wr_ : ∀ k, wv'.ownBlock = some k → k < X.heap.size → tg k = 6 := fun k e hk => by
    rcases r4 with q | q
    · exact h.tw k (q ▸ e)
    · rw [q] at e; simp at e; omega
  have old : ∀ k, tg k ≠ 0 → (fun k => if k < X.heap.size then tg k else if wv'.ownBlock = some k then 6 else 0) k = tg k := fun k e => by simp only [if_pos (lt k e)]
  obtain ⟨l, ⟨nc, av, os, hl1⟩, hl2⟩ := h.rm
  have b := h.bd
  have hszz : (Y.setCell ⟨r, 6, none⟩ wv').heap.size = Y.heap.size := by simp [World.setCell]
  refine ⟨?_, (kz gc (by rw [h.tc]; decide) (by rw [h.tc]; decide) (by rw [h.tc]; decide)).trans h.cb, (kz ga (by rw [h.ta]; decide) (by rw [h.ta]; decide) (by rw [h.ta]; decide)).trans h.ab, (kz gg (by rw [h.tG]; decide) (by rw [h.tG]; decide) (by rw [h.tG]; decide)).trans h.gb, row_kept h.er (fun k e => kz k (by rw [h.te k e]; decide) (by rw [h.te k e]; decide) (by rw [h.te k e]; decide)), ?_, fun i hi => row_kept (h.gr i hi) (fun k e => kz k (by rw [h.tg_ i k hi e]; omega) (by rw [h.tg_ i k hi e]; omega) (by rw [h.tg_ i k hi e]; omega)), ⟨l, ⟨nc, av, os, hl1.kept (by rw [hszz]; exact sz) (fun k e => kz k (by rw [h.tR k e]; decide) (by rw [h.tR k e]; decide) (by rw [h.tR k e]; decide))⟩, hl2⟩, ?_, ?_, ?_, ?_, fun k e => ?_, fun k e => ?_, fun k e => ?_, fun i k hi e => ?_, fun k e => ?_, ⟨b.1, by simp; omega, b.2.2⟩⟩
  · have hb : Y.heap[r]? = _ := (ky r (by rw [h.tr]; decide) (by rw [h.tr]; decide)).trans h.blk
    rw [set_of hb 6 wv']
    rfl
  · have e1 : Y.ownsRow 0 3 1 wv' (ws ++ [x]).length ((ws ++ [x]).map i64V) := by simpa [i64V] using r1
    refine row_kept e1 (fun k e => Below.heap_setCell _ _ _ k (fun q => ?_))
    have q2 : k = r := q
    have : k < X.heap.size := by rw [q2]; exact lt r (by rw [h.tr]; decide)
    have := wr_ k e this
    rw [q2, h.tr] at this
    omega
  · exact (old r (by rw [h.tr]; decide)).trans (h.tr)
  · exact (old gc (by rw [h.tc]; decide)).trans (h.tc)
  · exact (old ga (by rw [h.ta]; decide)).trans (h.ta)
  · exact (old gg (by rw [h.tG]; decide)).trans (h.tG)
  · exact (old k (by rw [h.te k e]; decide)).trans (h.te k e)
  · by_cases hk : k < X.heap.size
    · simp only [if_pos hk]; exact wr_ k e hk
    · simp only [if_neg hk, if_pos e]
  · exact (old k (by rw [h.tR k e]; decide)).trans (h.tR k e)
  · exact (old k (by rw [h.tg_ i k hi e]; omega)).trans (h.tg_ i k hi e)
  · rw [hszz]
    by_cases hk : k < X.heap.size
    · simp only [if_pos hk] at e
      exact ⟨(h.lo k e).1, by omega⟩
    · simp only [if_neg hk] at e
      split at e
      · rename_i q; exact ⟨by omega, wlt k q⟩
      · exact absurd rfl e
end
end Go.Proofs.Ytkfmpebhibnniaa
