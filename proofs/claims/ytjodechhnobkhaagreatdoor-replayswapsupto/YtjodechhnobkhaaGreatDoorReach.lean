/- The bank of a plain memory: it reaches out, stores, compares and adds. -/
import Derived.Test.YtjodechhnobkhaaGreatDoorBank
import Derived.Shelf.Abstract
namespace Go.Proofs.YtjodechhnobkhaaGreatDoor
open Go.RowKit Go.Shelf

theorem infoU : (Tryz.prog.info? 42).map (fun i => (i.zero, i.size, i.bytes)) = some (some (.int .u64 0), 1, 8) := by kernel_rfl

/-- From one footprint to another: what has changed lay in the first, what is new in the second is new. -/
structure Goes (W W' : World) (F F' : Nat → Prop) : Prop where
  chg : Chg F W W'
  new : ∀ k, F' k → F k ∨ W.heap.size ≤ k
theorem Goes.refl (W : World) (F : Nat → Prop) : Goes W W F F := ⟨Chg.refl F W, fun _ h => .inl h⟩
theorem Goes.trans {W W1 W2 : World} {F F1 F2 : Nat → Prop} (h : Goes W W1 F F1) (k : Goes W1 W2 F1 F2) : Goes W W2 F F2 :=
  ⟨h.chg.trans k.chg (fun _ _ x => x) (fun i hi x => (h.new i x).resolve_right (by omega)), fun i x => (k.new i x).elim (h.new i) (fun y => .inr (Nat.le_trans h.chg.size y))⟩

def padN (cs : List Nat) (n : Nat) : List Nat := cs ++ List.replicate (n - cs.length) 0
theorem padN_length (cs : List Nat) (n : Nat) : (padN cs n).length = max cs.length n := by simp [padN]; omega
theorem padN_cell (cs : List Nat) (n i : Nat) : cellN (padN cs n) i = cellN cs i := by
  simp only [cellN, padN, List.getD_eq_getElem?_getD, List.getElem?_append, List.getElem?_replicate]
  split
  · rfl
  · rw [List.getElem?_eq_none (by omega)]
    split <;> rfl
theorem padN_id (cs : List Nat) (n : Nat) (h : n ≤ cs.length) : padN cs n = cs := by simp [padN, show n - cs.length = 0 by omega]
def putN (cs : List Nat) (i v : Nat) : List Nat := (padN cs (i + 1)).set i v
theorem putN_length (cs : List Nat) (i v : Nat) : (putN cs i v).length = max cs.length (i + 1) := by simp [putN, padN_length]
theorem putN_cell (cs : List Nat) (i v j : Nat) : cellN (putN cs i v) j = if j = i then v else cellN cs j := by
  have hl := padN_length cs (i + 1)
  by_cases h : j = i
  · subst h
    simp only [cellN, putN, List.getD_eq_getElem?_getD, List.getElem?_set]
    simp [show j < (padN cs (j + 1)).length by omega]
  · rw [if_neg h, ← padN_cell cs (i + 1) j]
    simp only [cellN, putN, List.getD_eq_getElem?_getD, List.getElem?_set]
    simp [Ne.symm h]

set_option maxRecDepth 100000 in
theorem p_reach (b most next count : Nat) (F : Nat → Prop) (cs : List Nat) (l : List Acc) (W : World) (h : Bank W F b most next cs l) (hc : count ≤ most) :
    Calls Tryz.prog 148 #[.pointer (some ⟨b, 0, none⟩), .int .i64 (count : Int)] W fun e W' => e = .returned (.tuple #[]) ∧ ∃ F', Bank W' F' b most next (padN cs count) l ∧ Goes W W' F F' := by
  obtain ⟨i0, hi, hz0, hz1, hz2⟩ := info_parts infoU
  obtain ⟨cv, av, h⟩ := h
  have c0 : W.cell? ⟨b, 0, none⟩ = some cv := cell_of h.blk 0
  have f0 := free_of h.blk 0
  have hml := h.most_le
  have hll := h.len_le
  by_cases h1 : count ≤ cs.length
  · have ti : ¬ (0 : Int) < (count : Int) - (cs.length : Int) := by omega
    have wl : IntKind.i64.wrap ((count : Int) - (cs.length : Int)) = (count : Int) - (cs.length : Int) := by rw [IntKind.wrap_i64]; omega
    have H := keepH h
    obtain ⟨p, c, rfl⟩ := slice_of h.row
    clear h
    go_enter Tryz.func148, Tryz.ntmps148
    go_wp2_with fail
    go_end0
    exact ⟨rfl, F, ⟨_, _, by rw [padN_id cs count h1]; exact H.out⟩, Goes.refl _ _⟩
  · obtain ⟨m, hmm⟩ : ∃ m, m = count - cs.length := ⟨_, rfl⟩
    have hm : 0 < m := by omega
    have wl : IntKind.i64.wrap ((count : Int) - (cs.length : Int)) = (m : Int) := by rw [IntKind.wrap_i64]; omega
    have ti : (0 : Int) < (m : Int) := by omega
    have h63 : cs.length + m ≤ 1099511627776 := by omega
    have HM := keepH hmm
    have H := keepH h
    have hrow := h.row
    obtain ⟨p, c, hcv⟩ := slice_of h.row
    have HV := keepH hcv
    have hlt := lt_of h.blk
    subst hcv
    clear h h1 hmm
    go_enter Tryz.func148, Tryz.ntmps148
    go_wp2_with (at_builtin; refine wpList_append_zeros _ rfl _ _ 27 3 rfl 42 i0 (.int .u64 0) 8 Tryz.underlying27 Tryz.underlying3 hi hz0 hz1 hz2 rfl rfl (.slice p cs.length c) cs.length _ rfl hrow m rfl hm h63 (by omega) ?_; intro v' w1 hown hgrow hwhere; obtain ⟨g', c', rfl⟩ := slice_pos hown (by omega); have hb1 := keepH ((hgrow.block b hlt (fun e => block_apart H.out.row H.out.blk (by decide) e.symm)).trans H.out.blk); have c1 := (cell_of hb1.out 0).trans rfl; have f1 := free_of hb1.out 0; have HO := keepH hown; have HW := keepH hwhere; clear hown hwhere)
    go_end0
    have h := H.out
    have hbk := HW.out
    have hg' : g' < w1.heap.size := row_lt HO.out g' rfl
    have epad : padN cs count = cs ++ List.replicate m 0 := by have := HM.out; subst this; rfl
    have en : ∀ k, F k → k ≠ b → (Value.slice p cs.length c).ownBlock ≠ some k → (w1.setCell ⟨b, 0, none⟩ (.slice (some ⟨g', 0, none⟩) (cs.length + m) c')).heap[k]? = W.heap[k]? := fun k hk hb hc => (Below.heap_setCell _ _ _ _ hb).trans (hgrow.block k (h.lt k hk) (fun e => hc e.symm))
    have gb : g' ≠ b := fun e => block_apart HO.out hb1.out (by decide) (by rw [e]; rfl)
    have hsz : (w1.setCell ⟨b, 0, none⟩ (.slice (some ⟨g', 0, none⟩) (cs.length + m) c')).heap.size = w1.heap.size := by simp [World.setCell]
    refine ⟨rfl, fun k => F k ∨ k = g', ⟨.slice (some ⟨g', 0, none⟩) (cs.length + m) c', av, ?_, ?_, ?_, ?_, ?_, .inl h.inb, ?_, fun k e => .inl (h.ina k e), fun x hx k e => .inl (h.inv x hx k e), ?_, h.most_le, h.next_le, ?_, ?_⟩, ⟨?_, ?_⟩⟩
    · have e := set_of hb1.out 0 (.slice (some ⟨g', 0, none⟩) (cs.length + m) c')
      exact e
    · rw [epad]
      have r := row_kept (W' := w1.setCell ⟨b, 0, none⟩ (.slice (some ⟨g', 0, none⟩) (cs.length + m) c')) HO.out fun k e => Below.heap_setCell _ _ _ _ (by simp [Value.ownBlock] at e; rw [← e]; exact gb)
      simpa [u64V] using r
    · exact row_kept h.acc fun k e => en k (h.ina k e) (fun e2 => block_apart h.acc h.blk (by decide) (by rw [e, e2])) (fun e2 => rows_apart h.row h.acc (by decide) k e2 e)
    · intro x hx
      exact row_kept (h.vals x hx) fun k e => en k (h.inv x hx k e) (fun e2 => block_apart (h.vals x hx) h.blk (by decide) (by rw [e, e2])) (fun e2 => h.ne x hx k e e2)
    · intro x hx k e e2
      rcases hbk with hb | hb
      · exact h.ne x hx k e (hb.symm.trans e2)
      · have := row_lt (h.vals x hx) k e
        rw [hb] at e2
        simp at e2
        omega
    · intro k e
      simp [Value.ownBlock] at e
      exact .inr e.symm
    · rw [hsz]
      rintro k (hk | rfl)
      · exact Nat.lt_of_lt_of_le (h.lt k hk) hgrow.size
      · exact hg'
    · rw [padN_length]
      omega
    · rw [epad]
      intro x hx
      rcases List.mem_append.1 hx with hx | hx
      · exact h.small x hx
      · rw [List.eq_of_mem_replicate hx]
        decide
    · exact ((Chg.refl F W).grown hgrow fun k e _ => h.inc k e).setCell (fun _ => h.inb) _
    · rintro k (hk | rfl)
      · exact .inl hk
      · rcases hbk with hb | hb
        · exact .inl (h.inc _ hb.symm)
        · simp [Value.ownBlock] at hb
          exact .inr (by omega)
end Go.Proofs.YtjodechhnobkhaaGreatDoor
