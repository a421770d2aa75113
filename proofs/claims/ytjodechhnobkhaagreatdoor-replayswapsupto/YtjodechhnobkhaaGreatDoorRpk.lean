/- fill: the parts behind the word, given to the fields of an access; by kind. (mkRpk.py) -/
import Derived.Test.YtjodechhnobkhaaGreatDoorRpj
namespace Go.Proofs.YtjodechhnobkhaaGreatDoor
open Go.RowKit Go.Shelf
set_option linter.unusedVariables false

abbrev bxA (x : Ax) (vs : Value) : Array Value := accC x.th x.kind x.addr x.a x.b vs x.got x.ok
structure FI (W : World) (tb B nb : Nat) (cs ps : Array Value) (wr : World) : Prop where
  chg : Chg (fun x => x = B) W wr
  box : wr.heap[B]? = some (.cells cs 44 (0, 0))
  row : wr.heap[nb]? = some (.cells ps 115 (0, 0))
  frm : IsForms wr tb
  ne : B ≠ nb
  nt : B ≠ tb
theorem FI.set {W : World} {tb B nb : Nat} {cs ps : Array Value} {wr : World} (h : FI W tb B nb cs ps wr) (i : Nat) (v : Value) : FI W tb B nb (cs.setIfInBounds i v) ps (wr.setCell ⟨B, i, none⟩ v) :=
  ⟨Chg.setCell h.chg (p := ⟨B, i, none⟩) (fun _ => rfl) _, set_of h.box i v, other_of h.row (Ne.symm h.ne) v, other_of h.frm (Ne.symm h.nt) v, h.ne, h.nt⟩
theorem FI.on {W : World} {tb B nb : Nat} {cs ps : Array Value} {wr w2 : World} (h : FI W tb B nb cs ps wr) (hb : Below wr.heap.size wr w2) : FI W tb B nb cs ps w2 :=
  ⟨h.chg.trans (belowC hb) (fun _ _ x => x) (fun _ _ x => x.elim), heap_below h.box hb, heap_below h.row hb, h.frm.on hb, h.ne, h.nt⟩
/-- fill: what it tells, and what it leaves -/
structure FlP (W : World) (B : Nat) (th : Int) (k : Nat) (fs : List (List UInt8)) (r : Bool) (W' : World) : Prop where
  chg : Chg (fun x => x = B) W W'
  yes : ∀ x, fillP th k fs = some x → r = true ∧ ∃ vs, W'.heap[B]? = some (.cells (bxA x vs) 44 (0, 0)) ∧ W'.ownsRow 0 42 1 vs x.vals.length (u64L x.vals) ∧ ∀ g, vs.ownBlock = some g → W.heap.size ≤ g
  no : fillP th k fs = none → r = false
def FlQ (W : World) (B : Nat) (th : Int) (k : Nat) (fs : List (List UInt8)) (v : Value) (W' : World) : Prop := ∃ r, v = .bool r ∧ FlP W B th k fs r W'
theorem fillP_eq {th : Int} {k : Nat} {fs : List (List UInt8)} {ns : List Nat} (hl : cntK k ≤ fs.length) (hn : natsP (fs.take (cntK k)) = some ns) : fillP th k fs = match tailP k (fs.drop (cntK k)) with | none => none | some q => some (putA th k ns q.1 q.2) := by
  unfold fillP
  rw [if_neg (by omega)]
  simp only [hn]
  cases tailP k (fs.drop (cntK k)) <;> rfl
theorem fillP_bad {th : Int} {k i : Nat} {fs : List (List UInt8)} {f : List UInt8} (hi : i < cntK k) (hf : fs[i]? = some f) (hn : natP f = none) : fillP th k fs = none := by
  unfold fillP
  split
  · rfl
  · have hm : f ∈ fs.take (cntK k) := by
      refine List.mem_of_getElem? (i := i) ?_
      rw [List.getElem?_take, if_pos hi]; exact hf
    rw [natsP_none hm hn]

end Go.Proofs.YtjodechhnobkhaaGreatDoor
