/- An operation that is read, by the program. (mkScp.py) -/
import Derived.Test.YtmmaniolaljjlaaGreatDoorSco
import Derived.Laws.Tables
namespace Go.Proofs.YtmmaniolaljjlaaGreatDoor
open Go.RowKit Go.Shelf
set_option linter.unusedVariables false

def zeroO : Opx := ⟨0, 0, 0, 0, 0, false, 0, 0, [], 0, 0⟩
def opV (o : Opx) (kp : Option Addr) (kc : Nat) : Array Value := opR o.k o.key o.val o.old o.hnd o.set o.rt o.ri (.slice kp o.keys.length kc) o.lo o.hi
theorem pq_no {t : List UInt8} (h : ∀ o', rightO o' → t ≠ textO o') : PQ t false zeroO := ⟨fun e => by simp at e, fun o' h1 h2 => absurd h2 (h o' h1)⟩
theorem sl_any (bk off n cap i : Nat) (hi : i ≤ n) (hcap : n ≤ cap) : ∃ off', (∀ w, (Instr.slice 67 (.slice (some ⟨bk, off, none⟩) n cap) (some (.int .i64 (i : Int))) none none).run Tryz.prog w = .ok (.slice (some ⟨bk, off', none⟩) (n - i) (cap - i)) w) ∧ (i < cap → off' = off + i) := by
  by_cases e : cap = i
  · refine ⟨off, fun w => ?_, fun h => by omega⟩
    have hn : n = i := by omega
    have hb := run_sliceBound (P := Tryz.prog) (w := w) .i64 (i : Int) i .sliceB (by omega) (by omega)
    simp [Instr.slice, run_underlying Tryz.underlying67, Instr.sliceBounds, Result.andThen, e, hn, hb]
  · refine ⟨off + i, fun w => ?_, fun _ => rfl⟩
    have hb := run_sliceBound (P := Tryz.prog) (w := w) .i64 (i : Int) n .sliceB (by omega) (by omega)
    simp [Instr.slice, run_underlying Tryz.underlying67, Instr.sliceBounds, Result.andThen, e, hb, Addr.add]
    try (unfold Addr.add; split <;> simp_all)
/-- what lies in memory while an operation is read -/
structure PS (W : World) (R P F : Nat) (row fr : Array Value) (pv : Value) (ns : List Nat) (sb so : Nat) (fs : List (List UInt8)) (wr : World) : Prop where
  rr : wr.heap[R]? = some (.cells (opR 0 0 0 0 0 false 0 0 (.slice none 0 0) 0 0) 28 (0, 0))
  bx : wr.heap[P]? = some (.cells row 28 (0, 0))
  fl : wr.heap[F]? = some (.cells fr 113 (0, 0))
  num : (ns = [] ∧ pv = .slice none 0 0) ∨ ∃ g, pv = .slice (some ⟨g, 0, none⟩) ns.length ns.length ∧ g ≠ P ∧ wr.heap[g]? = some (.cells (ns.map fun n => Value.pointer (some ⟨P, n, none⟩)).toArray 115 (0, 0))
  st : ∀ (i : Nat) (f : List UInt8), fs[i]? = some f → wr.cell? ⟨sb, so + i, none⟩ = some (.string (mkS f))
  sl : sb < wr.heap.size
  bel : Below W.heap.size W wr
  lo : W.heap.size ≤ P
  lr : W.heap.size ≤ R
  nr : R ≠ P
  nf : F ≠ P
  ns : sb ≠ P
theorem PS.chg {W : World} {R P F : Nat} {row row' fr : Array Value} {pv : Value} {ns : List Nat} {sb so : Nat} {fs : List (List UInt8)} {wr X : World} (h : PS W R P F row fr pv ns sb so fs wr) (hc : Chg (fun b => b = P) wr X) (hx : X.heap[P]? = some (.cells row' 28 (0, 0))) : PS W R P F row' fr pv ns sb so fs X := by
  have hk : ∀ (b : Nat) (o : Obj), b ≠ P → wr.heap[b]? = some o → X.heap[b]? = some o := fun b o hne hb => (hc.block b (Array.getElem?_eq_some_iff.1 hb).1 hne).trans hb
  refine ⟨hk R _ h.nr h.rr, hx, hk F _ h.nf h.fl, ?_, fun i f hf => ?_, Nat.lt_of_lt_of_le h.sl hc.size, ⟨hc.os.trans h.bel.os, hc.tape.trans h.bel.tape, hc.output.trans h.bel.output, Nat.le_trans h.bel.size hc.size, fun k hk' => ?_⟩, h.lo, h.lr, h.nr, h.nf, h.ns⟩
  · rcases h.num with x | ⟨g, h1, h2, h3⟩
    · exact .inl x
    · exact .inr ⟨g, h1, h2, hk g _ h2 h3⟩
  · rw [World.cell?_of_block (w := wr) (hc.block sb h.sl h.ns)]
    exact h.st i f hf
  · have := h.lo
    have := h.bel.size
    rw [hc.block k (by omega) (by omega)]
    exact h.bel.block k hk'
theorem PS.on {W : World} {R P F : Nat} {row fr : Array Value} {pv : Value} {ns : List Nat} {sb so : Nat} {fs : List (List UInt8)} {wr X : World} (h : PS W R P F row fr pv ns sb so fs wr) (hb : Below wr.heap.size wr X) : PS W R P F row fr pv ns sb so fs X := h.chg (chg_of_below hb) (heap_below h.bx hb)
theorem PS.cut {W : World} {R P F : Nat} {row fr : Array Value} {pv : Value} {ns : List Nat} {sb so so' : Nat} {f : List UInt8} {fs : List (List UInt8)} {wr : World} (h : PS W R P F row fr pv ns sb so (f :: fs) wr) (e : 0 < fs.length → so' = so + 1) : PS W R P F row fr pv ns sb so' fs wr :=
  ⟨h.rr, h.bx, h.fl, h.num, fun i x hx => by
    have hl : 0 < fs.length := by
      have := (List.getElem?_eq_some_iff.1 hx).1
      omega
    have := h.st (i + 1) x (by simpa using hx)
    rw [e hl, Nat.add_assoc, Nat.add_comm 1 i]
    exact this, h.sl, h.bel, h.lo, h.lr, h.nr, h.nf, h.ns⟩
theorem PS.srd {W : World} {R P F : Nat} {row fr : Array Value} {pv : Value} {ns : List Nat} {sb so : Nat} {fs : List (List UInt8)} {wr : World} (h : PS W R P F row fr pv ns sb so fs wr) : SRd wr (some ⟨sb, so, none⟩) fs := .inr ⟨sb, so, rfl, h.sl, h.st⟩
/-- the end: the row of the answer is written -/
theorem PS.fin {W : World} {R P F : Nat} {row fr : Array Value} {pv : Value} {ns : List Nat} {sb so : Nat} {fs : List (List UInt8)} {wr : World} (h : PS W R P F row fr pv ns sb so fs wr) (cs : Array Value) : (wr.setRow R cs).heap[R]? = some (.cells cs 28 (0, 0)) ∧ Below W.heap.size W (wr.setRow R cs) := ⟨setRow_heap _ _ _ _ _ _ h.rr, below_setRow h.bel h.lr _⟩
end Go.Proofs.YtmmaniolaljjlaaGreatDoor
