/- A memory whose trace plays; behind an access through a new view. -/
import Derived.Test.YtjnkefggmklaoaaATr5
namespace Go.Proofs.Ytjnkefggmklaoaa
open Go.RowKit Go.Shelf
set_option linter.unusedVariables false

structure TR (W X : World) (m b n : Nat) (F : Nat → Prop) (cs : List Nat) (next : Nat) (l : List Acc) (st : Nat → List Nat × Nat) : Prop where
  bank : Bank X F b n next cs l
  mem : IsMem X m b
  nm : ¬ F m
  inF : ∀ k, F k → W.heap.size ≤ k
  plays : Plays n l cs next st
  chg : Chg (fun _ => False) W X
theorem TR.quiet {W X Y : World} {m b n next : Nat} {F : Nat → Prop} {cs : List Nat} {l : List Acc} {st : Nat → List Nat × Nat} (h : TR W X m b n F cs next l st) (g : Chg (fun _ => False) X Y) : TR W Y m b n F cs next l st :=
  { h with bank := h.bank.chg g (fun _ _ h => h), mem := h.mem.chg g (fun h => h), chg := h.chg.trans g (fun _ _ x => x) (fun _ _ x => x) }
theorem TR.step {W X Y : World} {m b n next next' v : Nat} {F F' : Nat → Prop} {cs cs' : List Nat} {l : List Acc} {x : Acc} {st : Nat → List Nat × Nat} (h : TR W X m b n F cs next l st) (hv : W.heap.size ≤ v) (hvm : v ≠ m) (hb : Bank Y F' b n next' cs' (l ++ [x])) (g : GoesV X Y F F' v) (hp : Ply n cs next x cs' next') (hs : x.vals.length ≤ 1048576 ∧ x.addr < 18446744073709551616) :
    TR W Y m b n F' cs' next' (l ++ [x]) (setAt st (l.length + 1) (cs', next')) := by
  refine ⟨hb, h.mem.chg g.chg (fun e => e.elim h.nm (fun e => hvm e.symm)), g.out h.mem.lt h.nm, fun k e => (g.new k e).elim (h.inF k) (fun e => Nat.le_trans h.chg.size e), h.plays.more hp hs (fun j => hb.cell_lt j), h.chg.trans g.chg (fun _ _ x => x) (fun i hi e => ?_)⟩
  rcases e with e | e
  · have := h.inF i e
    omega
  · omega
end Go.Proofs.Ytjnkefggmklaoaa
