/- Vcas's procs: what their inner steps do, whatever the view is. -/
import Derived.Test.YtlgkioaomcobdaaGreatCamA0
namespace Go.Proofs.YtlgkioaomcobdaaGreat
open Go.RowKit Go.Shelf

def Blk (W : World) (p : Nat) (t : TypeId) (l : List Value) : Prop := W.heap[p]? = some (.cells l.toArray t (0, 0))
theorem Blk.cell {W : World} {p : Nat} {t : TypeId} {l : List Value} (h : Blk W p t l) (i : Nat) : W.cell? ⟨p, i, none⟩ = l[i]? := by rw [cell_of h i]; simp
theorem Blk.free {W : World} {p : Nat} {t : TypeId} {l : List Value} (h : Blk W p t l) (i : Nat) : W.frozen? ⟨p, i, none⟩ = false := free_of h i
theorem Blk.set {W : World} {p : Nat} {t : TypeId} {l : List Value} (h : Blk W p t l) (i : Nat) (v : Value) : Blk (W.setCell ⟨p, i, none⟩ v) p t (l.set i v) := by
  have e := set_of h i v
  rw [List.setIfInBounds_toArray] at e
  exact e
theorem Blk.chg {W W' : World} {F : Nat → Prop} {p : Nat} {t : TypeId} {l : List Value} (h : Blk W p t l) (hc : Chg F W W') (hn : ¬ F p) : Blk W' p t l := (hc.block p (lt_of h) hn).trans h
theorem setP {W : World} {p i : Nat} (u : Value) : Chg (fun k => k = p) W (W.setCell ⟨p, i, none⟩ u) := (Chg.refl (fun k => k = p) W).setCell (p := ⟨p, i, none⟩) (fun _ => rfl) u
def stpL (cam ver pos : Nat) (clk : Value) (rest : List Value) : List Value := .int .u64 (cam : Int) :: .int .u64 (ver : Int) :: .int .u8 (pos : Int) :: clk :: rest
def nowO (cam : Nat) : Obj := .cells #[.int .u64 (cam : Int), .int .u8 0, .int .u64 0] 116

end Go.Proofs.YtlgkioaomcobdaaGreat
