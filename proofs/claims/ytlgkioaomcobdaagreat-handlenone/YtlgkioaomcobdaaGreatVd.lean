/- Vcas's procs: find, read, and the steps over them, whatever the view is. -/
import Derived.Test.YtlgkioaomcobdaaGreatVc
namespace Go.Proofs.YtlgkioaomcobdaaGreat
open Go.RowKit Go.Shelf

def fndL (cam ver pos : Nat) (clk : Value) (obj fpos head : Nat) (rest : List Value) : List Value := stpL cam ver pos clk (.int .u64 (obj : Int) :: .int .u8 (fpos : Int) :: .int .u64 (head : Int) :: rest)

def fpN (c : Nat) : Nat := if c = 0 then 2 else 1
theorem set_same {w : World} {p : Nat} {t : TypeId} {l : List Value} (P : Blk w p t l) (i : Nat) (u v : Value) (h : l[i]? = some u) : (w.setCell ⟨p, i, none⟩ v).cell? ⟨p, i, none⟩ = some v := by
  have hl : i < l.length := (List.getElem?_eq_some_iff.1 h).1
  rw [(P.set i v).cell i]
  simp [hl]

end Go.Proofs.YtlgkioaomcobdaaGreat
