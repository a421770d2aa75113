/- Vcas's procs on a memory: a Cas that is done, a Read of it. -/
import Derived.Test.YtlgkioaomcobdaaGreatVs
namespace Go.Proofs.YtlgkioaomcobdaaGreat
open Go.RowKit Go.Shelf
set_option linter.unusedVariables false

def own2 (D : Nat → Prop) (p : Nat) (q : Option Nat) : Nat → Prop := fun k => D k ∨ (k = p ∨ q = some k)
/-- The memory's state, a proc p, its clock q; all else in D. -/
structure CS (W : World) (m b v most : Nat) (w : World) (next made : Nat) (cs : List Nat) (n : Nat) (D : Nat → Prop) (p : Nat) (t : TypeId) (l : List Value) (q : Option Nat) (cam pos st : Nat) : Prop where
  sr : SR W m b v 0 most w next made cs n (own2 D p q)
  np : ¬ D p
  nq : ∀ k, q = some k → ¬ D k ∧ k ≠ p ∧ IsNow w k cam pos st
  blk : Blk w p t l
theorem CS.dp {D : Nat → Prop} {p : Nat} {q : Option Nat} : own2 D p q p := .inr (.inl rfl)
theorem CS.fin {W : World} {m b v most : Nat} {w : World} {next made : Nat} {cs : List Nat} {n : Nat} {D : Nat → Prop} {p : Nat} {t : TypeId} {l l' : List Value} {q : Option Nat} {cam pos st : Nat} (h : CS W m b v most w next made cs n D p t l q cam pos st) {x w' : World} {next' made' n' : Nat} {cs' : List Nat} (S : SR W m b v 0 most x next' made' cs' n' (own2 D p q)) (K : ∀ k, own2 D p q k → k ≠ p → x.heap[k]? = w.heap[k]?) (c : Chg (fun k => k = p) x w') (B : Blk w' p t l') :
    CS W m b v most w' next' made' cs' n' D p t l' q cam pos st ∧ ∀ k, D k → w'.heap[k]? = w.heap[k]? := by
  have kk : ∀ k, own2 D p q k → k ≠ p → w'.heap[k]? = w.heap[k]? := fun k e ne => (c.block k (S.lt k e) (fun z => ne z)).trans (K k e ne)
  exact ⟨⟨S.put c (fun k e => .inr (.inl e)), h.np, fun k e => ⟨(h.nq k e).1, (h.nq k e).2.1, (kk k (.inr (.inr e)) (h.nq k e).2.1).trans (h.nq k e).2.2⟩, B⟩, fun k e => kk k (.inl e) (fun z => h.np (z ▸ e))⟩

def c0L (cam obj now : Nat) : List Value := fndL cam 0 0 (.pointer none) obj 0 0 (rest0 0 now)
def c1L (cam obj now : Nat) : List Value := fndL cam 0 0 (.pointer none) obj 2 0 [.int .u8 2, .int .u64 0, .int .u64 0, .int .u64 (now : Int), .int .u8 1, .int .u64 0, .bool false, .int .i64 0]
def c2L (cam obj now c : Nat) : List Value := fndL cam 0 0 (.pointer none) obj 2 0 [.int .u8 2, .int .u64 0, .int .u64 0, .int .u64 (now : Int), .int .u8 2, .int .u64 (c : Int), .bool false, .int .i64 0]
def c3L (cam obj now c : Nat) (pos : Nat) (clk : Value) (nx : Nat) (sw : Bool) : List Value := fndL cam c pos clk obj 2 0 [.int .u8 2, .int .u64 0, .int .u64 0, .int .u64 (now : Int), .int .u8 (nx : Int), .int .u64 (c : Int), .bool sw, .int .i64 0]

theorem drewE (w : World) : Chg (fun _ => False) w w.drew := (Chg.refl _ w).drew
def r0L (cam obj : Nat) : List Value := fndL cam 0 0 (.pointer none) obj 0 0 [.int .u8 0, .int .u64 0]
def r1L (cam obj c : Nat) : List Value := fndL cam c 0 (.pointer none) obj 1 c [.int .u8 0, .int .u64 0]
def r2L (cam obj c : Nat) : List Value := fndL cam c 3 (.pointer none) obj 2 c [.int .u8 1, .int .u64 0]
def r3L (cam obj c x : Nat) : List Value := fndL cam c 3 (.pointer none) obj 2 c [.int .u8 2, .int .u64 (x : Int)]
end Go.Proofs.YtlgkioaomcobdaaGreat
