/- What must be whatever is asked (package arena). -/
import Derived.Test.YtmckdefijcnhcacOps
namespace Go.Proofs.Ytmckdefijcnhcac
open Go.RowKit Go.Shelf

theorem reads_new (W : World) (vals : List Nat) (g : Nat) (hg : W.heap.size = g) : Reads (W.alloc (.cells (vals.map u64V).toArray 51)) (some ⟨g, 0, none⟩) vals :=
  .inr ⟨_, rfl, fun j u hj => cells_new W g hg (vals.map u64V).toArray 51 j u (by simpa using hj)⟩

/-- A memory with one view, made behind W. -/
structure St (W X : World) (m b v : Nat) (F : Nat → Prop) (th : Int) (most next made : Nat) (cs : List Nat) (l : List Acc) : Prop where
  bank : Bank X F b most next cs l
  view : IsView X v b th made
  mem : IsMem X m b
  nv : ¬ F v
  nm : ¬ F m
  mv : m ≠ v
  inF : ∀ k, F k → W.heap.size ≤ k
  hv : W.heap.size ≤ v
  chg : Chg (fun _ => False) W X
theorem St.step {W X Y : World} {m b v : Nat} {F F' : Nat → Prop} {th : Int} {most next made next' made' : Nat} {cs cs' : List Nat} {l l' : List Acc} (h : St W X m b v F th most next made cs l) (g : GoesV X Y F F' v) (hb : Bank Y F' b most next' cs' l') (hw : IsView Y v b th made') : St W Y m b v F' th most next' made' cs' l' :=
  ⟨hb, hw, h.mem.chg g.chg (fun e => e.elim h.nm h.mv), g.out h.view.lt h.nv, g.out h.mem.lt h.nm, h.mv, fun k e => (g.new k e).elim (h.inF k) (fun e => Nat.le_trans h.chg.size e), h.hv,
    h.chg.trans g.chg (fun _ _ x => x) (fun i hi x => x.elim (fun y => by have := h.inF i y; omega) (fun y => by have := h.hv; omega))⟩
theorem St.chg' {W X Y : World} {m b v : Nat} {F : Nat → Prop} {th : Int} {most next made : Nat} {cs : List Nat} {l : List Acc} (h : St W X m b v F th most next made cs l) (g : Chg (fun _ => False) X Y) : St W Y m b v F th most next made cs l :=
  ⟨h.bank.chg g (fun _ _ h => h), h.view.chg g (fun h => h), h.mem.chg g (fun h => h), h.nv, h.nm, h.mv, h.inF, h.hv, h.chg.trans g (fun _ _ x => x) (fun _ _ x => x)⟩
theorem St.new {W W1 Y : World} {most : Nat} {th : Int} (q : Nat) (M1 : IsMem W1 (W.heap.size + 1) W.heap.size) (B1 : Bank W1 (fun k => k = W.heap.size) W.heap.size most 1 [] []) (C1 : Chg (fun _ => False) W W1) (S1 : W1.heap.size = W.heap.size + 2)
    (hY : Y = (W1.drewN q).alloc (.cells #[.iface 113 (.pointer (some ⟨W.heap.size, 0, none⟩)), .int .i64 th, .int .i64 0] 116)) : St W Y (W.heap.size + 1) W.heap.size W1.heap.size (fun k => k = W.heap.size) th most 1 0 [] [] := by
  have c : Chg (fun _ => False) W1 Y := by subst hY; exact (Goes.drewN W1 (fun _ => False) q).chg.alloc _
  refine ⟨B1.chg c (fun _ _ h => h), ?_, M1.chg c (fun h => h), by omega, by omega, by omega, fun k e => by omega, by omega, C1.trans c (fun _ _ x => x) (fun _ _ x => x)⟩
  subst hY
  exact heap_alloc_new _ _

end Go.Proofs.Ytmckdefijcnhcac
