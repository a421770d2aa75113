/- Two views of one memory, and a fork of it, beside each other. -/
import Derived.Test.YtmckdefijcnhcaaALive
import Derived.Test.YtmckdefijcnhcaaFork
import Derived.Test.YtmckdefijcnhcaaScript
namespace Go.Proofs.Ytmckdefijcnhcaa
open Go.RowKit Go.Shelf

structure AV (W X : World) (m b va vb mf bf : Nat) (F Ff : Nat → Prop) (cs : List Nat) (l : List Acc) (na nb : Nat) : Prop where
  bank : Bank X F b 256 1 cs l
  sa : IsView X va b 1 na
  sb : IsView X vb b 2 nb
  mem : IsMem X m b
  memf : IsMem X mf bf
  bankf : Bank X Ff bf 256 1 [] []
  fa : ¬ F va
  fb : ¬ F vb
  fm : ¬ F m
  fmf : ¬ F mf
  ff : ∀ k, Ff k → ¬ F k ∧ k ≠ va ∧ k ≠ vb
  ab : va ≠ vb
  am : m ≠ va ∧ m ≠ vb ∧ mf ≠ va ∧ mf ≠ vb
  inF : ∀ k, F k → W.heap.size ≤ k
  inab : W.heap.size ≤ va ∧ W.heap.size ≤ vb
  vals : ∀ x ∈ l, x.vals = []
  chg : Chg (fun _ => False) W X

theorem AV.quiet {W X Y : World} {m b va vb mf bf : Nat} {F Ff : Nat → Prop} {cs : List Nat} {l : List Acc} {na nb : Nat} (h : AV W X m b va vb mf bf F Ff cs l na nb) (g : Chg (fun _ => False) X Y) : AV W Y m b va vb mf bf F Ff cs l na nb :=
  { h with bank := h.bank.chg g (fun _ _ h => h), sa := h.sa.chg g (fun h => h), sb := h.sb.chg g (fun h => h), mem := h.mem.chg g (fun h => h), memf := h.memf.chg g (fun h => h), bankf := h.bankf.chg g (fun _ _ h => h), chg := h.chg.trans g (fun _ _ x => x) (fun _ _ x => x) }

theorem AV.stepA {W X Y : World} {m b va vb mf bf : Nat} {F Ff F' : Nat → Prop} {cs cs' : List Nat} {l : List Acc} {x : Acc} {na nb : Nat} (h : AV W X m b va vb mf bf F Ff cs l na nb) (hb : Bank Y F' b 256 1 cs' (l ++ [x])) (hx : x.vals = []) (hv : IsView Y va b 1 (na + 1)) (g : GoesV X Y F F' va) : AV W Y m b va vb mf bf F' Ff cs' (l ++ [x]) (na + 1) nb := by
  obtain ⟨am1, am2, am3, am4⟩ := h.am
  obtain ⟨cvf, avf, Bf⟩ := h.bankf
  exact ⟨hb, hv, h.sb.chg g.chg (fun e => e.elim h.fb (fun e => h.ab e.symm)), h.mem.chg g.chg (fun e => e.elim h.fm am1), h.memf.chg g.chg (fun e => e.elim h.fmf am3),
    h.bankf.chg g.chg (fun k e e2 => e2.elim (h.ff k e).1 (h.ff k e).2.1), g.out h.sa.lt h.fa, g.out h.sb.lt h.fb, g.out h.mem.lt h.fm, g.out h.memf.lt h.fmf,
    fun k e => ⟨g.out (Bf.lt k e) (h.ff k e).1, (h.ff k e).2⟩, h.ab, ⟨am1, am2, am3, am4⟩,
    fun k e => (g.new k e).elim (h.inF k) (fun e => Nat.le_trans h.chg.size e), h.inab, fun y hy => (List.mem_append.1 hy).elim (h.vals y) (fun e => by rw [List.mem_singleton.1 e]; exact hx),
    h.chg.trans g.chg (fun _ _ x => x) (fun i hi x => x.elim (fun y => by have := h.inF i y; omega) (fun y => by have := h.inab.1; omega))⟩
theorem AV.stepB {W X Y : World} {m b va vb mf bf : Nat} {F Ff F' : Nat → Prop} {cs cs' : List Nat} {l : List Acc} {x : Acc} {na nb : Nat} (h : AV W X m b va vb mf bf F Ff cs l na nb) (hb : Bank Y F' b 256 1 cs' (l ++ [x])) (hx : x.vals = []) (hv : IsView Y vb b 2 (nb + 1)) (g : GoesV X Y F F' vb) : AV W Y m b va vb mf bf F' Ff cs' (l ++ [x]) na (nb + 1) := by
  obtain ⟨am1, am2, am3, am4⟩ := h.am
  obtain ⟨cvf, avf, Bf⟩ := h.bankf
  exact ⟨hb, h.sa.chg g.chg (fun e => e.elim h.fa h.ab), hv, h.mem.chg g.chg (fun e => e.elim h.fm am2), h.memf.chg g.chg (fun e => e.elim h.fmf am4),
    h.bankf.chg g.chg (fun k e e2 => e2.elim (h.ff k e).1 (h.ff k e).2.2), g.out h.sa.lt h.fa, g.out h.sb.lt h.fb, g.out h.mem.lt h.fm, g.out h.memf.lt h.fmf,
    fun k e => ⟨g.out (Bf.lt k e) (h.ff k e).1, (h.ff k e).2⟩, h.ab, ⟨am1, am2, am3, am4⟩,
    fun k e => (g.new k e).elim (h.inF k) (fun e => Nat.le_trans h.chg.size e), h.inab, fun y hy => (List.mem_append.1 hy).elim (h.vals y) (fun e => by rw [List.mem_singleton.1 e]; exact hx),
    h.chg.trans g.chg (fun _ _ x => x) (fun i hi x => x.elim (fun y => by have := h.inF i y; omega) (fun y => by have := h.inab.2; omega))⟩
end Go.Proofs.Ytmckdefijcnhcaa
