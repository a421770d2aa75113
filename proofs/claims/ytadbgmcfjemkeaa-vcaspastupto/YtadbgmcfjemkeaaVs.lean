/- A memory with one view, and blocks beside it. -/
import Derived.Test.YtadbgmcfjemkeaaVg
namespace Go.Proofs.Ytadbgmcfjemkeaa
open Go.RowKit Go.Shelf
set_option linter.unusedVariables false

theorem reads_new (W : World) (vals : List Nat) (g : Nat) (hg : W.heap.size = g) : Reads (W.alloc (.cells (vals.map u64V).toArray 27)) (some ⟨g, 0, none⟩) vals :=
  .inr ⟨_, rfl, fun j u hj => cells_new W g hg (vals.map u64V).toArray 27 j u (by simpa using hj)⟩
theorem Bank.lt' {W : World} {F : Nat → Prop} {b most next : Nat} {cs : List Nat} {l : List Acc} (h : Bank W F b most next cs l) (k : Nat) (hk : F k) : k < W.heap.size := by
  obtain ⟨cv, av, h⟩ := h
  exact h.lt k hk

/-- A memory with one view, made behind W. -/
structure St (W X : World) (m b v : Nat) (F : Nat → Prop) (th : Int) (most next made : Nat) (cs : List Nat) (l : List Acc) : Prop where
  bank : Bank X F b most next cs l
  view : IsView X v b th made
  mem : IsMem X m b
  nv : ¬ F v
  nm : ¬ F m
  mv : m ≠ v
  inF : ∀ k, F k → W.heap.size ≤ k
  hv : W.heap.size ≤ v
  chg : Chg (fun _ => False) W X
theorem St.step {W X Y : World} {m b v : Nat} {F F' : Nat → Prop} {th : Int} {most next made next' made' : Nat} {cs cs' : List Nat} {l l' : List Acc} (h : St W X m b v F th most next made cs l) (g : GoesV X Y F F' v) (hb : Bank Y F' b most next' cs' l') (hw : IsView Y v b th made') : St W Y m b v F' th most next' made' cs' l' :=
  ⟨hb, hw, h.mem.chg g.chg (fun e => e.elim h.nm h.mv), g.out h.view.lt h.nv, g.out h.mem.lt h.nm, h.mv, fun k e => (g.new k e).elim (h.inF k) (fun e => Nat.le_trans h.chg.size e), h.hv,
    h.chg.trans g.chg (fun _ _ x => x) (fun i hi x => x.elim (fun y => by have := h.inF i y; omega) (fun y => by have := h.hv; omega))⟩
theorem St.chg' {W X Y : World} {m b v : Nat} {F : Nat → Prop} {th : Int} {most next made : Nat} {cs : List Nat} {l : List Acc} (h : St W X m b v F th most next made cs l) (g : Chg (fun _ => False) X Y) : St W Y m b v F th most next made cs l :=
  ⟨h.bank.chg g (fun _ _ h => h), h.view.chg g (fun h => h), h.mem.chg g (fun h => h), h.nv, h.nm, h.mv, h.inF, h.hv, h.chg.trans g (fun _ _ x => x) (fun _ _ x => x)⟩
theorem St.new0 {W W1 : World} {most : Nat} {th : Int} (M1 : IsMem W1 (W.heap.size + 1) W.heap.size) (B1 : Bank W1 (fun k => k = W.heap.size) W.heap.size most 1 [] []) (C1 : Chg (fun _ => False) W W1) (S1 : W1.heap.size = W.heap.size + 2) :
    St W (W1.alloc (.cells #[.iface 110 (.pointer (some ⟨W.heap.size, 0, none⟩)), .int .i64 th, .int .i64 0] 101)) (W.heap.size + 1) W.heap.size W1.heap.size (fun k => k = W.heap.size) th most 1 0 [] [] := by
  have c : Chg (fun _ => False) W1 (W1.alloc (.cells #[.iface 110 (.pointer (some ⟨W.heap.size, 0, none⟩)), .int .i64 th, .int .i64 0] 101)) := (Chg.refl _ _).alloc _
  exact ⟨B1.chg c (fun _ _ h => h), heap_alloc_new _ _, M1.chg c (fun h => h), by omega, by omega, by omega, fun k e => by omega, by omega, C1.trans c (fun _ _ x => x) (fun _ _ x => x)⟩
theorem St.chgG {W X Y : World} {m b v : Nat} {F G : Nat → Prop} {th : Int} {most next made : Nat} {cs : List Nat} {l : List Acc} (h : St W X m b v F th most next made cs l) (c : Chg G X Y) (hF : ∀ k, F k → ¬ G k) (hv : ¬ G v) (hm : ¬ G m) (hG : ∀ k, k < W.heap.size → ¬ G k) : St W Y m b v F th most next made cs l :=
  ⟨h.bank.chg c hF, h.view.chg c hv, h.mem.chg c hm, h.nv, h.nm, h.mv, h.inF, h.hv, h.chg.trans c (fun _ _ x => x) (fun i hi x => hG i hi x)⟩

/-- The memory's state, with blocks D that lie apart from it. -/
def SR (W : World) (m b v : Nat) (th : Int) (most : Nat) (w : World) (next made : Nat) (cs : List Nat) (n : Nat) (D : Nat → Prop) : Prop := ∃ F l, St W w m b v F th most next made cs l ∧ l.length = n ∧ ∀ k, D k → ¬ F k ∧ k ≠ v ∧ k ≠ m ∧ W.heap.size ≤ k ∧ k < w.heap.size
theorem SR.mono {W : World} {m b v : Nat} {th : Int} {most : Nat} {w : World} {next made : Nat} {cs : List Nat} {n : Nat} {D E : Nat → Prop} (h : SR W m b v th most w next made cs n D) (hE : ∀ k, E k → D k) : SR W m b v th most w next made cs n E := by
  obtain ⟨F, l, S, L, A⟩ := h
  exact ⟨F, l, S, L, fun k e => A k (hE k e)⟩
theorem SR.put {W : World} {m b v : Nat} {th : Int} {most : Nat} {w w' : World} {next made : Nat} {cs : List Nat} {n : Nat} {D G : Nat → Prop} (h : SR W m b v th most w next made cs n D) (c : Chg G w w') (hG : ∀ k, G k → D k) : SR W m b v th most w' next made cs n D := by
  obtain ⟨F, l, S, L, A⟩ := h
  exact ⟨F, l, S.chgG c (fun k hk e => (A k (hG k e)).1 hk) (fun e => (A _ (hG _ e)).2.1 rfl) (fun e => (A _ (hG _ e)).2.2.1 rfl) (fun k hk e => by have := (A k (hG k e)).2.2.2.1; omega), L, fun k e => ⟨(A k e).1, (A k e).2.1, (A k e).2.2.1, (A k e).2.2.2.1, Nat.lt_of_lt_of_le (A k e).2.2.2.2 c.size⟩⟩
theorem SR.alloc {W : World} {m b v : Nat} {th : Int} {most : Nat} {w : World} {next made : Nat} {cs : List Nat} {n : Nat} {D : Nat → Prop} (h : SR W m b v th most w next made cs n D) (o : Obj) : SR W m b v th most (w.alloc o) next made cs n (fun k => D k ∨ k = w.heap.size) := by
  obtain ⟨F, l, S, L, A⟩ := h
  have z1 := S.view.lt
  have z2 := S.mem.lt
  have z3 := S.chg.size
  refine ⟨F, l, S.chg' ((Chg.refl _ _).alloc _), L, fun k e => e.elim (fun e => ⟨(A k e).1, (A k e).2.1, (A k e).2.2.1, (A k e).2.2.2.1, by have := (A k e).2.2.2.2; simp; omega⟩) (fun e => ?_)⟩
  subst e
  exact ⟨fun x => by have := S.bank.lt' _ x; omega, by omega, by omega, z3, by simp⟩
theorem SR.lt {W : World} {m b v : Nat} {th : Int} {most : Nat} {w : World} {next made : Nat} {cs : List Nat} {n : Nat} {D : Nat → Prop} (h : SR W m b v th most w next made cs n D) (k : Nat) (hk : D k) : k < w.heap.size := by
  obtain ⟨F, l, S, L, A⟩ := h
  exact (A k hk).2.2.2.2
theorem SR.chg {W : World} {m b v : Nat} {th : Int} {most : Nat} {w : World} {next made : Nat} {cs : List Nat} {n : Nat} {D : Nat → Prop} (h : SR W m b v th most w next made cs n D) : Chg (fun _ => False) W w := by
  obtain ⟨F, l, S, L, A⟩ := h
  exact S.chg
theorem SR.goes {W : World} {m b v : Nat} {th : Int} {most : Nat} {w w' : World} {next made next' made' : Nat} {cs cs' : List Nat} {n : Nat} {D F F' : Nat → Prop} {l l' : List Acc} (S : St W w m b v F th most next made cs l) (A : ∀ k, D k → ¬ F k ∧ k ≠ v ∧ k ≠ m ∧ W.heap.size ≤ k ∧ k < w.heap.size) (G : GoesV w w' F F' v) (B : Bank w' F' b most next' cs' l') (V : IsView w' v b th made') (hl : l'.length = n) :
    SR W m b v th most w' next' made' cs' n D ∧ ∀ k, D k → w'.heap[k]? = w.heap[k]? :=
  ⟨⟨F', l', S.step G B V, hl, fun k hk => ⟨fun x => (G.new k x).elim (A k hk).1 (fun y => by have := (A k hk).2.2.2.2; omega), (A k hk).2.1, (A k hk).2.2.1, (A k hk).2.2.2.1, Nat.lt_of_lt_of_le (A k hk).2.2.2.2 G.chg.size⟩⟩, fun k hk => G.chg.block k (A k hk).2.2.2.2 (fun e => e.elim (A k hk).1 (A k hk).2.1)⟩
theorem SR.load {W : World} {m b v : Nat} {th : Int} {most : Nat} {w : World} {next made : Nat} {cs : List Nat} {n : Nat} {D : Nat → Prop} (h : SR W m b v th most w next made cs n D) (a : Nat) (ha : a < 18446744073709551616) (h1 : made < 1099511627776) (h2 : n < 1099511627776) :
    Calls Try.prog 75 #[.pointer (some ⟨v, 0, none⟩), .int .u64 (a : Int)] w fun e w' => e = .returned (.int .u64 (cellN cs a : Int)) ∧ SR W m b v th most w' next (made + 1) cs (n + 1) D ∧ ∀ k, D k → w'.heap[k]? = w.heap[k]? := by
  obtain ⟨F, l, S, L, A⟩ := h
  refine (v_load v b most next made th a F cs l w S.view S.bank S.nv h1 (by omega) ha).mono ?_
  rintro e w' ⟨rfl, F', vs, B, V, G⟩
  exact ⟨rfl, SR.goes S A G B V (by simp [L])⟩
theorem SR.cas {W : World} {m b v : Nat} {th : Int} {most : Nat} {w : World} {next made : Nat} {cs : List Nat} {n : Nat} {D : Nat → Prop} (h : SR W m b v th most w next made cs n D) (a old now : Nat) (ha : a < 18446744073709551616) (hn : now < 18446744073709551616) (h1 : made < 1099511627776) (h2 : n < 1099511627776) :
    Calls Try.prog 79 #[.pointer (some ⟨v, 0, none⟩), .int .u64 (a : Int), .int .u64 (old : Int), .int .u64 (now : Int)] w fun e w' => e = .returned (.bool (casOk most cs a old)) ∧ SR W m b v th most w' next (made + 1) (casN most cs a old now) (n + 1) D ∧ ∀ k, D k → w'.heap[k]? = w.heap[k]? := by
  obtain ⟨F, l, S, L, A⟩ := h
  refine (v_cas v b most next made th a old now F cs l w S.view S.bank S.nv h1 (by omega) ha hn).mono ?_
  rintro e w' ⟨rfl, F', vs, B, V, G⟩
  exact ⟨rfl, SR.goes S A G B V (by simp [L])⟩
theorem SR.aloc {W : World} {m b v : Nat} {th : Int} {most : Nat} {w : World} {next made : Nat} {cs : List Nat} {n : Nat} {D : Nat → Prop} (h : SR W m b v th most w next made cs n D) (vals : List Nat) (g c : Nat) (hg : w.heap.size = g) (hv : ∀ x ∈ vals, x < 18446744073709551616) (hvl : vals.length ≤ 17592186043904) (h1 : made < 1099511627776) (h2 : n < 1099511627776) :
    Calls Try.prog 23 #[.pointer (some ⟨v, 0, none⟩), .slice (some ⟨g, 0, none⟩) vals.length c] (w.alloc (.cells (vals.map u64V).toArray 27)) fun e w' => e = .returned (.int .u64 (alAt most next vals.length : Int)) ∧ SR W m b v th most w' (alNext most next vals.length) (made + 1) (alN most next cs vals) (n + 1) D ∧ ∀ k, D k → w'.heap[k]? = w.heap[k]? := by
  obtain ⟨F, l, S, L, A⟩ := h
  have S2 := S.chg' ((Chg.refl (fun _ => False) w).alloc (.cells (vals.map u64V).toArray 27))
  have z1 := S.view.lt
  refine (v_alloc v b most next made th (some ⟨g, 0, none⟩) c vals F cs l _ S2.view S2.bank S2.nv h1 (by omega) (reads_new w vals g hg) (fun ad e _ => by cases e; exact fun y => by have := S.bank.lt' _ y; simp only [] at this; omega) (fun ad e _ => by cases e; exact fun y => by simp only [] at y; omega) hv hvl).mono ?_
  rintro e w' ⟨rfl, F', vs, B, V, G⟩
  have A2 : ∀ k, D k → ¬ F k ∧ k ≠ v ∧ k ≠ m ∧ W.heap.size ≤ k ∧ k < (w.alloc (.cells (vals.map u64V).toArray 27)).heap.size := fun k e => ⟨(A k e).1, (A k e).2.1, (A k e).2.2.1, (A k e).2.2.2.1, by have := (A k e).2.2.2.2; simp; omega⟩
  have z := SR.goes (n := n + 1) S2 A2 G B V (by simp [L])
  exact ⟨rfl, z.1, fun k hk => (z.2 k hk).trans (Below.heap_alloc _ _ _ (A k hk).2.2.2.2)⟩
theorem SR.now {W : World} {m b v : Nat} {th : Int} {most : Nat} {w : World} {next made : Nat} {cs : List Nat} {n : Nat} {D : Nat → Prop} (h : SR W m b v th most w next made cs n D) (q cam st : Nat) (hq : IsNow w q cam 0 st) (hD : D q) (ha : cam < 18446744073709551616) (h1 : made < 1099511627776) (h2 : n < 1099511627776) :
    Calls Try.prog 78 #[.pointer (some ⟨q, 0, none⟩), .pointer (some ⟨v, 0, none⟩)] w fun e w' => e = .returned (.bool true) ∧ IsNow w' q cam 2 (cellN cs cam) ∧ SR W m b v th most w' next (made + 1) cs (n + 1) D ∧ ∀ k, D k → k ≠ q → w'.heap[k]? = w.heap[k]? := by
  obtain ⟨F, l, S, L, A⟩ := h
  refine (n_step q v b most next made cam st th F cs l w hq S.view S.bank S.nv (A q hD).1 (A q hD).2.1 h1 (by omega) ha).mono ?_
  rintro e w' ⟨rfl, N, F', vs, B, V, G⟩
  refine ⟨rfl, N, ⟨F', _, ⟨B, V, S.mem.chg G.chg (fun e => e.elim (fun e => e.elim S.nm S.mv) (fun e => (A q hD).2.2.1 e.symm)), fun x => (G.new v x).elim S.nv (fun y => by have := S.view.lt; omega), fun x => (G.new m x).elim S.nm (fun y => by have := S.mem.lt; omega), S.mv, fun k e => (G.new k e).elim (S.inF k) (fun e => Nat.le_trans S.chg.size e), S.hv, S.chg.trans G.chg (fun _ _ x => x) (fun i hi x => x.elim (fun x => x.elim (fun y => by have := S.inF i y; omega) (fun y => by have := S.hv; omega)) (fun y => by have := (A q hD).2.2.2.1; omega))⟩, by simp [L], fun k hk => ⟨fun x => (G.new k x).elim (A k hk).1 (fun y => by have := (A k hk).2.2.2.2; omega), (A k hk).2.1, (A k hk).2.2.1, (A k hk).2.2.2.1, Nat.lt_of_lt_of_le (A k hk).2.2.2.2 G.chg.size⟩⟩, fun k hk hne => G.chg.block k (A k hk).2.2.2.2 (fun e => e.elim (fun e => e.elim (A k hk).1 (A k hk).2.1) hne)⟩
end Go.Proofs.Ytadbgmcfjemkeaa
