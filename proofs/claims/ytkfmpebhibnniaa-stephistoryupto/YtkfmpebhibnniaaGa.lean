/- Runs of procs of any kind: a memory with one view, its accesses; what a kind of procs is. -/
import Derived.Test.YtkfmpebhibnniaaSPickIn
import Derived.Test.YtkfmpebhibnniaaSNew
namespace Go.Proofs.Ytkfmpebhibnniaa
open Go.RowKit Go.Shelf
set_option linter.unusedVariables false

def Acc.bare (a : Acc) : Acc := { a with vs := .slice none 0 0 }
theorem Bank.ltF {W : World} {F : Nat → Prop} {b most next : Nat} {cs : List Nat} {l : List Acc} (h : Bank W F b most next cs l) (k : Nat) (hk : F k) : k < W.heap.size := by
  obtain ⟨cv, av, h⟩ := h
  exact h.lt k hk
theorem Bank.cells {W : World} {F : Nat → Prop} {b most next : Nat} {cs : List Nat} {l : List Acc} (h : Bank W F b most next cs l) (i : Nat) : cellN cs i < 18446744073709551616 := by
  obtain ⟨cv, av, h⟩ := h
  unfold cellN
  by_cases c : i < cs.length
  · rw [List.getD_eq_getElem?_getD, List.getElem?_eq_getElem c]
    exact h.small _ (List.getElem_mem c)
  · rw [List.getD_eq_getElem?_getD, List.getElem?_eq_none (by omega)]
    simp
theorem reads_newG (W : World) (vals : List Nat) (g : Nat) (hg : W.heap.size = g) : Reads (W.alloc (.cells (vals.map u64V).toArray 51)) (some ⟨g, 0, none⟩) vals :=
  .inr ⟨_, rfl, fun j u hj => cells_new W g hg (vals.map u64V).toArray 51 j u (by simpa using hj)⟩

/-- A memory with one view, since X0: what has changed lies in F0, the view or D0; what F and D have besides is new. -/
structure AS (X0 X : World) (F0 D0 F D : Nat → Prop) (b v most next : Nat) (th : Int) (made : Nat) (cs : List Nat) (t : List Acc) : Prop where
  bank : ∃ l, Bank X F b most next cs l ∧ l.map Acc.bare = t
  view : IsView X v b th made
  nv : ¬ F v
  dis : ∀ k, D k → ¬ F k ∧ k ≠ v ∧ k < X.heap.size
  chg : Chg (fun k => F0 k ∨ k = v ∨ D0 k) X0 X
  newF : ∀ k, F k → F0 k ∨ X0.heap.size ≤ k
  newD : ∀ k, D k → D0 k ∨ X0.heap.size ≤ k
section
variable {X0 X : World} {F0 D0 F D : Nat → Prop} {b v most next : Nat} {th : Int} {made : Nat} {cs : List Nat} {t : List Acc}
theorem AS.small (h : AS X0 X F0 D0 F D b v most next th made cs t) (i : Nat) : cellN cs i < 18446744073709551616 := by
  obtain ⟨l, B, _⟩ := h.bank
  exact B.cells i
theorem AS.goes {Y : World} {F' : Nat → Prop} {next' made' : Nat} {cs' : List Nat} {l' t' : List Acc} (h : AS X0 X F0 D0 F D b v most next th made cs t) (B : Bank Y F' b most next' cs' l') (V : IsView Y v b th made') (G : GoesV X Y F F' v) (hl : l'.map Acc.bare = t') :
    AS X0 Y F0 D0 F' D b v most next' th made' cs' t' ∧ ∀ k, D k → Y.heap[k]? = X.heap[k]? := by
  obtain ⟨l, B0, _⟩ := h.bank
  have sz := h.chg.size
  refine ⟨⟨⟨l', B, hl⟩, V, fun x => (G.new v x).elim h.nv (fun y => by have := lt_of h.view; omega), fun k hk => ⟨fun x => (G.new k x).elim (h.dis k hk).1 (fun y => by have := (h.dis k hk).2.2; omega), (h.dis k hk).2.1, Nat.lt_of_lt_of_le (h.dis k hk).2.2 G.chg.size⟩,
    h.chg.trans G.chg (fun _ _ x => x) (fun i hi x => x.elim (fun y => (h.newF i y).elim .inl (fun z => by omega)) (fun y => .inr (.inl y))), fun k x => (G.new k x).elim (h.newF k) (fun y => .inr (by omega)), h.newD⟩, fun k hk => G.chg.block k (h.dis k hk).2.2 (fun e => e.elim (h.dis k hk).1 (h.dis k hk).2.1)⟩
theorem AS.load (h : AS X0 X F0 D0 F D b v most next th made cs t) (a : Nat) (ha : a < 18446744073709551616) (h1 : made < 1099511627776) (h2 : t.length < 1099511627776) :
    Calls Try.prog 83 #[.pointer (some ⟨v, 0, none⟩), .int .u64 (a : Int)] X fun e Y => e = .returned (.int .u64 (cellN cs a : Int)) ∧ ∃ F', AS X0 Y F0 D0 F' D b v most next th (made + 1) cs (t ++ [⟨th, 1, a, 0, 0, .slice none 0 0, [], cellN cs a, false⟩]) ∧ ∀ k, D k → Y.heap[k]? = X.heap[k]? := by
  obtain ⟨l, B, L⟩ := h.bank
  have hl : l.length = t.length := by rw [← L]; simp
  refine (v_load v b most next made th a F cs l X h.view B h.nv h1 (by omega) ha).mono ?_
  rintro e Y ⟨rfl, F', vs, B', V', G⟩
  exact ⟨rfl, F', h.goes B' V' G (by simp [L, Acc.bare])⟩
theorem AS.store (h : AS X0 X F0 D0 F D b v most next th made cs t) (a x : Nat) (ha : a < 18446744073709551616) (hx : x < 18446744073709551616) (h1 : made < 1099511627776) (h2 : t.length < 1099511627776) :
    Calls Try.prog 43 #[.pointer (some ⟨v, 0, none⟩), .int .u64 (a : Int), .int .u64 (x : Int)] X fun e Y => e = .returned (.tuple #[]) ∧ ∃ F', AS X0 Y F0 D0 F' D b v most next th (made + 1) (stN most cs a x) (t ++ [⟨th, 2, a, x, 0, .slice none 0 0, [], 0, false⟩]) ∧ ∀ k, D k → Y.heap[k]? = X.heap[k]? := by
  obtain ⟨l, B, L⟩ := h.bank
  have hl : l.length = t.length := by rw [← L]; simp
  refine (v_store v b most next made th a x F cs l X h.view B h.nv h1 (by omega) ha hx).mono ?_
  rintro e Y ⟨rfl, F', vs, B', V', G⟩
  exact ⟨rfl, F', h.goes B' V' G (by simp [L, Acc.bare])⟩
theorem AS.cas (h : AS X0 X F0 D0 F D b v most next th made cs t) (a old now : Nat) (ha : a < 18446744073709551616) (hx : now < 18446744073709551616) (h1 : made < 1099511627776) (h2 : t.length < 1099511627776) :
    Calls Try.prog 84 #[.pointer (some ⟨v, 0, none⟩), .int .u64 (a : Int), .int .u64 (old : Int), .int .u64 (now : Int)] X fun e Y => e = .returned (.bool (casOk most cs a old)) ∧ ∃ F', AS X0 Y F0 D0 F' D b v most next th (made + 1) (casN most cs a old now) (t ++ [⟨th, 3, a, old, now, .slice none 0 0, [], 0, casOk most cs a old⟩]) ∧ ∀ k, D k → Y.heap[k]? = X.heap[k]? := by
  obtain ⟨l, B, L⟩ := h.bank
  have hl : l.length = t.length := by rw [← L]; simp
  refine (v_cas v b most next made th a old now F cs l X h.view B h.nv h1 (by omega) ha hx).mono ?_
  rintro e Y ⟨rfl, F', vs, B', V', G⟩
  exact ⟨rfl, F', h.goes B' V' G (by simp [L, Acc.bare])⟩
/-- What is changed or made of one's own. -/
theorem AS.own {Y : World} {D' : Nat → Prop} (h : AS X0 X F0 D0 F D b v most next th made cs t) (c : Chg D X Y) (hD : ∀ k, D' k → D k ∨ X.heap.size ≤ k) (hl : ∀ k, D' k → k < Y.heap.size) : AS X0 Y F0 D0 F D' b v most next th made cs t := by
  obtain ⟨l, B, L⟩ := h.bank
  have sz := h.chg.size
  have vl := lt_of h.view
  refine ⟨⟨l, B.chg c (fun k hk e => (h.dis k e).1 hk), L⟩, h.view.chg c (fun e => (h.dis v e).2.1 rfl), h.nv, fun k hk => ?_, h.chg.trans c (fun _ _ x => x) (fun i hi x => (h.newD i x).elim (fun y => .inr (.inr y)) (fun y => by omega)), h.newF, fun k hk => (hD k hk).elim (h.newD k) (fun y => .inr (by omega))⟩
  rcases hD k hk with e | e
  · exact ⟨(h.dis k e).1, (h.dis k e).2.1, hl k hk⟩
  · exact ⟨fun x => by have := B.ltF k x; omega, by omega, hl k hk⟩
theorem AS.put {Y : World} (h : AS X0 X F0 D0 F D b v most next th made cs t) (c : Chg D X Y) : AS X0 Y F0 D0 F D b v most next th made cs t :=
  h.own c (fun k e => .inl e) (fun k e => Nat.lt_of_lt_of_le (h.dis k e).2.2 c.size)
theorem AS.less {D' : Nat → Prop} (h : AS X0 X F0 D0 F D b v most next th made cs t) (hD : ∀ k, D' k → D k) : AS X0 X F0 D0 F D' b v most next th made cs t :=
  ⟨h.bank, h.view, h.nv, fun k e => h.dis k (hD k e), h.chg, h.newF, fun k e => h.newD k (hD k e)⟩
theorem AS.aloc (h : AS X0 X F0 D0 F D b v most next th made cs t) (vals : List Nat) (g c : Nat) (hg : X.heap.size = g) (hv : ∀ x ∈ vals, x < 18446744073709551616) (hvl : vals.length ≤ 17592186043904) (h1 : made < 1099511627776) (h2 : t.length < 1099511627776) :
    Calls Try.prog 86 #[.pointer (some ⟨v, 0, none⟩), .slice (some ⟨g, 0, none⟩) vals.length c] (X.alloc (.cells (vals.map u64V).toArray 51)) fun e Y => e = .returned (.int .u64 (alAt most next vals.length : Int)) ∧ ∃ F', AS X0 Y F0 D0 F' D b v most (alNext most next vals.length) th (made + 1) (alN most next cs vals) (t ++ [⟨th, 5, alAt most next vals.length, 0, 0, .slice none 0 0, vals, 0, false⟩]) ∧ ∀ k, D k → Y.heap[k]? = X.heap[k]? := by
  obtain ⟨l, B, L⟩ := h.bank
  have hl : l.length = t.length := by rw [← L]; simp
  have c : Chg (fun _ => False) X (X.alloc (.cells (vals.map u64V).toArray 51)) := (Chg.refl _ _).alloc _
  have h2' := h.own (Y := X.alloc (.cells (vals.map u64V).toArray 51)) (D' := D) (c.mono (fun _ _ x => x.elim)) (fun k e => .inl e) (fun k e => Nat.lt_of_lt_of_le (h.dis k e).2.2 c.size)
  have vl := lt_of h.view
  refine (v_alloc v b most next made th (some ⟨g, 0, none⟩) _ vals F cs l _ h2'.view (B.chg c (fun _ _ x => x)) h.nv h1 (by omega) (reads_newG X vals g hg) (fun ad e _ => by cases e; exact fun y => by have := B.ltF _ y; simp only [] at this; omega) (fun ad e _ => by cases e; exact fun y => by simp only [] at y; omega) hv hvl).mono ?_
  rintro e Y ⟨rfl, F', vs, B', V', G⟩
  have z := h2'.goes (t' := t ++ [⟨th, 5, alAt most next vals.length, 0, 0, .slice none 0 0, vals, 0, false⟩]) B' V' G (by simp [L, Acc.bare])
  exact ⟨rfl, F', z.1, fun k hk => (z.2 k hk).trans (Below.heap_alloc _ _ _ (h.dis k hk).2.2)⟩
end

/-- What a step of a proc comes to: is it done, the cells that were handed out, the cells, the accesses, the proc. -/
structure Out (P : Type) where
  done : Bool
  next : Nat
  cs : List Nat
  acc : List Acc
  s : P
/-- A kind of procs: what lies in memory of one, and what a step of it does. -/
structure Kind (P : Type) where
  H : World → (Nat → Prop) → Value → P → Prop
  ok : Nat → P → Prop
  stp : Int → Nat → Nat → List Nat → P → Out P
  kept : ∀ {X Y : World} {D : Nat → Prop} {pv : Value} {s : P}, H X D pv s → (∀ k, D k → Y.heap[k]? = X.heap[k]?) → H Y D pv s
  lt : ∀ {X : World} {D : Nat → Prop} {pv : Value} {s : P} {k : Nat}, H X D pv s → D k → k < X.heap.size
  few : ∀ th most next cs s, (stp th most next cs s).acc.length ≤ 1
  okM : ∀ n n' s, n ≤ n' → ok n s → ok n' s
  okS : ∀ n th most next cs s, ok n s → (∀ i, cellN cs i < 18446744073709551616) → most ≤ 4194304 → (stp th most next cs s).done = false → ok (n + 1) (stp th most next cs s).s
  step : ∀ (n : Nat) (X : World) (F D : Nat → Prop) (b v most next : Nat) (th : Int) (made : Nat) (cs : List Nat) (t : List Acc) (pv : Value) (s : P), AS X X F D F D b v most next th made cs t → H X D pv s → ok n s → n < 500000000 → made < 549755813888 → t.length < 549755813888 →
    Calls Try.prog 37 #[pv, .pointer (some ⟨v, 0, none⟩)] X fun e Y => e = .returned (.bool (stp th most next cs s).done) ∧ ∃ F' D' made', AS X Y F D F' D' b v most (stp th most next cs s).next th made' (stp th most next cs s).cs (t ++ (stp th most next cs s).acc) ∧ made' ≤ made + 1 ∧ H Y D' pv (stp th most next cs s).s
end Go.Proofs.Ytkfmpebhibnniaa
