/- Threads of procs are built, row by row, and what the law keeps of them beside; a run's start. -/
import Derived.Test.YtadbgmcfjemkeaaGy
namespace Go.Proofs.Ytadbgmcfjemkeaa
open Go.RowKit Go.Shelf
set_option linter.unusedVariables false

theorem range_map_upd {α : Type} (f : Nat → α) (i n : Nat) (x : α) (h : n ≤ i) : (List.range n).map (updN f i x) = (List.range n).map f := by
  apply List.map_congr_left
  intro j hj
  have := List.mem_range.1 hj
  exact updN_other _ _ _ _ (by omega)
def prRow (f : Nat → Value) : Nat → List Value
  | 0 => []
  | k + 1 => prRow f k ++ prOf (f k)
theorem prRow_upd (f : Nat → Value) (i n : Nat) (x : Value) (h : n ≤ i) : prRow (updN f i x) n = prRow f n := by
  induction n with
  | zero => rfl
  | succ n ih => simp only [prRow]; rw [ih (by omega), updN_other _ _ _ _ (by omega)]
inductive BT where
  | none : BT
  | o1 : BT
  | o2 : BT
  | r1 : Nat → BT
  | r2 : Nat → BT
  | d : Nat → Nat → BT
structure BL (W X : World) (R n n2 : Nat) (tv sv : Value) (rv qv : Nat → Value) (rm qm cl : Nat → Nat) (pv : Nat → Nat → Value) (σ : Nat → Nat → VP) (D : Nat → Nat → Nat → Prop) (tg : Nat → BT) : Prop where
  outer : X.ownsRow 0 77 1 tv n ((List.range n).map rv)
  outer2 : X.ownsRow 0 47 1 sv n2 ((List.range n2).map qv)
  inner : ∀ i, i < R → X.ownsRow 0 79 1 (rv i) (rm i) ((List.range (rm i)).map (pv i))
  inner2 : ∀ i, i < R → X.ownsRow 0 58 6 (qv i) (qm i) (prRow (pv i) (qm i))
  one : ∀ i j, i < R → j < cl i → (pv i j).oneCell' = true
  le : ∀ i, i < R → rm i ≤ cl i ∧ qm i ≤ cl i
  pr : ∀ i j, i < R → j < cl i → vcK.H X (D i j) (pv i j) (σ i j)
  tO : ∀ k, tv.ownBlock = some k → W.heap.size ≤ k ∧ tg k = .o1
  tO2 : ∀ k, sv.ownBlock = some k → W.heap.size ≤ k ∧ tg k = .o2
  tR : ∀ i k, i < R → (rv i).ownBlock = some k → W.heap.size ≤ k ∧ tg k = .r1 i
  tR2 : ∀ i k, i < R → (qv i).ownBlock = some k → W.heap.size ≤ k ∧ tg k = .r2 i
  tD : ∀ i j k, i < R → j < cl i → D i j k → W.heap.size ≤ k ∧ tg k = .d i j
  chg : Chg (fun _ => False) W X
section
variable {W X Y Z : World} {R n n2 : Nat} {tv sv : Value} {rv qv : Nat → Value} {rm qm cl : Nat → Nat} {pv : Nat → Nat → Value} {σ : Nat → Nat → VP} {D : Nat → Nat → Nat → Prop} {tg : Nat → BT}
theorem BL.start (W : World) (rv qv : Nat → Value) (rm qm cl : Nat → Nat) (pv : Nat → Nat → Value) (σ : Nat → Nat → VP) (D : Nat → Nat → Nat → Prop) (tg : Nat → BT) : BL W W 0 0 0 (.slice none 0 0) (.slice none 0 0) rv qv rm qm cl pv σ D tg :=
  ⟨World.ownsRow_nil _ _ _ _, World.ownsRow_nil _ _ _ _, fun i hi => by omega, fun i hi => by omega, fun i j hi => by omega, fun i hi => by omega, fun i j hi => by omega, fun k e => by simp [Value.ownBlock] at e, fun k e => by simp [Value.ownBlock] at e, fun i k hi => by omega, fun i k hi => by omega, fun i j k hi => by omega, Chg.refl _ _⟩
/-- A change that touches no block of a kind of tags. -/
theorem BL.change (h : BL W X R n n2 tv sv rv qv rm qm cl pv σ D tg) {G : Nat → Prop} (c : Chg G X Y) (t : BT) (ht : ∀ k, G k → W.heap.size ≤ k ∧ k < X.heap.size → tg k = t) (hG : ∀ k, k < X.heap.size → G k → W.heap.size ≤ k) :
    (t ≠ .o1 → Y.ownsRow 0 77 1 tv n ((List.range n).map rv)) ∧ (t ≠ .o2 → Y.ownsRow 0 47 1 sv n2 ((List.range n2).map qv)) ∧ (∀ i, i < R → t ≠ .r1 i → Y.ownsRow 0 79 1 (rv i) (rm i) ((List.range (rm i)).map (pv i))) ∧ (∀ i, i < R → t ≠ .r2 i → Y.ownsRow 0 58 6 (qv i) (qm i) (prRow (pv i) (qm i))) ∧ (∀ i j, i < R → j < cl i → t ≠ .d i j → vcK.H Y (D i j) (pv i j) (σ i j)) ∧ Chg (fun _ => False) W Y := by
  have sz := h.chg.size
  have ne : ∀ k, k < X.heap.size → tg k ≠ t → ¬ G k := fun k hk z e => z (ht k e ⟨hG k hk e, hk⟩)
  refine ⟨fun z => row_kept h.outer fun k e => c.block k (row_lt h.outer k e) (ne k (row_lt h.outer k e) (by rw [(h.tO k e).2]; exact fun y => z y.symm)), fun z => row_kept h.outer2 fun k e => c.block k (row_lt h.outer2 k e) (ne k (row_lt h.outer2 k e) (by rw [(h.tO2 k e).2]; exact fun y => z y.symm)), fun i hi z => row_kept (h.inner i hi) fun k e => c.block k (row_lt (h.inner i hi) k e) (ne k (row_lt (h.inner i hi) k e) (by rw [(h.tR i k hi e).2]; exact fun y => z y.symm)), fun i hi z => row_kept (h.inner2 i hi) fun k e => c.block k (row_lt (h.inner2 i hi) k e) (ne k (row_lt (h.inner2 i hi) k e) (by rw [(h.tR2 i k hi e).2]; exact fun y => z y.symm)), fun i j hi hj z => vcK.kept (h.pr i j hi hj) (fun k e => c.block k (vcK.lt (h.pr i j hi hj) e) (ne k (vcK.lt (h.pr i j hi hj) e) (by rw [(h.tD i j k hi hj e).2]; exact fun y => z y.symm))), h.chg.trans c (fun _ _ x => x) (fun i hi e => by have := hG i (by omega) e; omega)⟩
theorem BL.quiet (h : BL W X R n n2 tv sv rv qv rm qm cl pv σ D tg) (c : Chg (fun _ => False) X Y) : BL W Y R n n2 tv sv rv qv rm qm cl pv σ D tg := by
  obtain ⟨a1, a2, a3, a4, a5, a6⟩ := h.change c .none (fun _ e => e.elim) (fun _ _ e => e.elim)
  exact ⟨a1 (by simp), a2 (by simp), fun i hi => a3 i hi (by simp), fun i hi => a4 i hi (by simp), h.one, h.le, fun i j hi hj => a5 i j hi hj (by simp), h.tO, h.tO2, h.tR, h.tR2, h.tD, a6⟩
theorem BL.row (h : BL W X R n n2 tv sv rv qv rm qm cl pv σ D tg) (hn : n ≤ R) (hn2 : n2 ≤ R) : BL W X (R + 1) n n2 tv sv (updN rv R (.slice none 0 0)) (updN qv R (.slice none 0 0)) (updN rm R 0) (updN qm R 0) (updN cl R 0) pv σ D tg := by
  have o : ∀ {i}, i < R + 1 → i ≠ R → i < R := fun h1 h2 => by omega
  refine ⟨by rw [range_map_upd _ _ _ _ hn]; exact h.outer, by rw [range_map_upd _ _ _ _ hn2]; exact h.outer2, fun i hi => ?_, fun i hi => ?_, fun i j hi hj => ?_, fun i hi => ?_, fun i j hi hj => ?_, h.tO, h.tO2, fun i k hi e => ?_, fun i k hi e => ?_, fun i j k hi hj e => ?_, h.chg⟩ <;> by_cases c : i = R
  · subst c; rw [updN_same, updN_same]; exact World.ownsRow_nil _ _ _ _
  · rw [updN_other _ _ _ _ c, updN_other _ _ _ _ c]; exact h.inner i (o hi c)
  · subst c; rw [updN_same, updN_same]; exact World.ownsRow_nil _ _ _ _
  · rw [updN_other _ _ _ _ c, updN_other _ _ _ _ c]; exact h.inner2 i (o hi c)
  · subst c; rw [updN_same] at hj; omega
  · rw [updN_other _ _ _ _ c] at hj; exact h.one i j (o hi c) hj
  · subst c; rw [updN_same, updN_same, updN_same]; omega
  · rw [updN_other _ _ _ _ c, updN_other _ _ _ _ c, updN_other _ _ _ _ c]; exact h.le i (o hi c)
  · subst c; rw [updN_same] at hj; omega
  · rw [updN_other _ _ _ _ c] at hj; exact h.pr i j (o hi c) hj
  · subst c; rw [updN_same] at e; simp [Value.ownBlock] at e
  · rw [updN_other _ _ _ _ c] at e; exact h.tR i k (o hi c) e
  · subst c; rw [updN_same] at e; simp [Value.ownBlock] at e
  · rw [updN_other _ _ _ _ c] at e; exact h.tR2 i k (o hi c) e
  · subst c; rw [updN_same] at hj; omega
  · rw [updN_other _ _ _ _ c] at hj; exact h.tD i j k (o hi c) hj e
/-- New blocks of one tag: what was there keeps its own. -/
theorem BL.tags (h : BL W X R n n2 tv sv rv qv rm qm cl pv σ D tg) (t : BT) : (∀ k, tv.ownBlock = some k → (if k < X.heap.size then tg k else t) = .o1) ∧ (∀ k, sv.ownBlock = some k → (if k < X.heap.size then tg k else t) = .o2) ∧ (∀ i k, i < R → (rv i).ownBlock = some k → (if k < X.heap.size then tg k else t) = .r1 i) ∧ (∀ i k, i < R → (qv i).ownBlock = some k → (if k < X.heap.size then tg k else t) = .r2 i) ∧ (∀ i j k, i < R → j < cl i → D i j k → (if k < X.heap.size then tg k else t) = .d i j) :=
  ⟨fun k e => by rw [if_pos (row_lt h.outer k e)]; exact (h.tO k e).2, fun k e => by rw [if_pos (row_lt h.outer2 k e)]; exact (h.tO2 k e).2, fun i k hi e => by rw [if_pos (row_lt (h.inner i hi) k e)]; exact (h.tR i k hi e).2, fun i k hi e => by rw [if_pos (row_lt (h.inner2 i hi) k e)]; exact (h.tR2 i k hi e).2, fun i j k hi hj e => by rw [if_pos (vcK.lt (h.pr i j hi hj) e)]; exact (h.tD i j k hi hj e).2⟩
theorem BL.proc (h : BL W X R n n2 tv sv rv qv rm qm cl pv σ D tg) (i : Nat) (hi : i < R) {pw : Value} {s : VP} {Dn : Nat → Prop} (P : PNew X Y pw s Dn) :
    BL W Y R n n2 tv sv rv qv rm qm (updN cl i (cl i + 1)) (updN pv i (updN (pv i) (cl i) pw)) (updN σ i (updN (σ i) (cl i) s)) (updN D i (updN (D i) (cl i) Dn)) (fun k => if k < X.heap.size then tg k else .d i (cl i)) := by
  have q := h.quiet P.chg
  have sz := h.chg.size
  obtain ⟨b1, b2, b3, b4, b5⟩ := h.tags (.d i (cl i))
  refine ⟨q.outer, q.outer2, fun j hj => ?_, fun j hj => ?_, fun j m hj hm => ?_, fun j hj => ?_, fun j m hj hm => ?_, fun k e => ⟨(h.tO k e).1, b1 k e⟩, fun k e => ⟨(h.tO2 k e).1, b2 k e⟩, fun j k hj e => ⟨(h.tR j k hj e).1, b3 j k hj e⟩, fun j k hj e => ⟨(h.tR2 j k hj e).1, b4 j k hj e⟩, fun j m k hj hm e => ?_, q.chg⟩ <;> by_cases c : j = i
  · subst c
    rw [updN_same, range_map_upd _ _ _ _ (h.le j hj).1]
    exact q.inner j hj
  · rw [updN_other _ _ _ _ c]; exact q.inner j hj
  · subst c
    rw [updN_same, prRow_upd _ _ _ _ (h.le j hj).2]
    exact q.inner2 j hj
  · rw [updN_other _ _ _ _ c]; exact q.inner2 j hj
  · subst c
    rw [updN_same] at hm ⊢
    by_cases c2 : m = cl j
    · subst c2; rw [updN_same]; exact P.one
    · rw [updN_other _ _ _ _ c2]; exact h.one j m hj (by omega)
  · rw [updN_other _ _ _ _ c] at hm ⊢; exact h.one j m hj hm
  · subst c; rw [updN_same]; have := h.le j hj; omega
  · rw [updN_other _ _ _ _ c]; exact h.le j hj
  · subst c
    rw [updN_same] at hm
    rw [updN_same, updN_same, updN_same]
    by_cases c2 : m = cl j
    · subst c2; rw [updN_same, updN_same, updN_same]; exact P.h
    · rw [updN_other _ _ _ _ c2, updN_other _ _ _ _ c2, updN_other _ _ _ _ c2]; exact q.pr j m hj (by omega)
  · rw [updN_other _ _ _ _ c] at hm
    rw [updN_other _ _ _ _ c, updN_other _ _ _ _ c, updN_other _ _ _ _ c]; exact q.pr j m hj hm
  · subst c
    rw [updN_same] at hm e
    by_cases c2 : m = cl j
    · subst c2
      rw [updN_same] at e
      have := P.new k e
      exact ⟨by omega, by simp only [if_neg (show ¬ k < X.heap.size by omega)]⟩
    · rw [updN_other _ _ _ _ c2] at e
      exact ⟨(h.tD j m k hj (by omega) e).1, b5 j m k hj (by omega) e⟩
  · rw [updN_other _ _ _ _ c] at hm e
    exact ⟨(h.tD j m k hj hm e).1, b5 j m k hj hm e⟩
theorem grow_chg {v : Value} {ob : Obj} (hg : (X.alloc ob).grownBy Z v.ownBlock) : Chg (fun k => v.ownBlock = some k) X Z := ((Chg.refl (fun k => v.ownBlock = some k) X).alloc ob).grown hg (fun k e _ => e)
theorem BL.rowApp (h : BL W X R n n2 tv sv rv qv rm qm cl pv σ D tg) (i : Nat) (hi : i < R) (hn : n ≤ i) (hlt : rm i < cl i) {ob : Obj} {v' : Value} (hr : Z.ownsRow 0 79 1 v' (rm i + 1) ((List.range (rm i)).map (pv i) ++ [pv i (rm i)])) (hg : (X.alloc ob).grownBy Z (rv i).ownBlock) (ho : ∀ k, v'.ownBlock = some k → (rv i).ownBlock = some k ∨ X.heap.size ≤ k) :
    BL W Z R n n2 tv sv (updN rv i v') qv (updN rm i (rm i + 1)) qm cl pv σ D (fun k => if k < X.heap.size then tg k else .r1 i) := by
  obtain ⟨a1, a2, a3, a4, a5, a6⟩ := h.change (grow_chg hg) (.r1 i) (fun k e _ => (h.tR i k hi e).2) (fun k _ e => (h.tR i k hi e).1)
  obtain ⟨b1, b2, b3, b4, b5⟩ := h.tags (.r1 i)
  have sz := h.chg.size
  refine ⟨by rw [range_map_upd _ _ _ _ hn]; exact a1 (by simp), a2 (by simp), fun j hj => ?_, fun j hj => a4 j hj (by simp), h.one, fun j hj => ?_, fun j m hj hm => a5 j m hj hm (by simp), fun k e => ⟨(h.tO k e).1, b1 k e⟩, fun k e => ⟨(h.tO2 k e).1, b2 k e⟩, fun j k hj e => ?_, fun j k hj e => ⟨(h.tR2 j k hj e).1, b4 j k hj e⟩, fun j m k hj hm e => ⟨(h.tD j m k hj hm e).1, b5 j m k hj hm e⟩, a6⟩ <;> by_cases c : j = i
  · subst c
    rw [updN_same, updN_same, List.range_succ, List.map_append]
    exact hr
  · rw [updN_other _ _ _ _ c, updN_other _ _ _ _ c]
    exact a3 j hj (by simpa using fun y => c y.symm)
  · subst c; rw [updN_same]; have := h.le j hj; omega
  · rw [updN_other _ _ _ _ c]; exact h.le j hj
  · subst c
    rw [updN_same] at e
    rcases ho k e with z | z
    · exact ⟨(h.tR j k hj z).1, b3 j k hj z⟩
    · exact ⟨by omega, by simp only [if_neg (show ¬ k < X.heap.size by omega)]⟩
  · rw [updN_other _ _ _ _ c] at e
    exact ⟨(h.tR j k hj e).1, b3 j k hj e⟩
theorem BL.rowApp2 (h : BL W X R n n2 tv sv rv qv rm qm cl pv σ D tg) (i : Nat) (hi : i < R) (hn : n2 ≤ i) (hlt : qm i < cl i) {ob : Obj} {v' : Value} (hr : Z.ownsRow 0 58 6 v' (qm i + 1) (prRow (pv i) (qm i) ++ prOf (pv i (qm i)))) (hg : (X.alloc ob).grownBy Z (qv i).ownBlock) (ho : ∀ k, v'.ownBlock = some k → (qv i).ownBlock = some k ∨ X.heap.size ≤ k) :
    BL W Z R n n2 tv sv rv (updN qv i v') rm (updN qm i (qm i + 1)) cl pv σ D (fun k => if k < X.heap.size then tg k else .r2 i) := by
  obtain ⟨a1, a2, a3, a4, a5, a6⟩ := h.change (grow_chg hg) (.r2 i) (fun k e _ => (h.tR2 i k hi e).2) (fun k _ e => (h.tR2 i k hi e).1)
  obtain ⟨b1, b2, b3, b4, b5⟩ := h.tags (.r2 i)
  have sz := h.chg.size
  refine ⟨a1 (by simp), by rw [range_map_upd _ _ _ _ hn]; exact a2 (by simp), fun j hj => a3 j hj (by simp), fun j hj => ?_, h.one, fun j hj => ?_, fun j m hj hm => a5 j m hj hm (by simp), fun k e => ⟨(h.tO k e).1, b1 k e⟩, fun k e => ⟨(h.tO2 k e).1, b2 k e⟩, fun j k hj e => ⟨(h.tR j k hj e).1, b3 j k hj e⟩, fun j k hj e => ?_, fun j m k hj hm e => ⟨(h.tD j m k hj hm e).1, b5 j m k hj hm e⟩, a6⟩ <;> by_cases c : j = i
  · subst c
    rw [updN_same, updN_same]
    exact hr
  · rw [updN_other _ _ _ _ c, updN_other _ _ _ _ c]
    exact a4 j hj (by simpa using fun y => c y.symm)
  · subst c; rw [updN_same]; have := h.le j hj; omega
  · rw [updN_other _ _ _ _ c]; exact h.le j hj
  · subst c
    rw [updN_same] at e
    rcases ho k e with z | z
    · exact ⟨(h.tR2 j k hj z).1, b4 j k hj z⟩
    · exact ⟨by omega, by simp only [if_neg (show ¬ k < X.heap.size by omega)]⟩
  · rw [updN_other _ _ _ _ c] at e
    exact ⟨(h.tR2 j k hj e).1, b4 j k hj e⟩
theorem BL.outApp (h : BL W X R n n2 tv sv rv qv rm qm cl pv σ D tg) {ob : Obj} {v' : Value} (hr : Z.ownsRow 0 77 1 v' (n + 1) ((List.range n).map rv ++ [rv n])) (hg : (X.alloc ob).grownBy Z tv.ownBlock) (ho : ∀ k, v'.ownBlock = some k → tv.ownBlock = some k ∨ X.heap.size ≤ k) :
    BL W Z R (n + 1) n2 v' sv rv qv rm qm cl pv σ D (fun k => if k < X.heap.size then tg k else .o1) := by
  obtain ⟨a1, a2, a3, a4, a5, a6⟩ := h.change (grow_chg hg) .o1 (fun k e _ => (h.tO k e).2) (fun k _ e => (h.tO k e).1)
  obtain ⟨b1, b2, b3, b4, b5⟩ := h.tags .o1
  have sz := h.chg.size
  refine ⟨by rw [List.range_succ, List.map_append]; exact hr, a2 (by simp), fun j hj => a3 j hj (by simp), fun j hj => a4 j hj (by simp), h.one, h.le, fun j m hj hm => a5 j m hj hm (by simp), fun k e => ?_, fun k e => ⟨(h.tO2 k e).1, b2 k e⟩, fun j k hj e => ⟨(h.tR j k hj e).1, b3 j k hj e⟩, fun j k hj e => ⟨(h.tR2 j k hj e).1, b4 j k hj e⟩, fun j m k hj hm e => ⟨(h.tD j m k hj hm e).1, b5 j m k hj hm e⟩, a6⟩
  rcases ho k e with z | z
  · exact ⟨(h.tO k z).1, b1 k z⟩
  · exact ⟨by omega, by simp only [if_neg (show ¬ k < X.heap.size by omega)]⟩
theorem BL.outApp2 (h : BL W X R n n2 tv sv rv qv rm qm cl pv σ D tg) {ob : Obj} {v' : Value} (hr : Z.ownsRow 0 47 1 v' (n2 + 1) ((List.range n2).map qv ++ [qv n2])) (hg : (X.alloc ob).grownBy Z sv.ownBlock) (ho : ∀ k, v'.ownBlock = some k → sv.ownBlock = some k ∨ X.heap.size ≤ k) :
    BL W Z R n (n2 + 1) tv v' rv qv rm qm cl pv σ D (fun k => if k < X.heap.size then tg k else .o2) := by
  obtain ⟨a1, a2, a3, a4, a5, a6⟩ := h.change (grow_chg hg) .o2 (fun k e _ => (h.tO2 k e).2) (fun k _ e => (h.tO2 k e).1)
  obtain ⟨b1, b2, b3, b4, b5⟩ := h.tags .o2
  have sz := h.chg.size
  refine ⟨a1 (by simp), by rw [List.range_succ, List.map_append]; exact hr, fun j hj => a3 j hj (by simp), fun j hj => a4 j hj (by simp), h.one, h.le, fun j m hj hm => a5 j m hj hm (by simp), fun k e => ⟨(h.tO k e).1, b1 k e⟩, fun k e => ?_, fun j k hj e => ⟨(h.tR j k hj e).1, b3 j k hj e⟩, fun j k hj e => ⟨(h.tR2 j k hj e).1, b4 j k hj e⟩, fun j m k hj hm e => ⟨(h.tD j m k hj hm e).1, b5 j m k hj hm e⟩, a6⟩
  rcases ho k e with z | z
  · exact ⟨(h.tO2 k z).1, b2 k z⟩
  · exact ⟨by omega, by simp only [if_neg (show ¬ k < X.heap.size by omega)]⟩
def tlOf (T : Nat) (rv : Nat → Value) (cl : Nat → Nat) (pv : Nat → Nat → Value) : List (Value × List Value) := (List.range T).map fun i => (rv i, (List.range (cl i)).map (pv i))
theorem BL.lists {T : Nat} (h : BL W X T T n2 tv sv rv qv rm qm cl pv σ D tg) (hm : ∀ i, i < T → rm i = cl i) : Lists X tv (tlOf T rv cl pv) := by
  refine ⟨?_, fun x hx => ?_, fun x hx u hu => ?_⟩
  · have e : (tlOf T rv cl pv).map Prod.fst = (List.range T).map rv := by simp [tlOf]
    rw [e, show (tlOf T rv cl pv).length = T by simp [tlOf]]
    exact h.outer
  · simp only [tlOf, List.mem_map, List.mem_range] at hx
    obtain ⟨i, hi, rfl⟩ := hx
    have := h.inner i hi
    rw [hm i hi] at this
    simpa using this
  · simp only [tlOf, List.mem_map, List.mem_range] at hx
    obtain ⟨i, hi, rfl⟩ := hx
    simp only [List.mem_map, List.mem_range] at hu
    obtain ⟨j, hj, rfl⟩ := hu
    exact h.one i j hi hj
end
def psS (T : Nat) (sv : Value) (qv : Nat → Value) : Nat → Prop := fun k => sv.ownBlock = some k ∨ ∃ i, i < T ∧ (qv i).ownBlock = some k
/-- The run's start. -/
theorem gl_start {W W3 X Y : World} {F G : Nat → Prop} {r m b T n2 next : Nat} {tv0 sv tv : Value} {rv qv : Nat → Value} {rm qm cl : Nat → Nat} {pv : Nat → Nat → Value} {σ : Nat → Nat → VP} {D : Nat → Nat → Nat → Prop} {tg : Nat → BT} {ths : List Thr} {vbs : List Nat} {cs : List Nat} {l : List Acc} (picks : List Int) (hC : Chg (fun _ => False) W W3) (hm : IsMem W3 m b) (hb : Bank W3 F b 16384 next cs l) (hll : l.length ≤ 16000000) (hF : ∀ k, F k → W.heap.size ≤ k) (hmW : W.heap.size ≤ m) (nm : ¬ F m)
    (B : BL W3 X T T n2 tv0 sv rv qv rm qm cl pv σ D tg) (M : Made X Y G r m b tv (tlOf T rv cl pv) ths vbs T) (hl : ths.length = T) (hok : ∀ i j, i < T → j < cl i → vcK.ok 0 (σ i j)) : GRun vcK 16384 m b T cl (fun j => vbs.getD j 0) pv ⟨next, cs, l.map Acc.bare, fun _ => 0, σ⟩ W Y Y (psS T sv qv) r picks 0 := by
  have s1 := hC.size
  have s2 := B.chg.size
  have s3 := M.chg.size
  have cY := B.chg.trans M.chg (H := fun _ => False) (fun _ _ x => x) (fun _ _ x => x)
  have lm := hm.lt
  have lF : ∀ k, F k → k < W3.heap.size := by obtain ⟨_, _, B⟩ := hb; exact B.lt
  have hv : ∀ j, j < T → vbs[j]? = some (vbs.getD j 0) := fun j hj => by
    have : j < vbs.length := by rw [M.vl]; exact hj
    simp [List.getElem?_eq_getElem this]
  have vws := fun j (hj : j < T) => M.views j _ (hv j hj)
  have lD : ∀ i j k, i < T → j < cl i → D i j k → k < X.heap.size := fun i j k hi hj e => vcK.lt (B.pr i j hi hj) e
  have hvi : ∀ i, i < T → X.heap.size ≤ vbs.getD i 0 ∧ vbs.getD i 0 < Y.heap.size ∧ ¬ G (vbs.getD i 0) := fun i hi => ⟨(vws i hi).2.1, lt_of (vws i hi).1, (vws i hi).2.2⟩
  have hmF : m < W3.heap.size := lm
  have hS : ∀ k, psS T sv qv k → W3.heap.size ≤ k ∧ k < X.heap.size ∧ ∀ i j, tg k ≠ .d i j := fun k e => by
    rcases e with e | ⟨i, hi, e⟩
    · exact ⟨(B.tO2 k e).1, row_lt B.outer2 k e, fun i j => by rw [(B.tO2 k e).2]; simp⟩
    · exact ⟨(B.tR2 i k hi e).1, row_lt (B.inner2 i hi) k e, fun i j => by rw [(B.tR2 _ k hi e).2]; simp⟩
  refine ⟨G, fun k => F k ∨ k = m ∨ (∃ i, i < T ∧ k = vbs.getD i 0) ∨ (∃ i j, i < T ∧ j < cl i ∧ D i j k), vwOf vbs, tv, _, _, ths, [], [], M.run, ⟨F, D, fun _ => 0, fun k => open Classical in if k < W3.heap.size then (if F k then .mem else .main) else if k < X.heap.size then (match tg k with | .d i j => .proc i j | _ => .none) else if h : ∃ j, j < T ∧ vbs.getD j 0 = k then .view h.choose else .none, ⟨⟨l, hb.chg cY (fun _ _ h => h), rfl⟩, hm.chg cY (fun h => h), fun i hi => ⟨(vws i hi).1, Nat.le_refl _⟩, fun i j hi hj => vcK.kept (B.pr i j hi hj) (fun k e => M.chg.block k (lD i j k hi hj e) (fun x => x)), fun i j hi hj _ => hok i j hi hj, fun k e => ⟨.inl e, ?_⟩, ⟨.inr (.inl rfl), ?_⟩, fun i hi => ⟨.inr (.inr (.inl ⟨i, hi, rfl⟩)), ?_⟩, fun i j k hi hj e => ⟨.inr (.inr (.inr ⟨i, j, hi, hj, e⟩)), ?_⟩, fun k e => ?_, by show (l.map Acc.bare).length ≤ 0 + 16000000; simpa using hll, by omega⟩⟩, fun j e hk => ?_, hl, fun j t ht => ?_, fun j hj => vwOf_get _ _ _ (hv j hj), by simp, fun j e => ?_, hC.trans cY (fun _ _ x => x) (fun _ _ x => x), fun j e => ⟨by have := (hS j e).2.1; omega, rfl, fun g => by have := M.inG j g; have := (hS j e).2.1; omega, fun k => ?_⟩⟩
  · simp only [if_pos (lF k e), if_pos e]
  · simp only [if_pos hmF, if_neg nm]
  · obtain ⟨z1, z2, z3⟩ := hvi i hi
    simp only [if_neg (show ¬ vbs.getD i 0 < W3.heap.size by omega), if_neg (show ¬ vbs.getD i 0 < X.heap.size by omega)]
    have ex : ∃ j, j < T ∧ vbs.getD j 0 = vbs.getD i 0 := ⟨i, hi, rfl⟩
    rw [dif_pos ex]
    congr 1
    obtain ⟨c1, c2⟩ := ex.choose_spec
    exact Decidable.byContradiction fun ne => M.apart _ _ _ _ ne (hv _ c1) (hv _ hi) c2
  · have z := B.tD i j k hi hj e
    simp only [if_neg (show ¬ k < W3.heap.size by omega), if_pos (lD i j k hi hj e), z.2]
  · rcases e with e | e | ⟨i, hi, e⟩ | ⟨i, j, hi, hj, e⟩
    · have := lF k e; omega
    · omega
    · have := (hvi i hi).2.1; omega
    · have := lD i j k hi hj e; omega
  · have g := M.inG j e
    rcases hk with z | z | ⟨i, hi, z⟩ | ⟨i, q, hi, hq, z⟩
    · have := lF j z; omega
    · omega
    · rw [z] at e; exact (hvi i hi).2.2 e
    · have := lD i q j hi hq z; omega
  · obtain ⟨x, hx, h1, h2, h3⟩ := M.thr j t ht
    have hj : j < T := by
      have := (List.getElem?_eq_some_iff.1 hx).1
      simpa [tlOf] using this
    simp [tlOf, hj] at hx
    subst hx
    rw [h1]
    refine ⟨by simp, fun q hq => by simp [hq], ?_⟩
    rw [h2]
    rfl
  · rcases e with e | e | e | ⟨i, hi, e⟩ | ⟨i, q, hi, hq, e⟩
    · have := M.inG j e; omega
    · exact hF j e
    · omega
    · have := (hvi i hi).1; omega
    · have := (B.tD i q j hi hq e).1; omega
  · obtain ⟨y1, y2, y3⟩ := hS j e
    rcases k with z | z | ⟨i, hi, z⟩ | ⟨i, q, hi, hq, z⟩
    · have := lF j z; omega
    · omega
    · have := (hvi i hi).1; omega
    · exact y3 i q (B.tD i q j hi hq z).2
end Go.Proofs.Ytadbgmcfjemkeaa
