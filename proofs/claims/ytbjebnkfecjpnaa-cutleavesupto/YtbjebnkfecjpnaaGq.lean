/- Threads of procs are built, row by row; a run's start. -/
import Derived.Test.YtbjebnkfecjpnaaGp
namespace Go.Proofs.Ytbjebnkfecjpnaa
open Go.RowKit Go.Shelf
set_option linter.unusedVariables false

theorem range_map_upd {α : Type} (f : Nat → α) (i n : Nat) (x : α) (h : n ≤ i) : (List.range n).map (updN f i x) = (List.range n).map f := by
  apply List.map_congr_left
  intro j hj
  have := List.mem_range.1 hj
  exact updN_other _ _ _ _ (by omega)
structure BL (W X : World) (R n : Nat) (tv : Value) (rv : Nat → Value) (rm cl : Nat → Nat) (pv : Nat → Nat → Value) (σ : Nat → Nat → LP) (D : Nat → Nat → Nat → Prop) (tg : Nat → Tag) : Prop where
  outer : X.ownsRow 0 66 1 tv n ((List.range n).map rv)
  inner : ∀ i, i < R → X.ownsRow 0 69 1 (rv i) (rm i) ((List.range (rm i)).map (pv i))
  one : ∀ i j, i < R → j < cl i → (pv i j).oneCell' = true
  le : ∀ i, i < R → rm i ≤ cl i
  pr : ∀ i j, i < R → j < cl i → leavesK.H X (D i j) (pv i j) (σ i j)
  tO : ∀ k, tv.ownBlock = some k → W.heap.size ≤ k ∧ tg k = .main
  tR : ∀ i k, i < R → (rv i).ownBlock = some k → W.heap.size ≤ k ∧ tg k = .view i
  tD : ∀ i j k, i < R → j < cl i → D i j k → W.heap.size ≤ k ∧ tg k = .proc i j
  chg : Chg (fun _ => False) W X
section
variable {W X Y Z : World} {R n : Nat} {tv : Value} {rv : Nat → Value} {rm cl : Nat → Nat} {pv : Nat → Nat → Value} {σ : Nat → Nat → LP} {D : Nat → Nat → Nat → Prop} {tg : Nat → Tag}
theorem BL.start (W : World) (rv : Nat → Value) (rm cl : Nat → Nat) (pv : Nat → Nat → Value) (σ : Nat → Nat → LP) (D : Nat → Nat → Nat → Prop) (tg : Nat → Tag) : BL W W 0 0 (.slice none 0 0) rv rm cl pv σ D tg :=
  ⟨World.ownsRow_nil _ _ _ _, fun i hi => by omega, fun i j hi => by omega, fun i hi => by omega, fun i j hi => by omega, fun k e => by simp [Value.ownBlock] at e, fun i k hi => by omega, fun i j k hi => by omega, Chg.refl _ _⟩
theorem BL.quiet (h : BL W X R n tv rv rm cl pv σ D tg) (c : Chg (fun _ => False) X Y) : BL W Y R n tv rv rm cl pv σ D tg :=
  ⟨row_kept h.outer fun k e => c.block k (row_lt h.outer k e) (fun x => x), fun i hi => row_kept (h.inner i hi) fun k e => c.block k (row_lt (h.inner i hi) k e) (fun x => x), h.one, h.le, fun i j hi hj => leavesK.kept (h.pr i j hi hj) (fun k e => c.block k (leavesK.lt (h.pr i j hi hj) e) (fun x => x)), h.tO, h.tR, h.tD, h.chg.trans c (fun _ _ x => x) (fun _ _ x => x)⟩
theorem BL.row (h : BL W X R n tv rv rm cl pv σ D tg) (hn : n ≤ R) : BL W X (R + 1) n tv (updN rv R (.slice none 0 0)) (updN rm R 0) (updN cl R 0) pv σ D tg := by
  have o : ∀ {i}, i < R + 1 → i ≠ R → i < R := fun h1 h2 => by omega
  refine ⟨by rw [range_map_upd _ _ _ _ hn]; exact h.outer, fun i hi => ?_, fun i j hi hj => ?_, fun i hi => ?_, fun i j hi hj => ?_, h.tO, fun i k hi e => ?_, fun i j k hi hj e => ?_, h.chg⟩ <;> by_cases c : i = R
  · subst c; rw [updN_same, updN_same]; exact World.ownsRow_nil _ _ _ _
  · rw [updN_other _ _ _ _ c, updN_other _ _ _ _ c]; exact h.inner i (o hi c)
  · subst c; rw [updN_same] at hj; omega
  · rw [updN_other _ _ _ _ c] at hj; exact h.one i j (o hi c) hj
  · subst c; rw [updN_same, updN_same]; omega
  · rw [updN_other _ _ _ _ c, updN_other _ _ _ _ c]; exact h.le i (o hi c)
  · subst c; rw [updN_same] at hj; omega
  · rw [updN_other _ _ _ _ c] at hj; exact h.pr i j (o hi c) hj
  · subst c; rw [updN_same] at e; simp [Value.ownBlock] at e
  · rw [updN_other _ _ _ _ c] at e; exact h.tR i k (o hi c) e
  · subst c; rw [updN_same] at hj; omega
  · rw [updN_other _ _ _ _ c] at hj; exact h.tD i j k (o hi c) hj e
theorem BL.proc (h : BL W X R n tv rv rm cl pv σ D tg) (i : Nat) (hi : i < R) {pw : Value} {s : LP} {Dn : Nat → Prop} (P : PNew X Y pw s Dn) :
    BL W Y R n tv rv rm (updN cl i (cl i + 1)) (updN pv i (updN (pv i) (cl i) pw)) (updN σ i (updN (σ i) (cl i) s)) (updN D i (updN (D i) (cl i) Dn)) (fun k => if k < X.heap.size then tg k else .proc i (cl i)) := by
  have q := h.quiet P.chg
  have sz := h.chg.size
  refine ⟨q.outer, fun j hj => ?_, fun j m hj hm => ?_, fun j hj => ?_, fun j m hj hm => ?_, fun k e => ⟨(h.tO k e).1, by simp only [if_pos (row_lt h.outer k e)]; exact (h.tO k e).2⟩, fun j k hj e => ⟨(h.tR j k hj e).1, by simp only [if_pos (row_lt (h.inner j hj) k e)]; exact (h.tR j k hj e).2⟩, fun j m k hj hm e => ?_, q.chg⟩ <;> by_cases c : j = i
  · subst c
    rw [updN_same, range_map_upd _ _ _ _ (h.le j hj)]
    exact q.inner j hj
  · rw [updN_other _ _ _ _ c]; exact q.inner j hj
  · subst c
    rw [updN_same] at hm ⊢
    by_cases c2 : m = cl j
    · subst c2; rw [updN_same]; exact P.one
    · rw [updN_other _ _ _ _ c2]; exact h.one j m hj (by omega)
  · rw [updN_other _ _ _ _ c] at hm ⊢; exact h.one j m hj hm
  · subst c; rw [updN_same]; have := h.le j hj; omega
  · rw [updN_other _ _ _ _ c]; exact h.le j hj
  · subst c
    rw [updN_same] at hm
    rw [updN_same, updN_same, updN_same]
    by_cases c2 : m = cl j
    · subst c2; rw [updN_same, updN_same, updN_same]; exact P.h
    · rw [updN_other _ _ _ _ c2, updN_other _ _ _ _ c2, updN_other _ _ _ _ c2]; exact q.pr j m hj (by omega)
  · rw [updN_other _ _ _ _ c] at hm
    rw [updN_other _ _ _ _ c, updN_other _ _ _ _ c, updN_other _ _ _ _ c]; exact q.pr j m hj hm
  · subst c
    rw [updN_same] at hm e
    by_cases c2 : m = cl j
    · subst c2
      rw [updN_same] at e
      have := P.new k e
      exact ⟨by omega, by simp only [if_neg (show ¬ k < X.heap.size by omega)]⟩
    · rw [updN_other _ _ _ _ c2] at e
      have z := h.tD j m k hj (by omega) e
      exact ⟨z.1, by simp only [if_pos (leavesK.lt (h.pr j m hj (by omega)) e)]; exact z.2⟩
  · rw [updN_other _ _ _ _ c] at hm e
    have z := h.tD j m k hj hm e
    exact ⟨z.1, by simp only [if_pos (leavesK.lt (h.pr j m hj hm) e)]; exact z.2⟩
theorem BL.rowApp (h : BL W X R n tv rv rm cl pv σ D tg) (i : Nat) (hi : i < R) (hn : n ≤ i) (hlt : rm i < cl i) {ob : Obj} {v' : Value} (hr : Z.ownsRow 0 69 1 v' (rm i + 1) ((List.range (rm i)).map (pv i) ++ [pv i (rm i)])) (hg : (X.alloc ob).grownBy Z (rv i).ownBlock) (ho : ∀ k, v'.ownBlock = some k → (rv i).ownBlock = some k ∨ X.heap.size ≤ k) :
    BL W Z R n tv (updN rv i v') (updN rm i (rm i + 1)) cl pv σ D (fun k => if k < X.heap.size then tg k else .view i) := by
  have c : Chg (fun k => (rv i).ownBlock = some k) X Z := ((Chg.refl (fun k => (rv i).ownBlock = some k) X).alloc ob).grown hg (fun k e _ => e)
  have ne : ∀ k, tg k ≠ .view i → ¬ (rv i).ownBlock = some k := fun k z e => z (h.tR i k hi e).2
  refine ⟨?_, fun j hj => ?_, h.one, fun j hj => ?_, fun j m hj hm => ?_, fun k e => ⟨(h.tO k e).1, by simp only [if_pos (row_lt h.outer k e)]; exact (h.tO k e).2⟩, fun j k hj e => ?_, fun j m k hj hm e => ⟨(h.tD j m k hj hm e).1, by simp only [if_pos (leavesK.lt (h.pr j m hj hm) e)]; exact (h.tD j m k hj hm e).2⟩, h.chg.trans c (fun _ _ x => x) (fun k hk e => by have := (h.tR i k hi e).1; omega)⟩
  · rw [range_map_upd _ _ _ _ hn]
    exact row_kept h.outer fun k e => c.block k (row_lt h.outer k e) (ne k (by rw [(h.tO k e).2]; simp))
  · by_cases e : j = i
    · subst e
      rw [updN_same, updN_same, List.range_succ, List.map_append]
      exact hr
    · rw [updN_other _ _ _ _ e, updN_other _ _ _ _ e]
      exact row_kept (h.inner j hj) fun k z => c.block k (row_lt (h.inner j hj) k z) (ne k (by rw [(h.tR j k hj z).2]; simpa using e))
  · by_cases e : j = i
    · subst e; rw [updN_same]; omega
    · rw [updN_other _ _ _ _ e]; exact h.le j hj
  · exact leavesK.kept (h.pr j m hj hm) (fun k z => c.block k (leavesK.lt (h.pr j m hj hm) z) (ne k (by rw [(h.tD j m k hj hm z).2]; simp)))
  · have sz := h.chg.size
    by_cases ej : j = i
    · subst ej
      rw [updN_same] at e
      rcases ho k e with z | z
      · exact ⟨(h.tR j k hj z).1, by simp only [if_pos (row_lt (h.inner j hj) k z)]; exact (h.tR j k hj z).2⟩
      · exact ⟨by omega, by simp only [if_neg (show ¬ k < X.heap.size by omega)]⟩
    · rw [updN_other _ _ _ _ ej] at e
      exact ⟨(h.tR j k hj e).1, by simp only [if_pos (row_lt (h.inner j hj) k e)]; exact (h.tR j k hj e).2⟩
theorem BL.outApp (h : BL W X R n tv rv rm cl pv σ D tg) {ob : Obj} {v' : Value} (hr : Z.ownsRow 0 66 1 v' (n + 1) ((List.range n).map rv ++ [rv n])) (hg : (X.alloc ob).grownBy Z tv.ownBlock) (ho : ∀ k, v'.ownBlock = some k → tv.ownBlock = some k ∨ X.heap.size ≤ k) :
    BL W Z R (n + 1) v' rv rm cl pv σ D (fun k => if k < X.heap.size then tg k else .main) := by
  have c : Chg (fun k => tv.ownBlock = some k) X Z := ((Chg.refl (fun k => tv.ownBlock = some k) X).alloc ob).grown hg (fun k e _ => e)
  have ne : ∀ k, tg k ≠ .main → ¬ tv.ownBlock = some k := fun k z e => z (h.tO k e).2
  have sz := h.chg.size
  refine ⟨by rw [List.range_succ, List.map_append]; exact hr, fun j hj => ?_, h.one, h.le, fun j m hj hm => ?_, fun k e => ?_, fun j k hj e => ⟨(h.tR j k hj e).1, by simp only [if_pos (row_lt (h.inner j hj) k e)]; exact (h.tR j k hj e).2⟩, fun j m k hj hm e => ⟨(h.tD j m k hj hm e).1, by simp only [if_pos (leavesK.lt (h.pr j m hj hm) e)]; exact (h.tD j m k hj hm e).2⟩, h.chg.trans c (fun _ _ x => x) (fun k hk e => by have := (h.tO k e).1; omega)⟩
  · exact row_kept (h.inner j hj) fun k z => c.block k (row_lt (h.inner j hj) k z) (ne k (by rw [(h.tR j k hj z).2]; simp))
  · exact leavesK.kept (h.pr j m hj hm) (fun k z => c.block k (leavesK.lt (h.pr j m hj hm) z) (ne k (by rw [(h.tD j m k hj hm z).2]; simp)))
  · rcases ho k e with z | z
    · exact ⟨(h.tO k z).1, by simp only [if_pos (row_lt h.outer k z)]; exact (h.tO k z).2⟩
    · exact ⟨by omega, by simp only [if_neg (show ¬ k < X.heap.size by omega)]⟩
def tlOf (T : Nat) (rv : Nat → Value) (cl : Nat → Nat) (pv : Nat → Nat → Value) : List (Value × List Value) := (List.range T).map fun i => (rv i, (List.range (cl i)).map (pv i))
theorem BL.lists {T : Nat} (h : BL W X T T tv rv rm cl pv σ D tg) (hm : ∀ i, i < T → rm i = cl i) : Lists X tv (tlOf T rv cl pv) := by
  refine ⟨?_, fun x hx => ?_, fun x hx u hu => ?_⟩
  · have e : (tlOf T rv cl pv).map Prod.fst = (List.range T).map rv := by simp [tlOf]
    rw [e, show (tlOf T rv cl pv).length = T by simp [tlOf]]
    exact h.outer
  · simp only [tlOf, List.mem_map, List.mem_range] at hx
    obtain ⟨i, hi, rfl⟩ := hx
    have := h.inner i hi
    rw [hm i hi] at this
    simpa using this
  · simp only [tlOf, List.mem_map, List.mem_range] at hx
    obtain ⟨i, hi, rfl⟩ := hx
    simp only [List.mem_map, List.mem_range] at hu
    obtain ⟨j, hj, rfl⟩ := hu
    exact h.one i j hi hj
end
/-- The run's start. -/
theorem gl_start {W W3 X Y : World} {F G : Nat → Prop} {r m b T next : Nat} {tv0 tv : Value} {rv : Nat → Value} {rm cl : Nat → Nat} {pv : Nat → Nat → Value} {σ : Nat → Nat → LP} {D : Nat → Nat → Nat → Prop} {tg : Nat → Tag} {ths : List Thr} {vbs : List Nat} {cs : List Nat} {y : Acc} (picks : List Int) (hC : Chg (fun _ => False) W W3) (hm : IsMem W3 m b) (hb : Bank W3 F b 4096 next cs [y]) (hF : ∀ k, F k → W.heap.size ≤ k) (hmW : W.heap.size ≤ m) (nm : ¬ F m)
    (B : BL W3 X T T tv0 rv rm cl pv σ D tg) (M : Made X Y G r m b tv (tlOf T rv cl pv) ths vbs T) (hl : ths.length = T) (hok : ∀ i j, i < T → j < cl i → leavesK.ok 0 (σ i j)) : GRun leavesK 4096 m b T cl (fun j => vbs.getD j 0) pv ⟨next, cs, [y.bare], fun _ => 0, σ⟩ W Y r picks 0 := by
  have s1 := hC.size
  have s2 := B.chg.size
  have s3 := M.chg.size
  have cY := B.chg.trans M.chg (H := fun _ => False) (fun _ _ x => x) (fun _ _ x => x)
  have lm := hm.lt
  have lF : ∀ k, F k → k < W3.heap.size := by obtain ⟨_, _, B⟩ := hb; exact B.lt
  have hv : ∀ j, j < T → vbs[j]? = some (vbs.getD j 0) := fun j hj => by
    have : j < vbs.length := by rw [M.vl]; exact hj
    simp [List.getElem?_eq_getElem this]
  have vws := fun j (hj : j < T) => M.views j _ (hv j hj)
  have lD : ∀ i j k, i < T → j < cl i → D i j k → k < X.heap.size := fun i j k hi hj e => leavesK.lt (B.pr i j hi hj) e
  have hvi : ∀ i, i < T → X.heap.size ≤ vbs.getD i 0 ∧ vbs.getD i 0 < Y.heap.size ∧ ¬ G (vbs.getD i 0) := fun i hi => ⟨(vws i hi).2.1, lt_of (vws i hi).1, (vws i hi).2.2⟩
  have hmF : m < W3.heap.size := lm
  refine ⟨G, fun k => F k ∨ k = m ∨ (∃ i, i < T ∧ k = vbs.getD i 0) ∨ (∃ i j, i < T ∧ j < cl i ∧ D i j k), vwOf vbs, tv, _, _, ths, [], [], M.run, ⟨F, D, fun _ => 0, fun k => open Classical in if k < W3.heap.size then (if F k then .mem else .main) else if k < X.heap.size then tg k else if h : ∃ j, j < T ∧ vbs.getD j 0 = k then .view h.choose else .none, ⟨⟨[y], hb.chg cY (fun _ _ h => h), rfl⟩, hm.chg cY (fun h => h), fun i hi => ⟨(vws i hi).1, Nat.le_refl _⟩, fun i j hi hj => leavesK.kept (B.pr i j hi hj) (fun k e => M.chg.block k (lD i j k hi hj e) (fun x => x)), fun i j hi hj _ => hok i j hi hj, fun k e => ⟨.inl e, ?_⟩, ⟨.inr (.inl rfl), ?_⟩, fun i hi => ⟨.inr (.inr (.inl ⟨i, hi, rfl⟩)), ?_⟩, fun i j k hi hj e => ⟨.inr (.inr (.inr ⟨i, j, hi, hj, e⟩)), ?_⟩, fun k e => ?_, by show [y.bare].length ≤ 0 + 16; simp, by omega⟩⟩, fun j e hk => ?_, hl, fun j t ht => ?_, fun j hj => vwOf_get _ _ _ (hv j hj), by simp, fun j e => ?_, hC.trans cY (fun _ _ x => x) (fun _ _ x => x)⟩
  · simp only [if_pos (lF k e), if_pos e]
  · simp only [if_pos hmF, if_neg nm]
  · obtain ⟨z1, z2, z3⟩ := hvi i hi
    simp only [if_neg (show ¬ vbs.getD i 0 < W3.heap.size by omega), if_neg (show ¬ vbs.getD i 0 < X.heap.size by omega)]
    have ex : ∃ j, j < T ∧ vbs.getD j 0 = vbs.getD i 0 := ⟨i, hi, rfl⟩
    rw [dif_pos ex]
    congr 1
    obtain ⟨c1, c2⟩ := ex.choose_spec
    exact Decidable.byContradiction fun ne => M.apart _ _ _ _ ne (hv _ c1) (hv _ hi) c2
  · have z := B.tD i j k hi hj e
    simp only [if_neg (show ¬ k < W3.heap.size by omega), if_pos (lD i j k hi hj e)]
    exact z.2
  · rcases e with e | e | ⟨i, hi, e⟩ | ⟨i, j, hi, hj, e⟩
    · have := lF k e; omega
    · omega
    · have := (hvi i hi).2.1; omega
    · have := lD i j k hi hj e; omega
  · have g := M.inG j e
    rcases hk with z | z | ⟨i, hi, z⟩ | ⟨i, q, hi, hq, z⟩
    · have := lF j z; omega
    · omega
    · rw [z] at e; exact (hvi i hi).2.2 e
    · have := lD i q j hi hq z; omega
  · obtain ⟨x, hx, h1, h2, h3⟩ := M.thr j t ht
    have hj : j < T := by
      have := (List.getElem?_eq_some_iff.1 hx).1
      simpa [tlOf] using this
    simp [tlOf, hj] at hx
    subst hx
    rw [h1]
    refine ⟨by simp, fun q hq => by simp [hq], ?_⟩
    rw [h2]
    rfl
  · rcases e with e | e | e | ⟨i, hi, e⟩ | ⟨i, q, hi, hq, e⟩
    · have := M.inG j e; omega
    · exact hF j e
    · omega
    · have := (hvi i hi).1; omega
    · have := (B.tD i q j hi hq e).1; omega
end Go.Proofs.Ytbjebnkfecjpnaa
