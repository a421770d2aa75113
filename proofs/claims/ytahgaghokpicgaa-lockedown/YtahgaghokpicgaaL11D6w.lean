/- The document's answer for the store behind a lock: what holds of it; a snapshot. (mkD6w.py) -/
import Derived.Test.YtahgaghokpicgaaL10D6v
import Derived.Deep.Cut
import Derived.Deep.CutBlock
namespace Go.Proofs.Ytahgaghokpicgaa
open Go.RowKit Go.Maps
set_option linter.unusedVariables false
set_option linter.unusedSimpArgs false

theorem gen_world {P : World → Prop} {T : World} (h : ∀ X, X = T → P X) : P T := h T rfl
theorem KeysAt.chgN {F : Nat → Prop} {W W' : World} {p : Option Addr} {l : List Nat} (h : KeysAt W p l) (c : Chg F W W') (hn : ∀ bk off, p = some ⟨bk, off, none⟩ → l ≠ [] → ¬ F bk) : KeysAt W' p l := by
  by_cases e : l = []
  · exact .inl e
  · exact h.chg c (fun bk off q => hn bk off q e)
/-- A row of numbers of one's own, and one of bools. -/
def GRow (W : World) (b N : Nat) : Prop := ∃ cs, W.heap[b]? = some (.cells cs 29 (0, 0)) ∧ ∀ i, i < N → ∃ x : Nat, x < 18446744073709551616 ∧ cs[i]? = some (.int .u64 (x : Int))
def BRow1 (W : World) (b N : Nat) : Prop := ∃ cs, W.heap[b]? = some (.cells cs 4 (0, 0)) ∧ ∀ i, i < N → ∃ x : Bool, cs[i]? = some (.bool x)
theorem GRow.chg {F : Nat → Prop} {W W' : World} {b N : Nat} (h : GRow W b N) (c : Chg F W W') (hn : ¬ F b) : GRow W' b N := by
  obtain ⟨cs, hb, hx⟩ := h
  exact ⟨cs, (c.block b (lt_of hb) hn).trans hb, hx⟩
theorem BRow1.chg {F : Nat → Prop} {W W' : World} {b N : Nat} (h : BRow1 W b N) (c : Chg F W W') (hn : ¬ F b) : BRow1 W' b N := by
  obtain ⟨cs, hb, hx⟩ := h
  exact ⟨cs, (c.block b (lt_of hb) hn).trans hb, hx⟩
theorem GRow.get {W : World} {b N i : Nat} (h : GRow W b N) (hi : i < N) : ∃ x : Nat, x < 18446744073709551616 ∧ W.cell? ⟨b, i, none⟩ = some (.int .u64 (x : Int)) ∧ W.frozen? ⟨b, i, none⟩ = false := by
  obtain ⟨cs, hb, hx⟩ := h
  obtain ⟨x, h1, h2⟩ := hx i hi
  exact ⟨x, h1, by rw [cell_of hb]; exact h2, free_of hb _⟩
theorem BRow1.get {W : World} {b N i : Nat} (h : BRow1 W b N) (hi : i < N) : ∃ x : Bool, W.cell? ⟨b, i, none⟩ = some (.bool x) ∧ W.frozen? ⟨b, i, none⟩ = false := by
  obtain ⟨cs, hb, hx⟩ := h
  obtain ⟨x, h2⟩ := hx i hi
  exact ⟨x, by rw [cell_of hb]; exact h2, free_of hb _⟩
theorem GRow.set {W : World} {b N i x : Nat} (h : GRow W b N) (hx64 : x < 18446744073709551616) : GRow (W.setCell ⟨b, i, none⟩ (.int .u64 (x : Int))) b N := by
  obtain ⟨cs, hb, hx⟩ := h
  refine ⟨_, set_of hb i _, fun j hj => ?_⟩
  obtain ⟨y, h1, h2⟩ := hx j hj
  by_cases e : i = j
  · subst e
    refine ⟨x, hx64, ?_⟩
    rw [Array.getElem?_setIfInBounds, if_pos rfl, if_pos (Array.getElem?_eq_some_iff.1 h2).1]
  · exact ⟨y, h1, by rw [Array.getElem?_setIfInBounds, if_neg e]; exact h2⟩
theorem BRow1.set {W : World} {b N i : Nat} (x : Bool) (h : BRow1 W b N) : BRow1 (W.setCell ⟨b, i, none⟩ (.bool x)) b N := by
  obtain ⟨cs, hb, hx⟩ := h
  refine ⟨_, set_of hb i _, fun j hj => ?_⟩
  obtain ⟨y, h2⟩ := hx j hj
  by_cases e : i = j
  · subst e
    refine ⟨x, ?_⟩
    rw [Array.getElem?_setIfInBounds, if_pos rfl, if_pos (Array.getElem?_eq_some_iff.1 h2).1]
  · exact ⟨y, by rw [Array.getElem?_setIfInBounds, if_neg e]; exact h2⟩
theorem GRow.other {W : World} {b N : Nat} (h : GRow W b N) {a : Addr} (hn : a.block ≠ b) (v : Value) : GRow (W.setCell a v) b N := h.chg ((Chg.refl (fun k => k = a.block) W).setCell (fun _ => rfl) v) (fun e => hn e.symm)
theorem BRow1.other {W : World} {b N : Nat} (h : BRow1 W b N) {a : Addr} (hn : a.block ≠ b) (v : Value) : BRow1 (W.setCell a v) b N := h.chg ((Chg.refl (fun k => k = a.block) W).setCell (fun _ => rfl) v) (fun e => hn e.symm)
/-- The document's store: N slots, stamps up to st; tk pictures were taken, n operations done. -/
structure R25 (A : Nat → Prop) (W : World) (s m G D : Nat) (c0 : Int) (N st : Nat) (mu : Int) (tk n : Nat) (g : Nat → Option Nat) (l : List (Nat × Nat)) (H : HeldL) : Prop where
  at_ : W.heap[s]? = some (.cells #[.int .i64 c0, .int .i64 (N : Int), .int .u64 (st : Int), .int .i64 mu, .pointer (some ⟨m, 0, none⟩), .slice (some ⟨G, 0, none⟩) N N, .slice (some ⟨D, 0, none⟩) N N, .int .u64 (tk : Int), .int .i64 (n : Int)] 95 (0, 0))
  gr : GRow W G N
  dr : BRow1 W D N
  mod : RM6 A W m mu g l H
  slot : ∀ z ∈ H, 1 ≤ z.1 % 65536 ∧ z.1 % 65536 ≤ N
  cnt : H.length ≤ tk
theorem RM6.md {A : Nat → Prop} {W : World} {m : Nat} {mu : Int} {g : Nat → Option Nat} {l : List (Nat × Nat)} {H : HeldL} (h : RM6 A W m mu g l H) : ∃ cs, W.heap[m]? = some (.cells cs 107 (0, 0)) := by
  obtain ⟨mv, hv, Z, h1, -⟩ := h.ex
  exact ⟨_, h1.at_⟩
theorem ne_ty {W : World} {a b : Nat} {cs ds : Array Value} {t u : TypeId} {p q : Nat × Nat} (h1 : W.heap[a]? = some (.cells cs t p)) (h2 : W.heap[b]? = some (.cells ds u q)) (hn : t ≠ u) : a ≠ b := by
  rintro rfl
  rw [h1] at h2
  injection h2 with h2
  injection h2 with _ h2
  exact hn h2
theorem R25.ap {A : Nat → Prop} {W : World} {s m G D : Nat} {c0 : Int} {N st : Nat} {mu : Int} {tk n : Nat} {g : Nat → Option Nat} {l : List (Nat × Nat)} {H : HeldL} (h : R25 A W s m G D c0 N st mu tk n g l H) : s ≠ m ∧ s ≠ G ∧ s ≠ D ∧ m ≠ G ∧ m ≠ D ∧ G ≠ D := by
  obtain ⟨cm, hm⟩ := h.mod.md
  obtain ⟨cg, hg, -⟩ := h.gr
  obtain ⟨cd, hd, -⟩ := h.dr
  exact ⟨ne_ty h.at_ hm (by decide), ne_ty h.at_ hg (by decide), ne_ty h.at_ hd (by decide), ne_ty hm hg (by decide), ne_ty hm hd (by decide), ne_ty hg hd (by decide)⟩
/-- The model where other blocks were written: none of its own. -/
theorem RM6.chg {A F : Nat → Prop} {W W' : World} {m : Nat} {mu : Int} {g : Nat → Option Nat} {l : List (Nat × Nat)} {H : HeldL} (h : RM6 A W m mu g l H) (c : Chg F W W') (hn : ∀ k, F k → ∀ cs t p, W.heap[k]? = some (.cells cs t p) → (t = 55 → A k) ∧ t ≠ 107 ∧ t ≠ 120) : RM6 A W' m mu g l H := by
  obtain ⟨mv, hv, Z, h1, h2, h3, h4, h5⟩ := h.ex
  have nr : ∀ {v : Value} {f : Nat → Option Nat} {l : List (Nat × Nat)}, (∀ b, v.ownBlock = some b → ¬ A b) → RL W v f l → RL W' v f l := fun {v f l} ha hr => hr.chg c (fun b hb x => by
    rcases hr.row.1.2 with ⟨e, _⟩ | ⟨g, cap, cur, e, _, hg, _⟩
    · rw [e] at hb; cases hb
    · have hb2 := hb
      rw [e] at hb
      injection hb with hb
      have hb : g = b := hb
      subst hb
      exact ha g hb2 ((hn g x _ _ _ hg).1 rfl))
  refine ⟨mv, hv, Z, ⟨(c.block m (lt_of h1.at_) (fun x => (hn m x _ _ _ h1.at_).2.1 rfl)).trans h1.at_, h1.row.chg c (fun b hb x => ?_)⟩, nr h5.1 h2, h3, fun z hz => nr (h5.2 z hz) (h4 z hz), h5⟩
  rcases h1.row.1.2 with ⟨e, _⟩ | ⟨g, cap, cur, e, _, hg, _⟩
  · rw [e] at hb; cases hb
  · rw [e] at hb
    injection hb with hb
    have hb : g = b := hb
    subst hb
    exact (hn g x _ _ _ hg).2.2 rfl
theorem R25.quiet {A : Nat → Prop} {W W' : World} {s m G D : Nat} {c0 : Int} {N st : Nat} {mu : Int} {tk n : Nat} {g : Nat → Option Nat} {l : List (Nat × Nat)} {H : HeldL} (h : R25 A W s m G D c0 N st mu tk n g l H) (c : Chg (fun _ => False) W W') : R25 A W' s m G D c0 N st mu tk n g l H :=
  ⟨(c.block s (lt_of h.at_) (fun x => x)).trans h.at_, h.gr.chg c (fun x => x), h.dr.chg c (fun x => x), h.mod.quiet c, h.slot, h.cnt⟩
/-- A cell of the store's own block, of its slots' rows. -/
theorem R25.model {A : Nat → Prop} {W : World} {s m G D : Nat} {c0 : Int} {N st : Nat} {mu : Int} {tk n : Nat} {g : Nat → Option Nat} {l : List (Nat × Nat)} {H : HeldL} (h : R25 A W s m G D c0 N st mu tk n g l H) {a : Addr} (ha : a.block = s ∨ a.block = G ∨ a.block = D) (v : Value) : RM6 A (W.setCell a v) m mu g l H := by
  obtain ⟨cg, hg, -⟩ := h.gr
  obtain ⟨cd, hd, -⟩ := h.dr
  refine h.mod.chg ((Chg.refl (fun k => k = a.block) W).setCell (fun _ => rfl) v) ?_
  rintro k rfl cs t p hk
  rcases ha with e | e | e <;> rw [e] at hk
  · rw [h.at_] at hk; injection hk with hk; injection hk with _ hk; subst hk; exact ⟨fun x => absurd x (by decide), by decide, by decide⟩
  · rw [hg] at hk; injection hk with hk; injection hk with _ hk; subst hk; exact ⟨fun x => absurd x (by decide), by decide, by decide⟩
  · rw [hd] at hk; injection hk with hk; injection hk with _ hk; subst hk; exact ⟨fun x => absurd x (by decide), by decide, by decide⟩
theorem R25.take {A : Nat → Prop} {W : World} {s m G D : Nat} {c0 : Int} {N st : Nat} {mu : Int} {tk n : Nat} {g : Nat → Option Nat} {l : List (Nat × Nat)} {H : HeldL} (h : R25 A W s m G D c0 N st mu tk n g l H) : R25 A (W.setCell ⟨s, 7, none⟩ (.int .u64 ((tk + 1 : Nat) : Int))) s m G D c0 N st mu (tk + 1) n g l H := by
  obtain ⟨-, a1, a2, -⟩ := h.ap
  exact ⟨set_of h.at_ 7 _, h.gr.other a1 _, h.dr.other a2 _, h.model (.inl rfl) _, h.slot, Nat.le_succ_of_le h.cnt⟩
theorem R25.num {A : Nat → Prop} {W : World} {s m G D : Nat} {c0 : Int} {N st : Nat} {mu : Int} {tk n : Nat} {g : Nat → Option Nat} {l : List (Nat × Nat)} {H : HeldL} (h : R25 A W s m G D c0 N st mu tk n g l H) : R25 A (W.setCell ⟨s, 8, none⟩ (.int .i64 ((n + 1 : Nat) : Int))) s m G D c0 N st mu tk (n + 1) g l H := by
  obtain ⟨-, a1, a2, -⟩ := h.ap
  exact ⟨set_of h.at_ 8 _, h.gr.other a1 _, h.dr.other a2 _, h.model (.inl rfl) _, h.slot, h.cnt⟩
theorem R25.hold {A : Nat → Prop} {W : World} {s m G D : Nat} {c0 : Int} {N st : Nat} {mu : Int} {tk n : Nat} {g : Nat → Option Nat} {l : List (Nat × Nat)} {H : HeldL} (h : R25 A W s m G D c0 N st mu tk n g l H) (i : Nat) (x : Bool) : R25 A (W.setCell ⟨D, i, none⟩ (.bool x)) s m G D c0 N st mu tk n g l H := by
  obtain ⟨-, a1, a2, -, -, a5⟩ := h.ap
  exact ⟨other_of h.at_ a2 _, h.gr.other (Ne.symm a5) _, h.dr.set x, h.model (.inr (.inr rfl)) _, h.slot, h.cnt⟩
theorem R25.gen {A : Nat → Prop} {W : World} {s m G D : Nat} {c0 : Int} {N st : Nat} {mu : Int} {tk n : Nat} {g : Nat → Option Nat} {l : List (Nat × Nat)} {H : HeldL} (h : R25 A W s m G D c0 N st mu tk n g l H) (i : Nat) {x : Nat} (hx : x < 18446744073709551616) : R25 A (W.setCell ⟨G, i, none⟩ (.int .u64 (x : Int))) s m G D c0 N st mu tk n g l H := by
  obtain ⟨-, a1, a2, -, -, a5⟩ := h.ap
  exact ⟨other_of h.at_ a1 _, h.gr.set hx, h.dr.other a5 _, h.model (.inr (.inl rfl)) _, h.slot, h.cnt⟩
/-- Behind a call of the model. -/
theorem R25.call {A : Nat → Prop} {W W' : World} {s m G D : Nat} {c0 : Int} {N st : Nat} {mu : Int} {tk n : Nat} {g g' : Nat → Option Nat} {l l' : List (Nat × Nat)} {H H' : HeldL} (h : R25 A W s m G D c0 N st mu tk n g l H) (c : Chg (fun k => k = m) W W') (hm : RM6 A W' m mu g' l' H') (hs : ∀ z ∈ H', 1 ≤ z.1 % 65536 ∧ z.1 % 65536 ≤ N) (hc : H'.length ≤ tk) : R25 A W' s m G D c0 N st mu tk n g' l' H' := by
  obtain ⟨a0, -, -, a3, a4, -⟩ := h.ap
  exact ⟨(c.block s (lt_of h.at_) a0).trans h.at_, h.gr.chg c (Ne.symm a3), h.dr.chg c (Ne.symm a4), hm, hs, hc⟩
/-- The boxes of a call: its operation, its answer. -/
structure QB (F : Nat → Prop) (W : World) (P R : Nat) (row ar : Array Value) (wr : World) : Prop where
  ox : wr.heap[P]? = some (.cells row 34 (0, 0))
  ax : wr.heap[R]? = some (.cells ar 38 (0, 0))
  ch : Chg F W wr
  lR : W.heap.size ≤ R
  lP : W.heap.size ≤ P
theorem QB.nP {F : Nat → Prop} {W : World} {P R : Nat} {row ar : Array Value} {wr : World} (h : QB F W P R row ar wr) : P ≠ R := ne_ty h.ox h.ax (by decide)
theorem QB.two (F : Nat → Prop) (W : World) (row ar : Array Value) : QB F W W.heap.size (W.heap.size + 1) row ar ((W.alloc (.cells row 34)).alloc (.cells ar 38)) := by
  refine ⟨alloc_of (heap_alloc_new _ _) _, ?_, ((Chg.refl _ _).alloc _).alloc _, by omega, by omega⟩
  have e := heap_alloc_new (W.alloc (.cells row 34)) (.cells ar 38)
  rw [World.size_alloc] at e
  exact e
theorem QB.on {F K : Nat → Prop} {W : World} {P R : Nat} {row ar : Array Value} {wr X : World} (h : QB F W P R row ar wr) (c : Chg K wr X) (hk : ∀ k, K k → F k ∧ k < W.heap.size) : QB F W P R row ar X :=
  ⟨(c.block P (lt_of h.ox) (fun x => by have := hk P x; have := h.lP; omega)).trans h.ox, (c.block R (lt_of h.ax) (fun x => by have := hk R x; have := h.lR; omega)).trans h.ax, h.ch.trans c (fun _ _ x => x) (fun k _ x => (hk k x).1), h.lR, h.lP⟩
theorem QB.off {F : Nat → Prop} {W : World} {P R : Nat} {row ar : Array Value} {wr X : World} (h : QB F W P R row ar wr) (c : Chg (fun _ => False) wr X) : QB F W P R row ar X := h.on c (fun _ x => x.elim)
theorem QB.set {F : Nat → Prop} {W : World} {P R : Nat} {row ar : Array Value} {wr : World} (h : QB F W P R row ar wr) (i : Nat) (x : Value) : QB F W P R row (ar.setIfInBounds i x) (wr.setCell ⟨R, i, none⟩ x) :=
  ⟨other_of h.ox h.nP _, set_of h.ax i x, h.ch.setCell (fun e => by have := h.lR; have e : R < W.heap.size := e; omega) _, h.lR, h.lP⟩
theorem QB.seven {F : Nat → Prop} {W : World} {P R : Nat} {row : Array Value} {y0 y1 y2 y3 y4 y5 y6 : Value} {wr : World} (h : QB F W P R row #[y0, y1, y2, y3, y4, y5, y6] wr) (x0 x1 x2 x3 x4 x5 x6 : Value) : QB F W P R row #[x0, x1, x2, x3, x4, x5, x6] (wr.setCells R 0 [x0, x1, x2, x3, x4, x5, x6]) := by
  have h0 : QB F W P R row #[x0, y1, y2, y3, y4, y5, y6] (wr.setCell ⟨R, 0, none⟩ x0) := h.set 0 x0
  have h1 : QB F W P R row #[x0, x1, y2, y3, y4, y5, y6] ((wr.setCell ⟨R, 0, none⟩ x0).setCell ⟨R, 1, none⟩ x1) := h0.set 1 x1
  have h2 : QB F W P R row #[x0, x1, x2, y3, y4, y5, y6] (((wr.setCell ⟨R, 0, none⟩ x0).setCell ⟨R, 1, none⟩ x1).setCell ⟨R, 2, none⟩ x2) := h1.set 2 x2
  have h3 : QB F W P R row #[x0, x1, x2, x3, y4, y5, y6] ((((wr.setCell ⟨R, 0, none⟩ x0).setCell ⟨R, 1, none⟩ x1).setCell ⟨R, 2, none⟩ x2).setCell ⟨R, 3, none⟩ x3) := h2.set 3 x3
  have h4 : QB F W P R row #[x0, x1, x2, x3, x4, y5, y6] (((((wr.setCell ⟨R, 0, none⟩ x0).setCell ⟨R, 1, none⟩ x1).setCell ⟨R, 2, none⟩ x2).setCell ⟨R, 3, none⟩ x3).setCell ⟨R, 4, none⟩ x4) := h3.set 4 x4
  have h5 : QB F W P R row #[x0, x1, x2, x3, x4, x5, y6] ((((((wr.setCell ⟨R, 0, none⟩ x0).setCell ⟨R, 1, none⟩ x1).setCell ⟨R, 2, none⟩ x2).setCell ⟨R, 3, none⟩ x3).setCell ⟨R, 4, none⟩ x4).setCell ⟨R, 5, none⟩ x5) := h4.set 5 x5
  have h6 : QB F W P R row #[x0, x1, x2, x3, x4, x5, x6] (((((((wr.setCell ⟨R, 0, none⟩ x0).setCell ⟨R, 1, none⟩ x1).setCell ⟨R, 2, none⟩ x2).setCell ⟨R, 3, none⟩ x3).setCell ⟨R, 4, none⟩ x4).setCell ⟨R, 5, none⟩ x5).setCell ⟨R, 6, none⟩ x6) := h5.set 6 x6
  exact h6
theorem QB.there {F : Nat → Prop} {W : World} {P R : Nat} {row : Array Value} {y0 y1 y2 y3 y4 y5 y6 : Value} {wr : World} (h : QB F W P R row #[y0, y1, y2, y3, y4, y5, y6] wr) : wr.there R 0 7 := fun j hj => ⟨by rw [cell_of h.ax]; match j, hj with | 0, _ => rfl | 1, _ => rfl | 2, _ => rfl | 3, _ => rfl | 4, _ => rfl | 5, _ => rfl | 6, _ => rfl, free_of h.ax _⟩
theorem R25.seven {A : Nat → Prop} {F : Nat → Prop} {W wr : World} {P R : Nat} {row ar : Array Value} (q : QB F W P R row ar wr) {s m G D : Nat} {c0 : Int} {N st : Nat} {mu : Int} {tk n : Nat} {g : Nat → Option Nat} {l : List (Nat × Nat)} {H : HeldL} (h : R25 A wr s m G D c0 N st mu tk n g l H) (xs : List Value) : R25 A (wr.setCells R 0 xs) s m G D c0 N st mu tk n g l H := by
  obtain ⟨cm, hm⟩ := h.mod.md
  obtain ⟨cg, hg, -⟩ := h.gr
  obtain ⟨cd, hd, -⟩ := h.dr
  have c := chg_seven (w := wr) (R := R) xs 0
  refine ⟨(c.block s (lt_of h.at_) (ne_ty h.at_ q.ax (by decide))).trans h.at_, h.gr.chg c (ne_ty hg q.ax (by decide)), h.dr.chg c (ne_ty hd q.ax (by decide)), h.mod.chg c ?_, h.slot, h.cnt⟩
  rintro k rfl cs t p hk
  rw [q.ax] at hk; injection hk with hk; injection hk with _ hk; subst hk; exact ⟨fun x => absurd x (by decide), by decide, by decide⟩
/-- What a call leaves: an answer, and the store. -/
def Left25 (A : Nat → Prop) (W : World) (s m G D : Nat) (c0 : Int) (N st : Nat) (mu : Int) (n : Nat) (tk : Nat) (g : Nat → Option Nat) (l : List (Nat × Nat)) (H : HeldL) (W' : World) : Prop :=
  (∃ tk' l' H', R25 A W' s m G D c0 N st mu tk' n g l' H' ∧ tk' ≤ max tk (st - 1) ∧ l'.length ≤ l.length + 1 ∧ ∀ z ∈ H', z ∈ H ∨ z.2.2 = l) ∧ Chg (fun k => k = s ∨ k = m ∨ k = G ∨ k = D) W W'
set_option maxRecDepth 100000 in
set_option maxHeartbeats 8000000 in
theorem r25_snap {A : Nat → Prop} {W : World} {s m G D : Nat} {c0 : Int} {N st : Nat} {mu : Int} {tk n : Nat} {g : Nat → Option Nat} {l : List (Nat × Nat)} {H : HeldL} (R5 : R25 A W s m G D c0 N st mu tk n g l H) (hN : N ≤ 256) (hst : 1 ≤ st ∧ st ≤ 4000000) (htk : tk ≤ st) (hgl : l.length ≤ 4398046510000) (hb : ∀ z ∈ H, z.2.2.length ≤ 4398046510000) (hA : ∀ b, A b → b < W.heap.size)
    {k x hk9 : Nat} (hk : k < 18446744073709551616) (hx : x < 18446744073709551616) {od r6 r7 : Int} {r5 : Bool} {kp : Option Addr} {kn kc lo hi : Nat} {ks : List Nat} (hks : KeysAt W kp ks) (hkl : mu ≤ 4398046510000) (hkn : kn = ks.length) (hkb : ∀ bk off, kp = some ⟨bk, off, none⟩ → ks ≠ [] → bk ≠ s ∧ bk ≠ m ∧ bk ≠ G ∧ bk ≠ D) :
    Calls Try.prog 42 #[.pointer (some ⟨s, 0, none⟩), .agg #[.int .u8 5, .int .u64 (k : Int), .int .u64 (x : Int), .int .u64 od, .int .u64 (hk9 : Int), .bool r5, .int .i64 r6, .int .i64 r7, .slice kp kn kc, .int .u64 (lo : Int), .int .u64 (hi : Int)]] W fun e W' => (∃ x0 x1 x2 x3 x4 x5 x6, e = .returned (.agg #[x0, x1, x2, x3, x4, x5, x6]) ∧ (#[x0, x1, x2, x3, x4, x5, x6] : Array Value).all (·.oneCell') = true) ∧ Left25 A W s m G D c0 N st mu n tk g l H W' := by
  have ls : s < W.heap.size := lt_of R5.at_
  have HQ := QB.two (fun k => k = s ∨ k = m ∨ k = G ∨ k = D) W #[.int .u8 5, .int .u64 (k : Int), .int .u64 (x : Int), .int .u64 od, .int .u64 (hk9 : Int), .bool r5, .int .i64 r6, .int .i64 r7, .slice kp kn kc, .int .u64 (lo : Int), .int .u64 (hi : Int)] #[.int .i64 0, .bool false, .int .u64 0, .bool false, .int .u64 0, .slice none 0 0, .int .u64 0]
  have HR := R5.quiet (((Chg.refl _ W).alloc (.cells #[.int .u8 5, .int .u64 (k : Int), .int .u64 (x : Int), .int .u64 od, .int .u64 (hk9 : Int), .bool r5, .int .i64 r6, .int .i64 r7, .slice kp kn kc, .int .u64 (lo : Int), .int .u64 (hi : Int)] 34)).alloc (.cells #[.int .i64 0, .bool false, .int .u64 0, .bool false, .int .u64 0, .slice none 0 0, .int .u64 0] 38))
  have HKS := hks.chg (((Chg.refl (fun _ => False) W).alloc (.cells #[.int .u8 5, .int .u64 (k : Int), .int .u64 (x : Int), .int .u64 od, .int .u64 (hk9 : Int), .bool r5, .int .i64 r6, .int .i64 r7, .slice kp kn kc, .int .u64 (lo : Int), .int .u64 (hi : Int)] 34)).alloc (.cells #[.int .i64 0, .bool false, .int .u64 0, .bool false, .int .u64 0, .slice none 0 0, .int .u64 0] 38)) (fun _ _ _ x => x)
  have lb : m < W.heap.size ∧ G < W.heap.size ∧ D < W.heap.size := by
    obtain ⟨cm, hm⟩ := R5.mod.md
    obtain ⟨cg, hg, -⟩ := R5.gr
    obtain ⟨cd, hd, -⟩ := R5.dr
    exact ⟨lt_of hm, lt_of hg, lt_of hd⟩
  obtain ⟨w1, hw1⟩ : ∃ w1, w1 = (W.alloc (.cells #[.int .u8 5, .int .u64 (k : Int), .int .u64 (x : Int), .int .u64 od, .int .u64 (hk9 : Int), .bool r5, .int .i64 r6, .int .i64 r7, .slice kp kn kc, .int .u64 (lo : Int), .int .u64 (hi : Int)] 34)).alloc (.cells #[.int .i64 0, .bool false, .int .u64 0, .bool false, .int .u64 0, .slice none 0 0, .int .u64 0] 38) := ⟨_, rfl⟩
  obtain ⟨P, hP⟩ : ∃ P, P = W.heap.size := ⟨_, rfl⟩
  obtain ⟨R, hR⟩ : ∃ R, R = W.heap.size + 1 := ⟨_, rfl⟩
  rw [← hw1] at HQ HR HKS
  rw [← hR] at HQ
  have HQ1 : Hid (QB (fun k => k = s ∨ k = m ∨ k = G ∨ k = D) W P R #[.int .u8 5, .int .u64 (k : Int), .int .u64 (x : Int), .int .u64 od, .int .u64 (hk9 : Int), .bool r5, .int .i64 r6, .int .i64 r7, .slice kp kn kc, .int .u64 (lo : Int), .int .u64 (hi : Int)] #[.int .i64 0, .bool false, .int .u64 0, .bool false, .int .u64 0, .slice none 0 0, .int .u64 0] w1) := keepH (by rw [hP]; exact HQ)
  have HR1 := keepH HR
  have HKS1 := keepH HKS
  have HW1 := keepH hw1
  have HP := keepH hP
  have HRR := keepH hR
  have HLB := keepH (And.intro ls lb)
  have HB := keepH (And.intro hN (And.intro hst (And.intro htk (And.intro hgl (And.intro hb (And.intro hA (And.intro hk (And.intro hx (And.intro hkl (And.intro hkn hkb))))))))))
  clear HQ HR HKS hw1 hP hR lb ls R5 hks hN hst htk hgl hb hA hk hx hkl hkn hkb
  go_enter Try.func42, Try.ntmps42
  go_upto_region 1 with fail
  rw [show (W.alloc (.cells #[.int .u8 5, .int .u64 (k : Int), .int .u64 (x : Int), .int .u64 od, .int .u64 (hk9 : Int), .bool r5, .int .i64 r6, .int .i64 r7, .slice kp kn kc, .int .u64 (lo : Int), .int .u64 (hi : Int)] 34)).alloc (.cells #[.int .i64 0, .bool false, .int .u64 0, .bool false, .int .u64 0, .slice none 0 0, .int .u64 0] 38) = w1 from HW1.out.symm, ← HRR.out, ← HP.out]
  clear HW1 HP HRR
  have wN : IntKind.i64.wrap ((N : Int) - 1) = (N : Int) - 1 := by have := HB.out.1; rw [IntKind.wrap_i64]; omega
  have s6 : w1.cell? ⟨s, 6, none⟩ = some (.slice (some ⟨D, 0, none⟩) N N) := cell_of HR1.out.at_ 6
  have s5 : w1.cell? ⟨s, 5, none⟩ = some (.slice (some ⟨G, 0, none⟩) N N) := cell_of HR1.out.at_ 5
  go_wp2_with fail
  go_loopw [5, 6] (fun a b wr => ∃ (x : Int) (i : Int), a = .int .i64 x ∧ b = .int .i64 i ∧ wr = w1 ∧ -1 ≤ x ∧ x < (N : Int) ∧ -1 ≤ i ∧ i < (N : Int)) (fun _ b _ => (intOf b + 1).toNat)
  case atStart => exact ⟨-1, (N : Int) - 1, rfl, rfl, by first | rfl | trivial, by omega, by omega, by omega, by omega⟩
  case round =>
    obtain ⟨x9, i, rfl, rfl, rfl, hx1, hx2, hi1, hi2⟩ := hrel
    by_cases hi0 : 0 ≤ i
    · obtain ⟨j, rfl⟩ : ∃ j : Nat, i = (j : Int) := ⟨i.toNat, by omega⟩
      have hjN : j < N := by omega
      obtain ⟨b, d1, -⟩ := HR1.out.dr.get hjN
      obtain ⟨y, hy, g1, -⟩ := HR1.out.gr.get hjN
      have HN := HB.out.1
      have qN : (j : Int) < (N : Int) := hi2
      have HJ : Hid (j < N ∧ N ≤ 256) := ⟨hjN, HN⟩
      have HX : Hid (-1 ≤ x9 ∧ x9 < (N : Int)) := ⟨hx1, hx2⟩
      have wJ : IntKind.i64.wrap ((j : Int) - 1) = (j : Int) - 1 := by rw [IntKind.wrap_i64]; omega
      clear hjN HN hy hx1 hx2 hi1 hi2
      cases b with
      | true =>
        go_wp2_with fail
        go_roundw
        case rel => exact ⟨x9, (j : Int) - 1, rfl, rfl, by first | rfl | trivial, HX.out.1, HX.out.2, by omega, by omega⟩
        case measure => have := HJ.out; (simp [intOf] <;> omega)
      | false =>
        by_cases q : (y : Int) < 1048575
        · have q1 : decide ((y : Int) < 1048575) = true := by simp; omega
          go_wp2_with fail
          go_roundw
          case rel => exact ⟨(j : Int), (j : Int) - 1, rfl, rfl, by first | rfl | trivial, by omega, by have := HJ.out; omega, by omega, by have := HJ.out; omega⟩
          case measure => have := HJ.out; (simp [intOf] <;> omega)
        · have q1 : decide ((y : Int) < 1048575) = false := by simp; omega
          go_wp2_with fail
          go_roundw
          case rel => exact ⟨x9, (j : Int) - 1, rfl, rfl, by first | rfl | trivial, HX.out.1, HX.out.2, by omega, by have := HJ.out; omega⟩
          case measure => have := HJ.out; (simp [intOf] <;> omega)
    · have q1 : ¬ 0 ≤ i := hi0
      have HX : Hid (-1 ≤ x9 ∧ x9 < (N : Int)) := ⟨hx1, hx2⟩
      clear hx1 hx2 hi1 hi2 hi0
      by_cases hneg : x9 < 0
      · have q2 : decide (x9 < 0) = true := by simp; exact hneg
        go_wp2_with (refine wpList_store_mid rfl 38 (.tmp 4) (.tmp 38) rfl R 0 #[.int .i64 32, .bool false, .int .u64 0, .bool false, .int .u64 0, .slice none 0 0, .int .u64 0] rfl rfl HQ1.out.there (by kernel_rfl) (by simp [Value.oneCell']) ?_; have HQ9 := keepH (HQ1.out.seven (.int .i64 32) (.bool false) (.int .u64 0) (.bool false) (.int .u64 0) (.slice none 0 0) (.int .u64 0)))
        have e0 := cell_of HQ9.out.ax 0
        have e1 := cell_of HQ9.out.ax 1
        have e2 := cell_of HQ9.out.ax 2
        have e3 := cell_of HQ9.out.ax 3
        have e4 := cell_of HQ9.out.ax 4
        have e5 := cell_of HQ9.out.ax 5
        have e6 := cell_of HQ9.out.ax 6
        simp at e0 e1 e2 e3 e4 e5 e6
        go_wp2_with fail
        (try simp only [Exit.inBlock, Exit.then])
        refine bodyPost_ret (v := .agg #[.int .i64 32, .bool false, .int .u64 0, .bool false, .int .u64 0, .slice none 0 0, .int .u64 0]) (by simp [results, Try.results42, go_sem, e0, e1, e2, e3, e4, e5, e6]) rfl ?_
        exact ⟨⟨_, _, _, _, _, _, _, rfl, by simp [Value.oneCell']⟩, ⟨_, l, H, R25.seven HQ1.out HR1.out _, by omega, by omega, fun z hz => .inl hz⟩, HQ9.out.ch⟩
      · have q2 : decide (x9 < 0) = false := by simp; omega
        obtain ⟨j, rfl⟩ : ∃ j : Nat, x9 = (j : Int) := ⟨x9.toNat, by omega⟩
        have hjN : j < N := by have := HX.out; omega
        have HJ := keepH hjN
        have t7 : wr.cell? ⟨s, 7, none⟩ = some (.int .u64 (tk : Int)) := cell_of HR1.out.at_ 7
        have t2 : wr.cell? ⟨s, 2, none⟩ = some (.int .u64 (st : Int)) := cell_of HR1.out.at_ 2
        have hwr : IntKind.u64.wrap ((st : Int) - 1) = (st : Int) - 1 := by have := HB.out.2.1; rw [IntKind.wrap_u64]; omega
        clear hjN hneg
        by_cases hs : (st : Int) - 1 ≤ (tk : Int)
        · have q3 : decide ((st : Int) - 1 ≤ (tk : Int)) = true := by simp; omega
          go_upto_region 10 with (go_quiet (fail))
          have HQD := keepH (HQ1.out.off (chg_dn (Chg.refl (fun _ => False) wr) nq))
          have HRD := keepH (HR1.out.quiet (chg_dn (Chg.refl (fun _ => False) wr) nq))
          go_wp2_with (refine wpList_store_mid rfl 38 (.tmp 4) (.tmp 50) rfl R 0 #[.int .i64 31, .bool false, .int .u64 0, .bool false, .int .u64 0, .slice none 0 0, .int .u64 0] rfl rfl HQD.out.there (by kernel_rfl) (by simp [Value.oneCell']) ?_; have HQ9 := keepH (HQD.out.seven (.int .i64 31) (.bool false) (.int .u64 0) (.bool false) (.int .u64 0) (.slice none 0 0) (.int .u64 0)))
          have e0 := cell_of HQ9.out.ax 0
          have e1 := cell_of HQ9.out.ax 1
          have e2 := cell_of HQ9.out.ax 2
          have e3 := cell_of HQ9.out.ax 3
          have e4 := cell_of HQ9.out.ax 4
          have e5 := cell_of HQ9.out.ax 5
          have e6 := cell_of HQ9.out.ax 6
          simp at e0 e1 e2 e3 e4 e5 e6
          go_wp2_with fail
          (try simp only [Exit.inBlock, Exit.then])
          refine bodyPost_ret (v := .agg #[.int .i64 31, .bool false, .int .u64 0, .bool false, .int .u64 0, .slice none 0 0, .int .u64 0]) (by simp [results, Try.results42, go_sem, e0, e1, e2, e3, e4, e5, e6]) rfl ?_
          exact ⟨⟨_, _, _, _, _, _, _, rfl, by simp [Value.oneCell']⟩, ⟨_, l, H, R25.seven HQD.out HRD.out _, by omega, by omega, fun z hz => .inl hz⟩, HQ9.out.ch⟩
        · have q3 : decide ((st : Int) - 1 ≤ (tk : Int)) = false := by simp; omega
          go_upto_region 11 with (go_quiet (fail))
          have HQD := keepH (HQ1.out.off (chg_dn (Chg.refl (fun _ => False) wr) nq))
          have HRD := keepH (HR1.out.quiet (chg_dn (Chg.refl (fun _ => False) wr) nq))
          have hwt : IntKind.u64.wrap ((tk : Int) + 1) = ((tk + 1 : Nat) : Int) := by have := HB.out.2.1; have := HB.out.2.2.1; rw [IntKind.wrap_u64]; omega
          have HT : Hid (tk + 1 ≤ st - 1) := by have := HB.out.2.1; show _ ≤ _; omega
          obtain ⟨w0, hw0⟩ : ∃ w0, w0 = wr.drewN nq := ⟨_, rfl⟩
          have HC0 : Hid (Chg (fun _ => False) wr w0) := keepH (by rw [hw0]; exact chg_dn (Chg.refl (fun _ => False) wr) nq)
          rw [← hw0] at HQD HRD ⊢
          clear hw0 t7 t2 s6 s5 q3 hs
          have t7 : w0.cell? ⟨s, 7, none⟩ = some (.int .u64 (tk : Int)) := cell_of HRD.out.at_ 7
          have f7 : w0.frozen? ⟨s, 7, none⟩ = false := free_of HRD.out.at_ 7
          go_upto_region 12 with fail
          refine gen_world (P := fun w => Code.wp _ _ _ _ w) ?_
          intro w2 hw2
          have HR2 : Hid (R25 A w2 s m G D c0 N st mu (tk + 1) n g l H) := keepH (by rw [hw2]; exact HRD.out.take)
          have HC2 : Hid (Chg (fun k => k = s ∨ k = m ∨ k = G ∨ k = D) w0 w2) := keepH (by rw [hw2]; exact (Chg.refl (fun k => k = s ∨ k = m ∨ k = G ∨ k = D) _).setCell (fun _ => .inl rfl) _)
          have HQ2 := keepH (HQD.out.on HC2.out (fun k x => ⟨x, by have := HLB.out; omega⟩))
          clear hw2 t7 f7
          obtain ⟨b9, d9, f9⟩ := HR2.out.dr.get HJ.out
          have s6 : w2.cell? ⟨s, 6, none⟩ = some (.slice (some ⟨D, 0, none⟩) N N) := cell_of HR2.out.at_ 6
          have qj : (j : Int) < (N : Int) := by have := HJ.out; omega
          go_upto_region 13 with fail
          refine gen_world (P := fun w => Code.wp _ _ _ _ w) ?_
          intro w3 hw3
          have HR3 : Hid (R25 A w3 s m G D c0 N st mu (tk + 1) n g l H) := keepH (by rw [hw3]; exact HR2.out.hold j true)
          have HC3 : Hid (Chg (fun k => k = s ∨ k = m ∨ k = G ∨ k = D) w0 w3) := keepH (by rw [hw3]; exact HC2.out.setCell (fun _ => .inr (.inr (.inr rfl))) _)
          have HQ3 : Hid (QB (fun k => k = s ∨ k = m ∨ k = G ∨ k = D) W P R #[.int .u8 5, .int .u64 (k : Int), .int .u64 (x : Int), .int .u64 od, .int .u64 (hk9 : Int), .bool r5, .int .i64 r6, .int .i64 r7, .slice kp kn kc, .int .u64 (lo : Int), .int .u64 (hi : Int)] #[.int .i64 0, .bool false, .int .u64 0, .bool false, .int .u64 0, .slice none 0 0, .int .u64 0] w3) := keepH (HQD.out.on HC3.out (fun k x => ⟨x, by have := HLB.out; omega⟩))
          have HK3 : Hid (KeysAt w3 kp ks) := keepH (HKS1.out.chgN (HC0.out.trans HC3.out (H := fun k => k = s ∨ k = m ∨ k = G ∨ k = D) (fun _ _ x => x.elim) (fun _ _ x => x)) (fun bk off e e2 x => by have := HB.out.2.2.2.2.2.2.2.2.2.2 bk off e e2; omega))
          clear hw3 d9 f9 s6 HC2 HQ2 HR2 HQD HRD
          obtain ⟨y, hy, g1, -⟩ := HR3.out.gr.get HJ.out
          obtain ⟨yy, hyy⟩ : ∃ yy : Nat, (yy : Int) = (y : Int) * 65536 % 18446744073709551616 := ⟨((y : Int) * 65536 % 18446744073709551616).toNat, by omega⟩
          obtain ⟨hd, hhd⟩ : ∃ hd : Nat, (hd : Int) = ((j : Int) + 1 + (yy : Int)) % 18446744073709551616 := ⟨(((j : Int) + 1 + (yy : Int)) % 18446744073709551616).toNat, by omega⟩
          have HHD : Hid (hd < 18446744073709551616 ∧ 1 ≤ hd % 65536 ∧ hd % 65536 ≤ N) := by have := HJ.out; have := HB.out.1; show _ ∧ _; omega
          have v1 : IntKind.u64.wrap (j : Int) = (j : Int) := by have := HJ.out; have := HB.out.1; rw [IntKind.wrap_u64]; omega
          have v2 : IntKind.u64.wrap ((j : Int) + 1) = (j : Int) + 1 := by have := HJ.out; have := HB.out.1; rw [IntKind.wrap_u64]; omega
          have v3 : IntKind.u64.wrap ((y : Int) * 65536) = (yy : Int) := by rw [IntKind.wrap_u64]; omega
          have v4 : IntKind.u64.wrap ((j : Int) + 1 + (yy : Int)) = (hd : Int) := by rw [IntKind.wrap_u64]; omega
          have HG1 := keepH g1
          have HDO : Hid (∀ w, Chg (fun _ => False) w3 w → Calls Try.prog 28 #[.pointer (some ⟨m, 0, none⟩), .agg #[.int .u8 5, .int .u64 (k : Int), .int .u64 (x : Int), .int .u64 od, .int .u64 (hk9 : Int), .bool r5, .int .i64 r6, .int .i64 r7, .slice kp kn kc, .int .u64 (lo : Int), .int .u64 (hi : Int)], .int .u64 (hd : Int)] w (DoneAny A w m mu 5 hk9 hd g g l H)) := keepH (fun w hc => by
            have e := do_all6 (hd := hd) (kd := 5) (HR3.out.mod.quiet hc) HB.out.2.2.2.1 (by have := HR3.out.cnt; have := HT.out; have := HB.out.2.1; omega) HB.out.2.2.2.2.1 (fun b hb => by have := HB.out.2.2.2.2.2.1 b hb; have := HQ3.out.ch.size; have := hc.size; omega) HB.out.2.2.2.2.2.2.1 HB.out.2.2.2.2.2.2.2.1 HHD.out.1 (od := od) (r6 := r6) (r7 := r7) (r5 := r5) (kc := kc) (lo := lo) (hi := hi) (hk9 := hk9) (HK3.out.chg hc (fun _ _ _ x => x)) HB.out.2.2.2.2.2.2.2.2.1 HB.out.2.2.2.2.2.2.2.2.2.1
            rw [stepG_else (by decide) (by decide) (by decide)] at e
            exact e)
          have HS3 : Hid ((fun w => w.heap[s]? = some (.cells #[.int .i64 c0, .int .i64 (N : Int), .int .u64 (st : Int), .int .i64 mu, .pointer (some ⟨m, 0, none⟩), .slice (some ⟨G, 0, none⟩) N N, .slice (some ⟨D, 0, none⟩) N N, .int .u64 ((tk + 1 : Nat) : Int), .int .i64 (n : Int)] 95 (0, 0)) ∧ w.heap[P]? = some (.cells #[.int .u8 5, .int .u64 (k : Int), .int .u64 (x : Int), .int .u64 od, .int .u64 (hk9 : Int), .bool r5, .int .i64 r6, .int .i64 r7, .slice kp kn kc, .int .u64 (lo : Int), .int .u64 (hi : Int)] 34 (0, 0)) ∧ w.cell? ⟨G, j, none⟩ = some (.int .u64 (y : Int))) w3.drew) := keepH ⟨HR3.out.at_, HQ3.out.ox, HG1.out⟩
          have HAP : Hid (¬ G = m) := Ne.symm HR3.out.ap.2.2.2.1
          have HNG : Hid (¬ G = R) := by obtain ⟨cg, hg, -⟩ := HR3.out.gr; exact ne_ty hg HQ3.out.ax (by decide)
          clear hyy hhd hy g1
          refine wp_region_held_drew (S := fun w => w.heap[s]? = some (.cells #[.int .i64 c0, .int .i64 (N : Int), .int .u64 (st : Int), .int .i64 mu, .pointer (some ⟨m, 0, none⟩), .slice (some ⟨G, 0, none⟩) N N, .slice (some ⟨D, 0, none⟩) N N, .int .u64 ((tk + 1 : Nat) : Int), .int .i64 (n : Int)] 95 (0, 0)) ∧ w.heap[P]? = some (.cells #[.int .u8 5, .int .u64 (k : Int), .int .u64 (x : Int), .int .u64 od, .int .u64 (hk9 : Int), .bool r5, .int .i64 r6, .int .i64 r7, .slice kp kn kc, .int .u64 (lo : Int), .int .u64 (hi : Int)] 34 (0, 0)) ∧ w.cell? ⟨G, j, none⟩ = some (.int .u64 (y : Int))) (by kernel_rfl) (HS3.out) ?_
          intro hHeld
          refine wpAnyH_take (i := 0) (v := ?_) rfl (by kernel_rfl) (by kernel_rfl) (by kernel_rfl) (fun _ _ _ h => h) (Or.inl ⟨by rfl, ?_⟩) hHeld ?_
          rotate_left
          · intro w hSw
            (try dsimp only at hSw)
            go_simp
            try with_reducible rfl
          (try simp only [Act.put]); (try simp only [List.setIfInBounds_toArray]); (try simp only [List.getElem_toArray]); (repeat (first | simp only [List.getElem_cons_succ] | simp only [List.getElem_cons_zero])); (repeat (first | simp only [List.set_cons_succ] | simp only [List.set_cons_zero]))
          refine wpAnyH_take (i := 1) (v := ?_) rfl (by kernel_rfl) (by kernel_rfl) (by kernel_rfl) (fun _ _ _ h => h) (Or.inl ⟨by rfl, ?_⟩) hHeld ?_
          rotate_left
          · intro w hSw
            (try dsimp only at hSw)
            go_simp
            try with_reducible rfl
          (try simp only [Act.put]); (try simp only [List.setIfInBounds_toArray]); (try simp only [List.getElem_toArray]); (repeat (first | simp only [List.getElem_cons_succ] | simp only [List.getElem_cons_zero])); (repeat (first | simp only [List.set_cons_succ] | simp only [List.set_cons_zero]))
          refine wpAnyH_take (i := 2) (v := ?_) rfl (by kernel_rfl) (by kernel_rfl) (by kernel_rfl) (fun _ _ _ h => h) (Or.inl ⟨by rfl, ?_⟩) hHeld ?_
          rotate_left
          · intro w hSw
            (try dsimp only at hSw)
            go_simp
            try with_reducible rfl
          (try simp only [Act.put]); (try simp only [List.setIfInBounds_toArray]); (try simp only [List.getElem_toArray]); (repeat (first | simp only [List.getElem_cons_succ] | simp only [List.getElem_cons_zero])); (repeat (first | simp only [List.set_cons_succ] | simp only [List.set_cons_zero]))
          refine wpAnyH_take (i := 3) (v := ?_) rfl (by kernel_rfl) (by kernel_rfl) (by kernel_rfl) (fun _ _ _ h => h) (Or.inl ⟨by rfl, ?_⟩) hHeld ?_
          rotate_left
          · intro w hSw
            (try dsimp only at hSw)
            have y4 := cell_of hSw.1 4
            go_simp
            try with_reducible rfl
          (try simp only [Act.put]); (try simp only [List.setIfInBounds_toArray]); (try simp only [List.getElem_toArray]); (repeat (first | simp only [List.getElem_cons_succ] | simp only [List.getElem_cons_zero])); (repeat (first | simp only [List.set_cons_succ] | simp only [List.set_cons_zero]))
          refine wpAnyH_take (i := 4) (v := ?_) rfl (by kernel_rfl) (by kernel_rfl) (by kernel_rfl) (fun _ _ _ h => h) (Or.inl ⟨by rfl, ?_⟩) hHeld ?_
          rotate_left
          · intro w hSw
            (try dsimp only at hSw)
            have o0 := cell_of hSw.2.1 0
            have o1 := cell_of hSw.2.1 1
            have o2 := cell_of hSw.2.1 2
            have o3 := cell_of hSw.2.1 3
            have o4 := cell_of hSw.2.1 4
            have o5 := cell_of hSw.2.1 5
            have o6 := cell_of hSw.2.1 6
            have o7 := cell_of hSw.2.1 7
            have o8 := cell_of hSw.2.1 8
            have o9 := cell_of hSw.2.1 9
            have o10 := cell_of hSw.2.1 10
            go_simp
            try with_reducible rfl
          (try simp only [Act.put]); (try simp only [List.setIfInBounds_toArray]); (try simp only [List.getElem_toArray]); (repeat (first | simp only [List.getElem_cons_succ] | simp only [List.getElem_cons_zero])); (repeat (first | simp only [List.set_cons_succ] | simp only [List.set_cons_zero]))
          refine wpAnyH_take (i := 5) (v := ?_) rfl (by kernel_rfl) (by kernel_rfl) (by kernel_rfl) (fun _ _ _ h => h) (Or.inl ⟨by rfl, ?_⟩) hHeld ?_
          rotate_left
          · intro w hSw
            (try dsimp only at hSw)
            go_simp
            try with_reducible rfl
          (try simp only [Act.put]); (try simp only [List.setIfInBounds_toArray]); (try simp only [List.getElem_toArray]); (repeat (first | simp only [List.getElem_cons_succ] | simp only [List.getElem_cons_zero])); (repeat (first | simp only [List.set_cons_succ] | simp only [List.set_cons_zero]))
          refine wpAnyH_take (i := 6) (v := ?_) rfl (by kernel_rfl) (by kernel_rfl) (by kernel_rfl) (fun _ _ _ h => h) (Or.inl ⟨by rfl, ?_⟩) hHeld ?_
          rotate_left
          · intro w hSw
            (try dsimp only at hSw)
            go_simp
            try with_reducible rfl
          (try simp only [Act.put]); (try simp only [List.setIfInBounds_toArray]); (try simp only [List.getElem_toArray]); (repeat (first | simp only [List.getElem_cons_succ] | simp only [List.getElem_cons_zero])); (repeat (first | simp only [List.set_cons_succ] | simp only [List.set_cons_zero]))
          refine wpAnyH_take (i := 7) (v := ?_) rfl (by kernel_rfl) (by kernel_rfl) (by kernel_rfl) (fun _ _ _ h => h) (Or.inl ⟨by rfl, ?_⟩) hHeld ?_
          rotate_left
          · intro w hSw
            (try dsimp only at hSw)
            go_simp
            try with_reducible rfl
          (try simp only [Act.put]); (try simp only [List.setIfInBounds_toArray]); (try simp only [List.getElem_toArray]); (repeat (first | simp only [List.getElem_cons_succ] | simp only [List.getElem_cons_zero])); (repeat (first | simp only [List.set_cons_succ] | simp only [List.set_cons_zero]))
          refine wpAnyH_take (i := 8) (v := ?_) rfl (by kernel_rfl) (by kernel_rfl) (by kernel_rfl) (fun _ _ _ h => h) (Or.inl ⟨by rfl, ?_⟩) hHeld ?_
          rotate_left
          · intro w hSw
            (try dsimp only at hSw)
            go_simp
            try with_reducible rfl
          (try simp only [Act.put]); (try simp only [List.setIfInBounds_toArray]); (try simp only [List.getElem_toArray]); (repeat (first | simp only [List.getElem_cons_succ] | simp only [List.getElem_cons_zero])); (repeat (first | simp only [List.set_cons_succ] | simp only [List.set_cons_zero]))
          refine wpAnyH_take (i := 9) (v := ?_) rfl (by kernel_rfl) (by kernel_rfl) (by kernel_rfl) (fun _ _ _ h => h) (Or.inl ⟨by rfl, ?_⟩) hHeld ?_
          rotate_left
          · intro w hSw
            (try dsimp only at hSw)
            go_simp
            try with_reducible rfl
          (try simp only [Act.put]); (try simp only [List.setIfInBounds_toArray]); (try simp only [List.getElem_toArray]); (repeat (first | simp only [List.getElem_cons_succ] | simp only [List.getElem_cons_zero])); (repeat (first | simp only [List.set_cons_succ] | simp only [List.set_cons_zero]))
          refine wpAnyH_take (i := 10) (v := ?_) rfl (by kernel_rfl) (by kernel_rfl) (by kernel_rfl) (fun _ _ _ h => h) (Or.inl ⟨by rfl, ?_⟩) hHeld ?_
          rotate_left
          · intro w hSw
            (try dsimp only at hSw)
            go_simp
            try with_reducible rfl
          (try simp only [Act.put]); (try simp only [List.setIfInBounds_toArray]); (try simp only [List.getElem_toArray]); (repeat (first | simp only [List.getElem_cons_succ] | simp only [List.getElem_cons_zero])); (repeat (first | simp only [List.set_cons_succ] | simp only [List.set_cons_zero]))
          refine wpAnyH_take (i := 11) (v := ?_) rfl (by kernel_rfl) (by kernel_rfl) (by kernel_rfl) (fun _ _ _ h => h) (Or.inl ⟨by rfl, ?_⟩) hHeld ?_
          rotate_left
          · intro w hSw
            (try dsimp only at hSw)
            have y5 := cell_of hSw.1 5
            go_simp
            try with_reducible rfl
          (try simp only [Act.put]); (try simp only [List.setIfInBounds_toArray]); (try simp only [List.getElem_toArray]); (repeat (first | simp only [List.getElem_cons_succ] | simp only [List.getElem_cons_zero])); (repeat (first | simp only [List.set_cons_succ] | simp only [List.set_cons_zero]))
          refine wpAnyH_take (i := 12) (v := ?_) rfl (by kernel_rfl) (by kernel_rfl) (by kernel_rfl) (fun _ _ _ h => h) (Or.inl ⟨by rfl, ?_⟩) hHeld ?_
          rotate_left
          · intro w hSw
            (try dsimp only at hSw)
            go_simp
            try with_reducible rfl
          (try simp only [Act.put]); (try simp only [List.setIfInBounds_toArray]); (try simp only [List.getElem_toArray]); (repeat (first | simp only [List.getElem_cons_succ] | simp only [List.getElem_cons_zero])); (repeat (first | simp only [List.set_cons_succ] | simp only [List.set_cons_zero]))
          refine wpAnyH_take (i := 13) (v := ?_) rfl (by kernel_rfl) (by kernel_rfl) (by kernel_rfl) (fun _ _ _ h => h) (Or.inl ⟨by rfl, ?_⟩) hHeld ?_
          rotate_left
          · intro w hSw
            (try dsimp only at hSw)
            go_simp
            try with_reducible rfl
          (try simp only [Act.put]); (try simp only [List.setIfInBounds_toArray]); (try simp only [List.getElem_toArray]); (repeat (first | simp only [List.getElem_cons_succ] | simp only [List.getElem_cons_zero])); (repeat (first | simp only [List.set_cons_succ] | simp only [List.set_cons_zero]))
          refine wpAnyH_take (i := 14) (v := ?_) rfl (by kernel_rfl) (by kernel_rfl) (by kernel_rfl) (fun _ _ _ h => h) (Or.inl ⟨by rfl, ?_⟩) hHeld ?_
          rotate_left
          · intro w hSw
            (try dsimp only at hSw)
            have y6 := hSw.2.2
            go_simp
            try with_reducible rfl
          (try simp only [Act.put]); (try simp only [List.setIfInBounds_toArray]); (try simp only [List.getElem_toArray]); (repeat (first | simp only [List.getElem_cons_succ] | simp only [List.getElem_cons_zero])); (repeat (first | simp only [List.set_cons_succ] | simp only [List.set_cons_zero]))
          refine wpAnyH_take (i := 15) (v := ?_) rfl (by kernel_rfl) (by kernel_rfl) (by kernel_rfl) (fun _ _ _ h => h) (Or.inl ⟨by rfl, ?_⟩) hHeld ?_
          rotate_left
          · intro w hSw
            (try dsimp only at hSw)
            go_simp
            try with_reducible rfl
          (try simp only [Act.put]); (try simp only [List.setIfInBounds_toArray]); (try simp only [List.getElem_toArray]); (repeat (first | simp only [List.getElem_cons_succ] | simp only [List.getElem_cons_zero])); (repeat (first | simp only [List.set_cons_succ] | simp only [List.set_cons_zero]))
          refine wpAnyH_take (i := 16) (v := ?_) rfl (by kernel_rfl) (by kernel_rfl) (by kernel_rfl) (fun _ _ _ h => h) (Or.inl ⟨by rfl, ?_⟩) hHeld ?_
          rotate_left
          · intro w hSw
            (try dsimp only at hSw)
            go_simp
            try with_reducible rfl
          (try simp only [Act.put]); (try simp only [List.setIfInBounds_toArray]); (try simp only [List.getElem_toArray]); (repeat (first | simp only [List.getElem_cons_succ] | simp only [List.getElem_cons_zero])); (repeat (first | simp only [List.set_cons_succ] | simp only [List.set_cons_zero]))
          refine wpAnyH_ready (rs := [17]) (by kernel_rfl) (by simp) ?_
          refine AllReadyH.cons rfl (fun KK hKK => ?_) AllReadyH.nil
          go_simp
          refine (HDO.out _ (chg_dn (Chg.refl _ _) 1)).mono ?_
          rintro e w5 ⟨⟨E, x1, x2, x3, x4, x5, x6, rfl, ho, -⟩, ⟨l', H', hm, hl1, hl2, hz⟩, hc5⟩
          have hR5 := (HR3.out.quiet (chg_dn (Chg.refl (fun _ => False) w3) 1)).call hc5 hm (fun z hz9 => by rcases hz z hz9 with q | ⟨rfl, -⟩; exact HR3.out.slot z q; exact HHD.out.2) (Nat.le_trans hl2 (Nat.add_le_add_right HR1.out.cnt 1))
          have HR5 := keepH hR5
          have HX5 : Hid ((#[.int .i64 E, x1, x2, x3, x4, x5, x6] : Array Value).all (·.oneCell') = true ∧ l'.length ≤ l.length + 1 ∧ ∀ z ∈ H', z ∈ H ∨ z.2.2 = l) := ⟨ho, hl1, fun z hz9 => (hz z hz9).imp id (fun q => by rw [q.1])⟩
          have HQ5 := keepH ((HQ3.out.off (chg_dn (Chg.refl (fun _ => False) w3) 1)).on hc5 (fun k x => ⟨.inr (.inl x), by have := HLB.out; omega⟩))
          have hcc := And.intro HR5.out.at_ (And.intro HQ5.out.ox (cell_chg hc5 HG1.out HAP.out))
          clear hR5 hm hl1 hl2 hz hc5 ho
          refine hKK.out _ _ ?_ (fun hHeld => ?_)
          · exact hcc
          clear hKK KK
          (try simp only [Act.put]); (try simp only [List.setIfInBounds_toArray]); (try simp only [List.getElem_toArray]); (repeat (first | simp only [List.getElem_cons_succ] | simp only [List.getElem_cons_zero])); (repeat (first | simp only [List.set_cons_succ] | simp only [List.set_cons_zero]))
          refine wpAnyH_ready (rs := [18]) (by kernel_rfl) (by simp) ?_
          refine AllReadyH.cons rfl (fun KK hKK => ?_) AllReadyH.nil
          refine step_store_row6 rfl 38 (.tmp 4) (.tmp 81) rfl R 0 #[.int .i64 E, x1, x2, x3, x4, x5, x6] rfl rfl HQ5.out.there (by kernel_rfl) HX5.out.1 ?_
          have HQ6 := keepH (HQ5.out.seven (.int .i64 E) x1 x2 x3 x4 x5 x6)
          have HR6 := keepH (R25.seven HQ5.out HR5.out [.int .i64 E, x1, x2, x3, x4, x5, x6])
          have hcc := And.intro HR6.out.at_ (And.intro HQ6.out.ox (cell_chg (chg_seven (w := w5) (R := R) [.int .i64 E, x1, x2, x3, x4, x5, x6] 0) hcc.2.2 HNG.out))
          refine hKK.out _ _ ?_ (fun hHeld => ?_)
          · exact hcc
          clear hKK KK
          (try simp only [Act.put]); (try simp only [List.setIfInBounds_toArray]); (try simp only [List.getElem_toArray]); (repeat (first | simp only [List.getElem_cons_succ] | simp only [List.getElem_cons_zero])); (repeat (first | simp only [List.set_cons_succ] | simp only [List.set_cons_zero]))
          refine wpAnyH_done (by kernel_rfl) ?_ _
          go_simp
          have e0 := cell_of HQ6.out.ax 0
          have e1 := cell_of HQ6.out.ax 1
          have e2 := cell_of HQ6.out.ax 2
          have e3 := cell_of HQ6.out.ax 3
          have e4 := cell_of HQ6.out.ax 4
          have e5 := cell_of HQ6.out.ax 5
          have e6 := cell_of HQ6.out.ax 6
          simp at e0 e1 e2 e3 e4 e5 e6
          clear hHeld HDO HS3
          go_wp2_with fail
          (try simp only [Exit.inBlock, Exit.then])
          refine bodyPost_ret (v := .agg #[.int .i64 E, x1, x2, x3, x4, x5, x6]) (by simp [results, Try.results42, go_sem, e0, e1, e2, e3, e4, e5, e6]) rfl ?_
          exact ⟨⟨_, _, _, _, _, _, _, rfl, by simpa using HX5.out.1⟩, ⟨_, l', H', HR6.out, by have := HT.out; omega, HX5.out.2.1, HX5.out.2.2⟩, HQ6.out.ch⟩
end Go.Proofs.Ytahgaghokpicgaa
