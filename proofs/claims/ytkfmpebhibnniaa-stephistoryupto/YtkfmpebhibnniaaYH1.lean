/- The document's runner: a thread is told what its access told, beside what stays. -/
import Derived.Test.YtkfmpebhibnniaaYH0
import Derived.Test.YtkfmpebhibnniaaYc

namespace Go.Proofs.Ytkfmpebhibnniaa
open Go.RowKit Go.Shelf
set_option linter.unusedVariables false

theorem RM.tcell {W : World} {R : Nat → Prop} {nm most next : Nat} {cs : List Nat} {t : List Acc} (h : RM W R nm most next cs t) : ∃ p c, W.cell? ⟨nm, 2, none⟩ = some (.slice p t.length c) := by
  obtain ⟨l, ⟨nc, av, os, h⟩, e⟩ := h
  obtain ⟨p, c, rfl⟩ := slice_of h.acc
  have e2 : l.length = t.length := by rw [← e]; simp
  exact ⟨p, c, by rw [cell_of h.blk 2, ← e2]; rfl⟩
theorem valR_get {f : Nat → Value} {T i : Nat} (h : i < T) : (valR f T)[i]? = some (f i) := by simp [valR, h]
theorem nst_done (q : PlP) (a : Nat) : decide (nst q ≤ a + 1) = (q.none || decide (q.L.length ≤ a + 1)) := by
  unfold nst
  cases q.none with
  | true => simp
  | false =>
    simp only [Bool.false_eq_true, if_false, Bool.false_or]
    split
    · rename_i h; rw [decide_eq_true (by omega), decide_eq_true (by omega)]
    · rfl
section
variable {X w7 w8 : World} {B : Nat} {tg : Nat → Nat} {r nm T st gc ga gg : Nat} {p : Option Addr} {c8 : Nat} {ev wv : Value} {es : List Ev} {ws : List Int} {gv : Nat → Value} {gl : Nat → List Nat} {R : Nat → Prop} {m : Mu} {t : List Acc} {call at_ : Nat → Nat} {K : Nat → Prop} {pb db : Nat} {ob : Obj} {dc : Array Value}
/-- Behind the access. -/
structure MadeR (X w7 : World) (B : Nat) (tg : Nat → Nat) (r nm T st gc ga gg : Nat) (p : Option Addr) (c8 : Nat) (ev wv : Value) (es : List Ev) (ws : List Int) (gv : Nat → Value) (gl : Nat → List Nat) (R : Nat → Prop) (m : Mu) (t : List Acc) (call at_ : Nat → Nat) (K : Nat → Prop) (pb db : Nat) (ob : Obj) (dc : Array Value) (i : Nat) (sv : Value) : Prop where
  d : D4At w7 B tg r nm T st gc ga gg p c8 ev wv es ws gv gl R m t call at_
  mp : DM X w7 B tg K pb ob
  md : DM X w7 B tg K db (.cells dc 53 (0, 0))
  gy : w7.cell? ⟨gg, i, none⟩ = some sv
  gya : ∀ o, (w7.alloc o).cell? ⟨gg, i, none⟩ = some sv
  rb : ∀ o, (w7.alloc o).heap[r]? = w7.heap[r]?
  db_ : ∀ o, (w7.alloc o).heap[db]? = some (.cells dc 53 (0, 0))
theorem made_end {w6 : World} {R' : Nat → Prop} {m' : Mu} {t' : List Acc} (h : D4At w6 B tg r nm T st gc ga gg p c8 ev wv es ws gv gl R m t call at_) (hM : DM X w6 B tg K pb ob) (hE : DM X w6 B tg K db (.cells dc 53 (0, 0))) (hR : RM w7 R' nm 200 m'.next m'.cs t') (g : Goes w6 w7 R R') (ht : t.length ≤ t'.length ∧ t'.length ≤ st + 1) (hm : m'.next ≤ 200) (i : Nat) (hi : i < T) {sv : Value} (hsv : gv i = sv) :
    ∃ tg', MadeR X w7 B tg' r nm T st gc ga gg p c8 ev wv es ws gv gl R' m' t' call at_ K pb db ob dc i sv := by
  classical
  have hD := h.made hR g (by have := hM.chg.size; have := hM.bx; omega) ht hm
  have hM7 := hM.next g.chg (fun k _ e => by rw [h.tR k e]; decide) (fun k e => (h.lo k e).1) (tg' := fun k => if k < w6.heap.size then tg k else if R' k then 7 else 0) (fun k hk => by simp only [if_pos hk])
  have hE7 := hE.next g.chg (fun k _ e => by rw [h.tR k e]; decide) (fun k e => (h.lo k e).1) (tg' := fun k => if k < w6.heap.size then tg k else if R' k then 7 else 0) (fun k hk => by simp only [if_pos hk])
  refine ⟨_, hD, ?_, ?_, by rw [cell_of hD.gb i, valR_get hi, hsv], fun o => ?_, fun o => Below.heap_alloc _ _ r (lt_of hD.blk), fun o => (Below.heap_alloc _ _ db (lt_of hE7.plan)).trans hE7.plan⟩
  · exact hM7
  · exact hE7
  · rw [cell_of ((Below.heap_alloc _ _ gg (lt_of hD.gb)).trans hD.gb) i, valR_get hi, hsv]
/-- Behind the append. -/
structure ToldR (X w8 : World) (B r nm T st gc ga gg : Nat) (p : Option Addr) (c8 : Nat) (ev wv : Value) (es : List Ev) (ws : List Int) (gl : Nat → List Nat) (R : Nat → Prop) (m : Mu) (t : List Acc) (call at_ : Nat → Nat) (K : Nat → Prop) (pb db : Nat) (ob : Obj) (dc rc : Array Value) (i x : Nat) (sv v8 : Value) : Prop where
  cell : w8.cell? ⟨gg, i, none⟩ = some sv
  free : w8.frozen? ⟨gg, i, none⟩ = false
  rb : w8.heap[r]? = some (.cells rc 120 (0, 0))
  db_ : w8.heap[db]? = some (.cells dc 53 (0, 0))
  rn : r ≠ gg
  dn : db ≠ gg
  fin : ∃ tg gv, Hid (D4At (w8.setCell ⟨gg, i, none⟩ v8) B tg r nm T st gc ga gg p c8 ev wv es ws gv (fun j => if j = i then gl i ++ [x] else gl j) R m t call at_) ∧ Hid (DM X (w8.setCell ⟨gg, i, none⟩ v8) B tg K pb ob)
theorem told_end {i : Nat} {sv v8 : Value} {rc : Array Value} (h : MadeR X w7 B tg r nm T st gc ga gg p c8 ev wv es ws gv gl R m t call at_ K pb db ob dc i sv) (hrc : w7.heap[r]? = some (.cells rc 120 (0, 0))) (hi : i < T) (hsv : gv i = sv) {x : Nat} {o : Obj} (r1 : w8.ownsRow 0 51 1 v8 ((gl i).length + 1) ((gl i).map u64V ++ [.int .u64 (x : Int)])) (r2 : (w7.alloc o).grownBy w8 sv.ownBlock) (r4 : v8.ownBlock = sv.ownBlock ∨ v8.ownBlock = some (w7.alloc o).heap.size) (hl : (gl i).length + 1 ≤ st) :
    ToldR X w8 B r nm T st gc ga gg p c8 ev wv es ws gl R m t call at_ K pb db ob dc rc i x sv v8 := by
  have hrow := h.d.gr i hi
  rw [hsv] at hrow
  have ng : ∀ (k : Nat) (cur : Array Value) (ty : TypeId), w7.heap[k]? = some (Obj.cells cur ty (0, 0)) → ty ≠ 51 → w8.heap[k]? = some (Obj.cells cur ty (0, 0)) := fun k cur ty hk hty => (r2.block k (by rw [World.size_alloc]; have := lt_of hk; omega) (fun e => block_apart hrow hk (fun z => hty z.symm) e.symm)).trans ((Below.heap_alloc _ _ k (lt_of hk)).trans hk)
  have hg8 := ng gg _ _ h.d.gb (by decide)
  have hb8 := ng r _ _ hrc (by decide)
  have hd8 := ng db _ _ h.md.plan (by decide)
  have r2' : (w7.alloc o).grownBy w8 (gv i).ownBlock := by rw [hsv]; exact r2
  have hT := h.d.told i hi (x := x) r1 r2' (by rw [hsv]; exact r4) (by have := h.mp.chg.size; have := h.mp.bx; omega) hl
  refine ⟨by rw [cell_of hg8 i, valR_get hi, hsv], free_of hg8 i, hb8, hd8, typ_ne hb8 hg8 (by decide), typ_ne hd8 hg8 (by decide), _, _, hT, ?_⟩
  refine h.mp.next (G := fun k => (gv i).ownBlock = some k ∨ k = gg) ((((Chg.refl (fun k => (gv i).ownBlock = some k ∨ k = gg) w7).alloc _).grown r2' (fun k e _ => .inl e)).setCell (fun _ => .inr rfl) _) (fun k _ e => ?_) (fun k e => (h.d.lo k e).1) (fun k hk => by simp only [if_pos hk])
  rcases e with e | e
  · rw [h.d.tg_ i k hi e]; omega
  · rw [e, h.d.tG]; decide
/-- Behind the append of an event. -/
structure EvR (X w3 : World) (B r nm T st gc ga gg : Nat) (p : Option Addr) (c8 : Nat) (wv : Value) (es : List Ev) (ws : List Int) (gv : Nat → Value) (gl : Nat → List Nat) (R : Nat → Prop) (m : Mu) (t : List Acc) (call at_ : Nat → Nat) (K : Nat → Prop) (pb : Nat) (ob : Obj) (i : Nat) (x : Ev) (ev ev' : Value) : Prop where
  cell : w3.cell? ⟨r, 5, none⟩ = some ev
  free : w3.frozen? ⟨r, 5, none⟩ = false
  h2 : w3.cell? ⟨r, 2, none⟩ = some (.slice (some ⟨gc, 0, none⟩) T T)
  hc : w3.cell? ⟨gc, i, none⟩ = some (.int .i64 (call i : Int))
  k2 : (w3.setCell ⟨r, 5, none⟩ ev').cell? ⟨r, 2, none⟩ = some (.slice (some ⟨gc, 0, none⟩) T T)
  kc : (w3.setCell ⟨r, 5, none⟩ ev').cell? ⟨gc, i, none⟩ = some (.int .i64 (call i : Int))
  fin : ∃ tg ev2, Hid (D4At (w3.setCell ⟨r, 5, none⟩ ev') B tg r nm T st gc ga gg p c8 ev2 wv (es ++ [x]) ws gv gl R m t call at_) ∧ Hid (DM X (w3.setCell ⟨r, 5, none⟩ ev') B tg K pb ob)
theorem ev_end {w2 w3 : World} (h : D4At w2 B tg r nm T st gc ga gg p c8 ev wv es ws gv gl R m t call at_) (hM : DM X w2 B tg K pb ob) {i : Nat} (hi : i < T) {ev' : Value} {x : Ev} {o : Obj} (r1 : w3.ownsRow 0 112 4 ev' (es.length + 1) (evRow es ++ x.cells)) (r2 : (w2.alloc o).grownBy w3 ev.ownBlock) (r4 : ev'.ownBlock = ev.ownBlock ∨ ev'.ownBlock = some (w2.alloc o).heap.size) (hl : es.length + 1 ≤ 2 * st) :
    EvR X w3 B r nm T st gc ga gg p c8 wv es ws gv gl R m t call at_ K pb ob i x ev ev' := by
  have hR := h.event (x := x) r1 r2 r4 (by have := hM.chg.size; have := hM.bx; omega) hl
  have ng : ∀ (k : Nat) (cur : Array Value) (ty : TypeId), w2.heap[k]? = some (Obj.cells cur ty (0, 0)) → ty ≠ 112 → w3.heap[k]? = some (Obj.cells cur ty (0, 0)) := fun k cur ty hk hty => (r2.block k (by rw [World.size_alloc]; have := lt_of hk; omega) (fun e => block_apart h.er hk (fun z => hty z.symm) e.symm)).trans ((Below.heap_alloc _ _ k (lt_of hk)).trans hk)
  have hb3 := ng r _ _ h.blk (by decide)
  have hc3 := ng gc _ _ h.cb (by decide)
  have hne : gc ≠ r := typ_ne hc3 hb3 (by decide)
  have hc4 : (w3.setCell ⟨r, 5, none⟩ ev').heap[gc]? = _ := (Below.heap_setCell _ _ _ gc hne).trans hc3
  refine ⟨cell_of hb3 5, free_of hb3 5, cell_of hb3 2, by rw [cell_of hc3 i]; exact intR_get hi, cell_of hR.blk 2, by rw [cell_of hc4 i]; exact intR_get hi, _, _, hR, ?_⟩
  refine hM.next (G := fun k => ev.ownBlock = some k ∨ k = r) ((((Chg.refl (fun k => ev.ownBlock = some k ∨ k = r) w2).alloc _).grown r2 (fun k e _ => .inl e)).setCell (fun _ => .inr rfl) _) (fun k _ e => ?_) (fun k e => (h.lo k e).1) (fun k hk => by simp only [if_pos hk])
  rcases e with e | e
  · rw [h.te k e]; decide
  · rw [e, h.tr]; decide
end
end Go.Proofs.Ytkfmpebhibnniaa
