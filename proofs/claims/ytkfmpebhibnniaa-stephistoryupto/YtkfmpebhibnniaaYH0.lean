/- The document's runner, told whole: a pure pick; what stays between its parts. -/
import Derived.Test.YtkfmpebhibnniaaYG
namespace Go.Proofs.Ytkfmpebhibnniaa
open Go.RowKit Go.Shelf
set_option linter.unusedVariables false

structure R4S where
  st : Nat
  call : Nat → Nat
  at_ : Nat → Nat
  es : List Ev
  ws : List Int
  gl : Nat → List Nat
  m : Mu
  t : List Acc
def D4x (X : World) (B r nm T : Nat) (p : Option Addr) (c8 : Nat) (s : R4S) (K : Nat → Prop) : Prop := ∃ tg gc ga gg ev wv gv R, D4At X B tg r nm T s.st gc ga gg p c8 ev wv s.es s.ws gv s.gl R s.m s.t s.call s.at_ ∧ ∀ k, tg k ≠ 0 → K k
theorem D4x.keep {X Y : World} {B r nm T : Nat} {p : Option Addr} {c8 : Nat} {s : R4S} {K : Nat → Prop} (h : D4x X B r nm T p c8 s K) (hs : X.heap.size ≤ Y.heap.size) (hk : ∀ k, K k → Y.heap[k]? = X.heap[k]?) : D4x Y B r nm T p c8 s K := by
  obtain ⟨tg, gc, ga, gg, ev, wv, gv, R, h, hK⟩ := h
  exact ⟨tg, gc, ga, gg, ev, wv, gv, R, h.keep hs (fun k e => hk k (hK k e)), hK⟩
theorem D4.ex {X : World} {B r nm T st : Nat} {p : Option Addr} {c8 : Nat} {call at_ : Nat → Nat} {K : Nat → Prop} (h : D4 X B r nm T st p c8 call at_ K) : ∃ es ws gl m t, D4x X B r nm T p c8 ⟨st, call, at_, es, ws, gl, m, t⟩ K := by
  obtain ⟨tg, gc, ga, gg, ev, wv, es, ws, gv, gl, R, m, t, h, hK⟩ := h
  exact ⟨es, ws, gl, m, t, tg, gc, ga, gg, ev, wv, gv, R, h, hK⟩
theorem D4x.hid {X : World} {B r nm T : Nat} {p : Option Addr} {c8 : Nat} {s : R4S} {K : Nat → Prop} (h : D4x X B r nm T p c8 s K) : D4 X B r nm T s.st p c8 s.call s.at_ K := by
  obtain ⟨tg, gc, ga, gg, ev, wv, gv, R, h, hK⟩ := h
  exact ⟨tg, gc, ga, gg, ev, wv, s.es, s.ws, gv, s.gl, R, s.m, s.t, h, hK⟩
def dopOf (q : PlP) (a : Nat) : Option DoP := if q.none = true then none else q.L[a]?
def R4S.pick (s : R4S) (i : Nat) (q : PlP) : R4S where
  st := s.st + 1
  call := fun j => if j = i then (if nst q ≤ s.at_ i + 1 then s.call i + 1 else s.call i) else s.call j
  at_ := fun j => if j = i then (if nst q ≤ s.at_ i + 1 then 0 else s.at_ i + 1) else s.at_ j
  es := (if s.at_ i = 0 then s.es ++ [⟨(s.st : Int), (i : Int), (s.call i : Int), false⟩] else s.es) ++ (if nst q ≤ s.at_ i + 1 then [⟨(s.st : Int), (i : Int), (s.call i : Int), true⟩] else [])
  ws := s.ws ++ (nxtT (i : Int) 200 s.m (dopOf q (s.at_ i))).map (fun _ => (s.st : Int))
  gl := fun j => if j = i then s.gl i ++ nxtG 200 s.m (dopOf q (s.at_ i)) else s.gl j
  m := nxtM 200 s.m (dopOf q (s.at_ i))
  t := s.t ++ nxtT (i : Int) 200 s.m (dopOf q (s.at_ i))
/-- What stays beside the runner's own while it picks. -/
structure DM (X wx : World) (B : Nat) (tg : Nat → Nat) (K : Nat → Prop) (pb : Nat) (ob : Obj) : Prop where
  inK : ∀ k, tg k ≠ 0 → K k ∨ X.heap.size ≤ k
  tp : tg pb = 0
  chg : Chg K X wx
  plan : wx.heap[pb]? = some ob
  low : ∀ k, k < B → wx.heap[k]? = X.heap[k]?
  bx : B ≤ X.heap.size
theorem DM.next {X wx wy : World} {B : Nat} {tg tg' : Nat → Nat} {K G : Nat → Prop} {pb : Nat} {ob : Obj} (h : DM X wx B tg K pb ob) (g : Chg G wx wy) (hG : ∀ k, k < wx.heap.size → G k → tg k ≠ 0) (hlo : ∀ k, tg k ≠ 0 → B ≤ k) (ht : ∀ k, k < wx.heap.size → tg' k = tg k) : DM X wy B tg' K pb ob := by
  have s1 := h.chg.size
  have lp : pb < wx.heap.size := (Array.getElem?_eq_some_iff.1 h.plan).1
  refine ⟨fun k e => ?_, by rw [ht pb lp]; exact h.tp, h.chg.trans g (fun _ _ x => x) (fun k hk x => ?_), (g.block pb lp (fun x => hG pb lp x h.tp)).trans h.plan, fun k hk => (g.block k (by have := h.bx; omega) (fun x => ?_)).trans (h.low k hk), h.bx⟩
  · by_cases hk : k < wx.heap.size
    · rw [ht k hk] at e; exact h.inK k e
    · exact .inr (by omega)
  · rcases h.inK k (hG k (by omega) x) with q | q
    · exact q
    · omega
  · have := hlo k (hG k (by have := h.bx; omega) x); omega
theorem D4x.of {X Y : World} {B : Nat} {tg : Nat → Nat} {r nm T gc ga gg : Nat} {p : Option Addr} {c8 : Nat} {ev wv : Value} {gv : Nat → Value} {R : Nat → Prop} {s : R4S} {K : Nat → Prop} {pb : Nat} {ob : Obj} (h : D4At Y B tg r nm T s.st gc ga gg p c8 ev wv s.es s.ws gv s.gl R s.m s.t s.call s.at_) (d : DM X Y B tg K pb ob) : ∃ K', D4x Y B r nm T p c8 s K' ∧ Goes X Y K K' :=
  ⟨fun k => k < Y.heap.size ∧ (K k ∨ X.heap.size ≤ k), ⟨tg, gc, ga, gg, ev, wv, gv, R, h, fun k e => ⟨(h.lo k e).2, d.inK k e⟩⟩, ⟨d.chg, fun k e => e.2⟩⟩
theorem DM.up {X wx wy : World} {B : Nat} {tg : Nat → Nat} {K : Nat → Prop} {pb : Nat} {ob : Obj} (h : DM X wx B tg K pb ob) (g : Chg (fun _ => False) wx wy) : DM X wy B tg K pb ob :=
  ⟨h.inK, h.tp, h.chg.trans g (fun _ _ x => x) (fun _ _ x => x.elim), (g.block pb ((Array.getElem?_eq_some_iff.1 h.plan).1) (fun x => x)).trans h.plan, fun k hk => (g.block k (by have := h.bx; have := h.chg.size; omega) (fun x => x)).trans (h.low k hk), h.bx⟩
theorem D4At.up {X Y : World} {B : Nat} {tg : Nat → Nat} {r nm T st gc ga gg : Nat} {p : Option Addr} {c8 : Nat} {ev wv : Value} {es : List Ev} {ws : List Int} {gv : Nat → Value} {gl : Nat → List Nat} {R : Nat → Prop} {m : Mu} {t : List Acc} {call at_ : Nat → Nat} (h : D4At X B tg r nm T st gc ga gg p c8 ev wv es ws gv gl R m t call at_) (g : Chg (fun _ => False) X Y) : D4At Y B tg r nm T st gc ga gg p c8 ev wv es ws gv gl R m t call at_ :=
  h.keep g.size (fun k e => g.block k (h.lo k e).2 (fun x => x))
end Go.Proofs.Ytkfmpebhibnniaa
