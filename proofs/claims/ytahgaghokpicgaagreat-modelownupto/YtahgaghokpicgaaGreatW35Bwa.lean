/- Both models and a book of what the program's tells. -/
import Derived.Test.YtahgaghokpicgaaGreatW32BwG
import Derived.Test.YtahgaghokpicgaaGreatW34Bw2
namespace Go.Proofs.YtahgaghokpicgaaGreat
open Go.RowKit Go.Maps
set_option linter.unusedVariables false
theorem BKept2.kind {base : Nat} {W : World} {Bk n : Nat} {v : Nat → Value} {len : Nat → Nat} {sv : Value} {n2 : Nat} {v2 : Nat → Value} {len2 : Nat → Nat} {ev : Value} (h : BKept2 base W Bk n v len sv n2 v2 len2 ev) (b : Nat) (hb : Bks Bk n v sv n2 v2 ev b) : ∃ cs t, W.heap[b]? = some (.cells cs t (0, 0)) ∧ (t = 73 ∨ t = 33 ∨ t = 30 ∨ t = 37 ∨ t = 86) := by
 rcases hb with e | e | ⟨j, hj, e⟩ | e | ⟨j, hj, e⟩
 ·subst e
  exact ⟨_, _, h.blk, .inl rfl⟩
 ·obtain ⟨cur, hc⟩ := row_block h.outer b e
  exact ⟨_, _, hc, .inr (.inl rfl)⟩
 ·obtain ⟨xs, hx⟩ := h.rows j hj
  obtain ⟨cur, hc⟩ := row_block hx b e
  exact ⟨_, _, hc, .inr (.inr (.inl rfl))⟩
 ·obtain ⟨cur, hc⟩ := row_block h.outer2 b e
  exact ⟨_, _, hc, .inr (.inr (.inr (.inl rfl)))⟩
 ·obtain ⟨l, hl, hx⟩ := h.rows2 j hj
  obtain ⟨cur, hc⟩ := row_block hx b e
  exact ⟨_, _, hc, .inr (.inr (.inr (.inr rfl)))⟩
theorem RB.more {A A' : Nat → Prop} {W : World} {m : Nat} {mu : Int} {f : Nat → Option Nat} {pc : Nat → Option (Nat → Option Nat)} {n : Nat} (h : RB A W m mu f pc n) (hA : ∀ b, A' b → A b ∨ W.heap.size ≤ b) : RB A' W m mu f pc n := by
 obtain ⟨l, H, ⟨mv, hv, Z, h1, h2, h3, h4, h5⟩, r⟩ := h.ex
 refine ⟨l, H, ⟨mv, hv, Z, h1, h2, h3, h4, fun b hb x => ?_, fun z hz b hb x => ?_⟩, r⟩
 ·rcases hA b x with y | y
  ·exact h5.1 b hb y
  ·have := (h2.row.lt b hb).2
   omega
 ·rcases hA b x with y | y
  ·exact h5.2 z hz b hb y
  ·have := ((h4 z hz).row.lt b hb).2
   omega
structure BkF (E : Nat → Prop) (base : Nat) (X : World) (Bk K k1 : Nat) (v1 : Nat → Value) (l1 : Nat → Nat) (sv : Value) (k2 : Nat) (v2 : Nat → Value) (l2 : Nat → Nat) (ev : Value) : Prop where
 kept : BKept2 base X Bk k1 v1 l1 sv k2 v2 l2 ev
 n1 : k1 ≤ K
 n2 : k2 ≤ K
 s1 : ∀ j, j < k1 → l1 j ≤ 17592186043904
 s2 : ∀ j, j < k2 → l2 j ≤ 8796093022000
 off : ∀ i, E i → ¬ Bks Bk k1 v1 sv k2 v2 ev i ∧ i < X.heap.size
section
variable {E : Nat → Prop} {base : Nat} {X Y : World} {Bk K k1 : Nat} {v1 : Nat → Value} {l1 : Nat → Nat} {sv : Value} {k2 : Nat} {v2 : Nat → Value} {l2 : Nat → Nat} {ev : Value}
theorem BkF.other {F : Nat → Prop} (h : BkF E base X Bk K k1 v1 l1 sv k2 v2 l2 ev) (c : Chg F X Y) (hF : ∀ i, F i → ¬ Bks Bk k1 v1 sv k2 v2 ev i) : BkF E base Y Bk K k1 v1 l1 sv k2 v2 l2 ev :=
 ⟨h.kept.same (fun b hb => c.block b (h.kept.lt b hb).2 (fun x => hF b x hb)), h.n1, h.n2, h.s1, h.s2, fun i hi => ⟨(h.off i hi).1, Nat.lt_of_lt_of_le (h.off i hi).2 c.size⟩⟩
theorem BkF.lt (h : BkF E base X Bk K k1 v1 l1 sv k2 v2 l2 ev) (b : Nat) (hb : Bks Bk k1 v1 sv k2 v2 ev b) : b < X.heap.size := (h.kept.lt b hb).2
theorem BkF.maps {m nw hd mu n : Nat} {f h : Nat → Option Nat} {g : Nat → Nat → Option Nat} (hk : BkF E base X Bk K k1 v1 l1 sv k2 v2 l2 ev) (H : MoAt X m nw hd mu f h g n) : ∀ i, (i = nw ∨ i = hd) → ¬ Bks Bk k1 v1 sv k2 v2 ev i := by
 rintro i (rfl | rfl) x
 ·obtain ⟨cs, t, e, -⟩ := hk.kept.kind _ x
  exact map_not H.now e
 ·obtain ⟨cs, t, e, -⟩ := hk.kept.kind _ x
  exact map_not H.held e
theorem BkF.ty {i : Nat} {cs : Array Value} {t : TypeId} {p : Nat × Nat} (hk : BkF E base X Bk K k1 v1 l1 sv k2 v2 l2 ev) (e : X.heap[i]? = some (.cells cs t p)) (ht : t ≠ 73 ∧ t ≠ 33 ∧ t ≠ 30 ∧ t ≠ 37 ∧ t ≠ 86) : ¬ Bks Bk k1 v1 sv k2 v2 ev i := by
 intro x
 obtain ⟨cs', t', e', hh⟩ := hk.kept.kind _ x
 rw [e] at e'
 injection e' with e'
 injection e' with _ e'
 subst e'
 rcases hh with h | h | h | h | h
 ·exact ht.1 h
 ·exact ht.2.1 h
 ·exact ht.2.2.1 h
 ·exact ht.2.2.2.1 h
 ·exact ht.2.2.2.2 h
end
structure OwnM (E : Nat → Prop) (base : Nat) (X : World) (b m nw hd r mu Bk n K : Nat) : Prop where
 both : BothAt X b m r
 ex : ∃ f h g k1 v1 l1 sv k2 v2 l2 ev, MoAt X m nw hd mu f h g n ∧ RB (Bks Bk k1 v1 sv k2 v2 ev) X r mu f (pcs h g) n ∧ BkF E base X Bk K k1 v1 l1 sv k2 v2 l2 ev
structure OwnT (E : Nat → Prop) (base : Nat) (X : World) (b m nw hd r mu Bk n K : Nat) (o : OpP) (B : Ans) : Prop where
 both : BothAt X b m r
 ex : ∃ R f h g h' g' k1 v1 l1 sv k2 v2 l2 ev, R = takeB mu f (pcs h g) o B ∧ MoAt X m nw hd mu (if R then doF o B f else f) h' g' (n + 1) ∧ pcs h' g' = (if R then doP o B f (pcs h g) else pcs h g) ∧ RB (Bks Bk k1 v1 sv k2 v2 ev) X r mu f (pcs h g) n ∧ BkF E base X Bk K k1 v1 l1 sv k2 v2 l2 ev
structure OwnD (E : Nat → Prop) (base : Nat) (X : World) (b m nw hd r mu Bk n K : Nat) (o : OpP) (th : Nat) : Prop where
 both : BothAt X b m r
 ex : ∃ T f h g k1 v1 l1 sv k2 v2 l2 ev, T = tellP mu f (pcs h g) o th ∧ MoAt X m nw hd mu f h g n ∧ RB (Bks Bk k1 v1 sv k2 v2 ev) X r mu (doF o T f) (doP o T f (pcs h g)) (n + 1) ∧ BkF E base X Bk K k1 v1 l1 sv k2 v2 l2 ev
structure ToldV (E : Nat → Prop) (base : Nat) (X : World) (b m nw hd r mu Bk n K : Nat) (v : Value) : Prop where
 both : BothAt X b m r
 ex : ∃ fr f h g k1 v1 l1 sv k2 v2 l2 ev, MoAt X m nw hd mu f h g n ∧ RB (fun i => Bks Bk k1 v1 sv k2 v2 ev i ∨ fr ≤ i) X r mu f (pcs h g) n ∧ BkF E base X Bk K k1 v1 l1 sv k2 v2 l2 ev ∧ (∀ i, v.ownBlock = some i → fr ≤ i) ∧ (∀ i, Bks Bk k1 v1 sv k2 v2 ev i → i < fr) ∧ fr ≤ X.heap.size ∧ ∀ i, E i → i < fr
theorem both_kept {F : Nat → Prop} {X Y : World} {b m r : Nat} (hb : BothAt X b m r) (c : Chg F X Y) (hF : ∀ i, F i → ∀ cs t p, X.heap[i]? = some (.cells cs t p) → t ≠ 45) : BothAt Y b m r := (c.block b (lt_of hb) (fun x => hF b x _ _ _ hb rfl)).trans hb
section
variable {E : Nat → Prop} {base : Nat} {X Y : World} {b m nw hd r mu Bk n K : Nat}
theorem OwnM.quiet (H : OwnM E base X b m nw hd r mu Bk n K) (c : Chg (fun _ => False) X Y) : OwnM E base Y b m nw hd r mu Bk n K := by
 obtain ⟨hb, f, h, g, k1, v1, l1, sv, k2, v2, l2, ev, hM, hR, hK⟩ := H
 exact ⟨both_kept hb c (fun i x => x.elim), f, h, g, k1, v1, l1, sv, k2, v2, l2, ev, hM.quiet c, hR.quiet c, hK.other c (fun i x => x.elim)⟩
theorem OwnM.weak {E' : Nat → Prop} {n' K' : Nat} (H : OwnM E base X b m nw hd r mu Bk n K) (hE : ∀ i, E' i → E i) (hn : n ≤ n') (hK' : K ≤ K') : OwnM E' base X b m nw hd r mu Bk n' K' := by
 obtain ⟨hb, f, h, g, k1, v1, l1, sv, k2, v2, l2, ev, hM, hR, hK⟩ := H
 exact ⟨hb, f, h, g, k1, v1, l1, sv, k2, v2, l2, ev, hM.mono hn, hR.mono hn, hK.kept, Nat.le_trans hK.n1 hK', Nat.le_trans hK.n2 hK', hK.s1, hK.s2, fun i hi => hK.off i (hE i hi)⟩
theorem OwnM.mtake (H : OwnM E base X b m nw hd r mu Bk n K) (hmu : mu ≤ 1024) (hn : n ≤ 50000) {o : OpP} (ho : o.Ok) {r5 : Bool} {r6 r7 : Int} {kp pb : Option Addr} {kc cb : Nat} {B : Ans} (hBh : B.h < 18446744073709551616) (hks : KeysAt X kp o.ks) (hB : PairsAt X pb B.l) (hBl : B.l.length ≤ 8796093021952) :
    Calls Tryz.prog 13 #[.pointer (some ⟨m, 0, none⟩), .agg (opC o r5 r6 r7 kp kc), .agg (ansC B pb cb)] X fun e Y => (∃ R, e = .returned (.bool R)) ∧ OwnT E base Y b m nw hd r mu Bk n K o B ∧ Chg (fun i => i = nw ∨ i = hd) X Y := by
 obtain ⟨hb, f, h, g, k1, v1, l1, sv, k2, v2, l2, ev, hM, hR, hK⟩ := H
 obtain ⟨R, hRt⟩ : ∃ R, R = takeB mu f (pcs h g) o B := ⟨_, rfl⟩
 refine (take_all ho hBh hM hmu (by omega) hks hB (by omega) hRt).mono ?_
 rintro e Y ⟨rfl, ⟨h', g', hM', hp⟩, hc⟩
 exact ⟨⟨R, rfl⟩, ⟨both_kept hb hc (fun i hi cs t p e => by rcases hi with rfl | rfl; exact absurd e (map_not hM.now); exact absurd e (map_not hM.held)), R, f, h, g, h', g', k1, v1, l1, sv, k2, v2, l2, ev, hRt, hM', hp, hR.maps hM hc, hK.other hc (hK.maps hM)⟩, hc⟩
theorem OwnT.rtake {o : OpP} {B : Ans} (H : OwnT E base X b m nw hd r mu Bk n K o B) (hmu : mu ≤ 1024) (hn : n ≤ 50000) (ho : o.Ok) {r5 : Bool} {r6 r7 : Int} {kp pb : Option Addr} {kc cb : Nat} (hBh : B.h < 18446744073709551616) (hks : KeysAt X kp o.ks) (hB : PairsAt X pb B.l) (hBl : B.l.length ≤ 8796093021952) :
    Calls Tryz.prog 14 #[.pointer (some ⟨r, 0, none⟩), .agg (opC o r5 r6 r7 kp kc), .agg (ansC B pb cb)] X fun e Y => (∃ R, e = .returned (.bool R)) ∧ OwnM E base Y b m nw hd r mu Bk (n + 1) K ∧ Chg (fun i => i = r) X Y := by
 obtain ⟨hb, R, f, h, g, h', g', k1, v1, l1, sv, k2, v2, l2, ev, hRt, hM, hp, hR, hK⟩ := H
 obtain ⟨pm, ph, nm, cm, nh, ch, hr⟩ := hR.cells
 have hty : ∀ i, i = r → ∀ cs t p, X.heap[i]? = some (.cells cs t p) → t = 105 := fun i hi cs t p e => by
  rw [hi, hr] at e
  injection e with e
  injection e with _ e
  exact e.symm
 refine (d_take hR (by omega) hmu (fun b hb => hK.lt b hb) ho hks hBh hB (by omega) hRt).mono ?_
 rintro e Y ⟨rfl, hR', hc⟩
 refine ⟨⟨R, rfl⟩, ⟨both_kept hb hc (fun i hi cs t p e => by rw [hty i hi cs t p e]; decide), _, h', g', k1, v1, l1, sv, k2, v2, l2, ev, hM.cells hc (fun i hi _ => ⟨_, _, _, (congrArg (fun q => X.heap[q]?) hi).trans hr, by decide⟩), ?_, hK.other hc (fun i hi => by rw [hi]; exact hK.ty hr (by decide))⟩, hc⟩
 rw [hp]
 exact hR'
theorem OwnM.rdo (H : OwnM E base X b m nw hd r mu Bk n K) (hmu : mu ≤ 1024) (hn : n ≤ 50000) {o : OpP} (ho : o.Ok) {r5 : Bool} {r6 r7 : Int} {kp : Option Addr} {kc th : Nat} (hth : th < 18446744073709551616) (hks : KeysAt X kp o.ks) :
    Calls Tryz.prog 15 #[.pointer (some ⟨r, 0, none⟩), .agg (opC o r5 r6 r7 kp kc), .int .u64 th] X fun e Y => (∃ u, e = .returned u) ∧ OwnD E base Y b m nw hd r mu Bk n K o th ∧ Chg (fun i => i = r) X Y := by
 obtain ⟨hb, f, h, g, k1, v1, l1, sv, k2, v2, l2, ev, hM, hR, hK⟩ := H
 obtain ⟨pm, ph, nm, cm, nh, ch, hr⟩ := hR.cells
 have hty : ∀ i, i = r → ∀ cs t p, X.heap[i]? = some (.cells cs t p) → t = 105 := fun i hi cs t p e => by
  rw [hi, hr] at e
  injection e with e
  injection e with _ e
  exact e.symm
 refine (do_ex hR (by omega) hmu (fun b hb => hK.lt b hb) hth ho hks).mono ?_
 rintro e Y ⟨⟨p, c, rfl, -⟩, hR', hc⟩
 exact ⟨⟨_, rfl⟩, ⟨both_kept hb hc (fun i hi cs t p e => by rw [hty i hi cs t p e]; decide), _, f, h, g, k1, v1, l1, sv, k2, v2, l2, ev, rfl, hM.cells hc (fun i hi _ => ⟨_, _, _, (congrArg (fun q => X.heap[q]?) hi).trans hr, by decide⟩), hR', hK.other hc (fun i hi => by rw [hi]; exact hK.ty hr (by decide))⟩, hc⟩
theorem own_slice {p : Option Addr} {q c : Nat} {fr : Nat} (hp : ∀ bk off, p = some ⟨bk, off, none⟩ → fr ≤ bk) {e : TypeId} {s k : Nat} {xs : List Value} {W : World} (h : W.ownsRow 0 e s (.slice p q c) k xs) : ∀ i, (Value.slice p q c).ownBlock = some i → fr ≤ i := by
 intro i hi
 rcases h.2 with ⟨e, _⟩ | ⟨g, cap, cur, e, _⟩
 ·rw [e] at hi; cases hi
 ·injection e with e
  subst e
  injection hi with hi
  have hi : g = i := hi
  subst hi
  exact hp g 0 rfl
theorem OwnD.mdo {o : OpP} {th : Nat} (H : OwnD E base X b m nw hd r mu Bk n K o th) (hmu : mu ≤ 1024) (hn : n ≤ 50000) (ho : o.Ok) {r5 : Bool} {r6 r7 : Int} {kp : Option Addr} {kc : Nat} (hth : th < 18446744073709551616) (hks : KeysAt X kp o.ks) :
    Calls Tryz.prog 17 #[.pointer (some ⟨m, 0, none⟩), .agg (opC o r5 r6 r7 kp kc), .int .u64 th] X fun e Y => (∃ T p c, e = .returned (.agg (ansC T p c)) ∧ T.l.length ≤ 8796093022000 ∧ OPairs Y p c T.l ∧ ToldV E base Y b m nw hd r mu Bk (n + 1) K (.slice p T.l.length c)) ∧ Chg (fun i => i = nw ∨ i = hd) X Y := by
 obtain ⟨hb, T, f, h, g, k1, v1, l1, sv, k2, v2, l2, ev, hT, hM, hR, hK⟩ := H
 refine (do_told ho hth hM hmu (by omega) hks hT).mono ?_
 rintro e Y ⟨⟨p, c, rfl, hP, hp, hl⟩, ⟨h', g', hM', hpc⟩, hc⟩
 refine ⟨⟨T, p, c, rfl, hl, hP, both_kept hb hc (fun i hi cs t p e => by rcases hi with rfl | rfl; exact absurd e (map_not hM.now); exact absurd e (map_not hM.held)), X.heap.size, _, h', g', k1, v1, l1, sv, k2, v2, l2, ev, hM', ?_, hK.other hc (hK.maps hM), own_slice hp hP.1, fun i hi => hK.lt i hi, hc.size, fun i hi => (hK.off i hi).2⟩, hc⟩
 rw [hpc]
 exact (hR.more (fun i hi => hi)).maps hM hc
theorem OwnM.tells (H : OwnM E base X b m nw hd r mu Bk n K) (hc : Chg (fun _ => False) X Y) {p : Option Addr} {q c : Nat} (hp : ∀ bk off, p = some ⟨bk, off, none⟩ → X.heap.size ≤ bk) {e : TypeId} {s k : Nat} {xs : List Value} (hr : Y.ownsRow 0 e s (.slice p q c) k xs) : ToldV E base Y b m nw hd r mu Bk n K (.slice p q c) := by
 obtain ⟨hb, f, h, g, k1, v1, l1, sv, k2, v2, l2, ev, hM, hR, hK⟩ := H
 exact ⟨both_kept hb hc (fun i x => x.elim), X.heap.size, f, h, g, k1, v1, l1, sv, k2, v2, l2, ev, hM.quiet hc, (hR.more (fun i hi => hi)).quiet hc, hK.other hc (fun i x => x.elim), own_slice hp hr, fun i hi => hK.lt i hi, hc.size, fun i hi => (hK.off i hi).2⟩
def Wrt (E : Nat → Prop) (base : Nat) (X Y : World) : Prop := ∃ G : Nat → Prop, Chg G X Y ∧ (∀ i, E i → ¬ G i) ∧ ∀ i, G i → base ≤ i
theorem ToldV.takeP {p : Option Addr} {c : Nat} {l : List (Nat × Nat)} (H : ToldV E base X b m nw hd r mu Bk n K (.slice p l.length c)) (hl : l.length ≤ 8796093022000) (hO : OPairs X p c l) (hKb : K + 1 ≤ 4398046511104) :
    Calls Tryz.prog 16 #[.pointer (some ⟨Bk, 0, none⟩), .slice p l.length c] X fun e Y => e = .returned (.tuple #[]) ∧ OwnM E base Y b m nw hd r mu Bk n (K + 1) ∧ Wrt E base X Y := by
 obtain ⟨hb, fr, f, h, g, k1, v1, l1, sv, k2, v2, l2, ev, hM, hR, hK, hv, hfr, hfs, hE⟩ := H
 have hbase : base ≤ fr := by
  have := hK.kept.bn
  have := hfr Bk (.inl rfl)
  omega
 refine (take_e2 base Bk k1 l.length c p v1 l1 sv k2 v2 l2 ev l rfl X (by have := hK.n2; omega) hK.kept hO.1 (fun j i hj hi e => by have := hv i e; have := hfr i (.inr (.inr (.inr (.inr ⟨j, hj, hi⟩)))); omega) (fun i e => by have := hv i e; omega)).mono ?_
 rintro e Y ⟨rfl, ⟨me, hK', hme⟩, hc⟩
 have hF : ∀ i, (i = Bk ∨ ev.ownBlock = some i) → ∃ cs t, X.heap[i]? = some (.cells cs t (0, 0)) ∧ (t = 73 ∨ t = 37) := fun i hi => by
  rcases hi with rfl | e
  ·exact ⟨_, _, hK.kept.blk, .inl rfl⟩
  ·obtain ⟨cur, hcu⟩ := row_block hK.kept.outer2 i e
   exact ⟨_, _, hcu, .inr rfl⟩
 have hF2 : ∀ i, (i = Bk ∨ ev.ownBlock = some i) → Bks Bk k1 v1 sv k2 v2 ev i := fun i hi => by
  rcases hi with e | e
  ·exact .inl e
  ·exact .inr (.inr (.inr (.inl e)))
 have hty : ∀ i, (i = Bk ∨ ev.ownBlock = some i) → ∀ cs t p, X.heap[i]? = some (.cells cs t p) → t = 73 ∨ t = 37 := fun i hi cs t p e => by
  obtain ⟨cs', t', e', ht⟩ := hF i hi
  rw [e] at e'
  injection e' with e'
  injection e' with _ e'
  subst e'
  exact ht
 have hsub : ∀ i, Bks Bk k1 v1 sv (k2 + 1) (fun j => if j = k2 then .slice p l.length c else v2 j) me i → Bks Bk k1 v1 sv k2 v2 ev i ∨ fr ≤ i := fun i hi => by
  rcases hi with e | e | ⟨j, hj, e⟩ | e | ⟨j, hj, e⟩
  ·exact .inl (.inl e)
  ·exact .inl (.inr (.inl e))
  ·exact .inl (.inr (.inr (.inl ⟨j, hj, e⟩)))
  ·rcases hme i e with e | e
   ·exact .inl (.inr (.inr (.inr (.inl e))))
   ·exact .inr (by omega)
  ·by_cases q : j = k2
   ·simp only [if_pos q] at e
    exact .inr (hv i e)
   ·simp only [if_neg q] at e
    exact .inl (.inr (.inr (.inr (.inr ⟨j, by omega, e⟩))))
 refine ⟨rfl, ⟨both_kept hb hc (fun i hi cs t p e => by rcases hty i hi cs t p e with e | e <;> (rw [e]; decide)), f, h, g, k1, v1, l1, sv, k2 + 1, _, _, me, hM.cells hc (fun i hi _ => by obtain ⟨cs, t, e, ht⟩ := hF i hi; exact ⟨cs, t, _, e, by rcases ht with e | e <;> (rw [e]; decide)⟩), ?_, hK', by have := hK.n1; omega, by have := hK.n2; omega, hK.s1, fun j hj => ?_, fun i hi => ⟨fun x => ?_, Nat.lt_of_lt_of_le (hK.off i hi).2 hc.size⟩⟩, _, hc, fun i hi x => (hK.off i hi).1 (hF2 i x), fun i hi => (hK.kept.lt i (hF2 i hi)).1⟩
 ·refine (hR.chg hc (fun i hi cs t p e => ?_)).less hsub
  rcases hty i hi cs t p e with e | e <;> (rw [e]; exact ⟨fun x => absurd x (by decide), by decide, by decide⟩)
 ·by_cases q : j = k2
  ·simp only [if_pos q]; exact hl
  ·simp only [if_neg q]; exact hK.s2 j (by omega)
 ·rcases hsub i x with y | y
  ·exact (hK.off i hi).1 y
  ·have := hE i hi
   omega
theorem ToldV.takeU {p : Option Addr} {c : Nat} {l : List Nat} (H : ToldV E base X b m nw hd r mu Bk n K (.slice p l.length c)) (hl : l.length ≤ 17592186043904) (hO : X.ownsRow 0 30 1 (.slice p l.length c) l.length (l.map encU)) (hKb : K + 1 ≤ 4398046511104) :
    Calls Tryz.prog 19 #[.pointer (some ⟨Bk, 0, none⟩), .slice p l.length c] X fun e Y => e = .returned (.tuple #[]) ∧ OwnM E base Y b m nw hd r mu Bk n (K + 1) ∧ Wrt E base X Y := by
 obtain ⟨hb, fr, f, h, g, k1, v1, l1, sv, k2, v2, l2, ev, hM, hR, hK, hv, hfr, hfs, hE⟩ := H
 have hbase : base ≤ fr := by
  have := hK.kept.bn
  have := hfr Bk (.inl rfl)
  omega
 refine (take_i2 base Bk k1 l.length c p v1 l1 sv k2 v2 l2 ev (l.map encU) X (by have := hK.n1; omega) hK.kept hO (fun j i hj hi e => by have := hv i e; have := hfr i (.inr (.inr (.inl ⟨j, hj, hi⟩))); omega) (fun i e => by have := hv i e; omega)).mono ?_
 rintro e Y ⟨rfl, ⟨me, hK', hme⟩, hc⟩
 have hF : ∀ i, (i = Bk ∨ sv.ownBlock = some i) → ∃ cs t, X.heap[i]? = some (.cells cs t (0, 0)) ∧ (t = 73 ∨ t = 33) := fun i hi => by
  rcases hi with rfl | e
  ·exact ⟨_, _, hK.kept.blk, .inl rfl⟩
  ·obtain ⟨cur, hcu⟩ := row_block hK.kept.outer i e
   exact ⟨_, _, hcu, .inr rfl⟩
 have hF2 : ∀ i, (i = Bk ∨ sv.ownBlock = some i) → Bks Bk k1 v1 sv k2 v2 ev i := fun i hi => by
  rcases hi with e | e
  ·exact .inl e
  ·exact .inr (.inl e)
 have hty : ∀ i, (i = Bk ∨ sv.ownBlock = some i) → ∀ cs t p, X.heap[i]? = some (.cells cs t p) → t = 73 ∨ t = 33 := fun i hi cs t p e => by
  obtain ⟨cs', t', e', ht⟩ := hF i hi
  rw [e] at e'
  injection e' with e'
  injection e' with _ e'
  subst e'
  exact ht
 have hsub : ∀ i, Bks Bk (k1 + 1) (fun j => if j = k1 then .slice p l.length c else v1 j) me k2 v2 ev i → Bks Bk k1 v1 sv k2 v2 ev i ∨ fr ≤ i := fun i hi => by
  rcases hi with e | e | ⟨j, hj, e⟩ | e | ⟨j, hj, e⟩
  ·exact .inl (.inl e)
  ·rcases hme i e with e | e
   ·exact .inl (.inr (.inl e))
   ·exact .inr (by omega)
  ·by_cases q : j = k1
   ·simp only [if_pos q] at e
    exact .inr (hv i e)
   ·simp only [if_neg q] at e
    exact .inl (.inr (.inr (.inl ⟨j, by omega, e⟩)))
  ·exact .inl (.inr (.inr (.inr (.inl e))))
  ·exact .inl (.inr (.inr (.inr (.inr ⟨j, hj, e⟩))))
 refine ⟨rfl, ⟨both_kept hb hc (fun i hi cs t p e => by rcases hty i hi cs t p e with e | e <;> (rw [e]; decide)), f, h, g, k1 + 1, _, _, me, k2, v2, l2, ev, hM.cells hc (fun i hi _ => by obtain ⟨cs, t, e, ht⟩ := hF i hi; exact ⟨cs, t, _, e, by rcases ht with e | e <;> (rw [e]; decide)⟩), ?_, hK', by have := hK.n1; omega, by have := hK.n2; omega, fun j hj => ?_, hK.s2, fun i hi => ⟨fun x => ?_, Nat.lt_of_lt_of_le (hK.off i hi).2 hc.size⟩⟩, _, hc, fun i hi x => (hK.off i hi).1 (hF2 i x), fun i hi => (hK.kept.lt i (hF2 i hi)).1⟩
 ·refine (hR.chg hc (fun i hi cs t p e => ?_)).less hsub
  rcases hty i hi cs t p e with e | e <;> (rw [e]; exact ⟨fun x => absurd x (by decide), by decide, by decide⟩)
 ·by_cases q : j = k1
  ·simp only [if_pos q]; exact hl
  ·simp only [if_neg q]; exact hK.s1 j (by omega)
 ·rcases hsub i x with y | y
  ·exact (hK.off i hi).1 y
  ·have := hE i hi
   omega
theorem OwnM.content (H : OwnM E base X b m nw hd r mu Bk n K) (hn : n ≤ 50000) :
    Calls Tryz.prog 18 #[.pointer (some ⟨m, 0, none⟩)] X fun e Y => (∃ p c, ∃ l : List (Nat × Nat), e = .returned (.slice p l.length c) ∧ l.length ≤ 8796093022000 ∧ OPairs Y p c l ∧ ToldV E base Y b m nw hd r mu Bk n K (.slice p l.length c)) ∧ Chg (fun _ => False) X Y := by
 obtain ⟨f, h, g, k1, v1, l1, sv, k2, v2, l2, ev, hM, hR, hK⟩ := H.ex
 refine (m_content hM (by omega)).mono ?_
 rintro e Y ⟨⟨p, c, l, rfl, -, hP, hp, hl⟩, hc⟩
 exact ⟨⟨p, c, l, rfl, by omega, hP, H.tells hc hp hP.1⟩, hc⟩
theorem OwnM.handles (H : OwnM E base X b m nw hd r mu Bk n K) (hn : n ≤ 50000) :
    Calls Tryz.prog 20 #[.pointer (some ⟨m, 0, none⟩)] X fun e Y => (∃ p c, ∃ l : List Nat, e = .returned (.slice p l.length c) ∧ l.length ≤ 17592186043904 ∧ Y.ownsRow 0 30 1 (.slice p l.length c) l.length (l.map encU) ∧ ToldV E base Y b m nw hd r mu Bk n K (.slice p l.length c)) ∧ Chg (fun _ => False) X Y := by
 obtain ⟨f, h, g, k1, v1, l1, sv, k2, v2, l2, ev, hM, hR, hK⟩ := H.ex
 refine (m_handles2 hM (by omega)).mono ?_
 rintro e Y ⟨⟨v, l, rfl, -, hl, hr⟩, hc⟩
 have hr0 : Y.ownsRow 0 30 1 v l.length (l.map encU) := by
  refine ⟨hr.1, ?_⟩
  rcases hr.2 with q | ⟨g, cap, cur, q1, q2, q3⟩
  ·exact .inl q
  ·exact .inr ⟨g, cap, cur, q1, Nat.zero_le _, q3⟩
 obtain ⟨p, c, rfl⟩ := slice_of hr0
 refine ⟨⟨p, c, l, rfl, by omega, hr0, H.tells hc (fun bk off e => ?_) hr0⟩, hc⟩
 rcases hr.2 with ⟨q, _⟩ | ⟨g, cap, cur, q1, q2, q3⟩
 ·injection q with q
  rw [q] at e
  cases e
 ·injection q1 with q1
  rw [q1] at e
  injection e with e
  injection e with e
  omega
set_option maxRecDepth 100000 in
theorem m_heldF {W : World} {m nw hd mu : Nat} {f h : Nat → Option Nat} {g : Nat → Nat → Option Nat} {n : Nat} (H : MoAt W m nw hd mu f h g n) (hn : n ≤ 8796093022000) {k b : Nat} (hk : k < 18446744073709551616) (hh : h k = some b) :
    Calls Tryz.prog 22 #[.pointer (some ⟨m, 0, none⟩), .int .u64 k] W fun e W' => (∃ p c l, e = .returned (.tuple #[.slice p l.length c, .bool true]) ∧ OPairs W' p c l ∧ (∀ bk off, p = some ⟨bk, off, none⟩ → W.heap.size ≤ bk) ∧ l.length ≤ n) ∧ Chg (fun _ => False) W W' := by
 have HH := keepH (holds_g H hk)
 have HB := keepH (c_all (H.pic k b hh) hn)
 have hl2 := HeldAt.look1 H.held hk
 rw [hh] at HH hl2
 have c2 : W.cell? ⟨m, 2, none⟩ = some (.map (some hd)) := cell_of H.md 2
 clear H
 go_enter Tryz.func22, Tryz.ntmps22
 go_wp2_with fail
 refine HH.out.mono ?_
 rintro e w1 ⟨rfl, rfl⟩
 go_wp2_with fail
 refine HB.out.mono ?_
 rintro e w2 ⟨⟨v, l, rfl, h1, h2, h3⟩, h4⟩
 obtain ⟨p, c, rfl, hP, hB⟩ := h2.oslice
 have HZ : Hid (OPairs w2 p c l ∧ (∀ bk off, p = some ⟨bk, off, none⟩ → w1.heap.size ≤ bk) ∧ l.length ≤ n) := ⟨hP, hB, h3⟩
 have HC := keepH h4
 clear h1 h2 h3 h4 hP hB
 go_wp2_with fail
 go_ret2
 exact ⟨⟨p, c, l, by simp, HZ.out⟩, HC.out⟩
theorem OwnM.held (H : OwnM E base X b m nw hd r mu Bk n K) (hn : n ≤ 50000) {k : Nat} (hk : k < 18446744073709551616) :
    Calls Tryz.prog 22 #[.pointer (some ⟨m, 0, none⟩), .int .u64 k] X fun e Y => (∃ p c, ∃ l : List (Nat × Nat), ∃ ok, e = .returned (.tuple #[.slice p l.length c, .bool ok]) ∧ l.length ≤ 8796093022000 ∧ OPairs Y p c l ∧ ToldV E base Y b m nw hd r mu Bk n K (.slice p l.length c)) ∧ Chg (fun _ => False) X Y := by
 obtain ⟨f, h, g, k1, v1, l1, sv, k2, v2, l2, ev, hM, hR, hK⟩ := H.ex
 cases hh : h k with
 | none =>
  refine (m_heldN hM hk hh).mono ?_
  rintro e Y ⟨rfl, rfl⟩
  exact ⟨⟨none, 0, [], false, rfl, by simp, OPairs.nil _, H.tells (Chg.refl _ _) (fun bk off e => by cases e) (OPairs.nil _).1⟩, Chg.refl _ _⟩
 | some x =>
  refine (m_heldF hM (by omega) hk hh).mono ?_
  rintro e Y ⟨⟨p, c, l, rfl, hP, hp, hl⟩, hc⟩
  exact ⟨⟨p, c, l, true, rfl, by omega, hP, H.tells hc hp hP.1⟩, hc⟩
theorem OwnM.rhandles (H : OwnM (fun _ => False) base X b m nw hd r mu Bk n K) (hn : n ≤ 50000) :
    Calls Tryz.prog 21 #[.pointer (some ⟨r, 0, none⟩)] X fun e Y => (∃ p c, ∃ ss : List Nat, e = .returned (.slice p ss.length c) ∧ ss.length ≤ n ∧ KeysAt Y p ss ∧ OwnM (fun i => ss ≠ [] ∧ ∃ off, p = some ⟨i, off, none⟩) base Y b m nw hd r mu Bk n K) ∧ Chg (fun _ => False) X Y := by
 obtain ⟨f, h, g, k1, v1, l1, sv, k2, v2, l2, ev, hM, hR, hK⟩ := H.ex
 obtain ⟨mv, hv, Z, l, h1, h2, h4, h5, hRi, hz, hpc, hgl, hlZ⟩ := hR.begin
 refine (hand_list h1 (by simp; omega)).mono ?_
 rintro e Y ⟨v, rfl, hs⟩
 have hc : Chg (fun _ => False) X Y := hs.chg
 have e1 : (Z.map (fun z => (z.1, z.2.1))).map (·.1) = Z.map (·.1) := by rw [List.map_map]; rfl
 rw [e1] at hs
 have hlu := listU_of hs.row
 obtain ⟨p, c, rfl, hk, hf⟩ := hlu.keys (fun k hk => by
  obtain ⟨z, hz2, rfl⟩ := List.mem_map.1 hk
  exact (hz (z.1, z.2.2) (List.mem_map.2 ⟨z, hz2, rfl⟩)).1)
 refine ⟨⟨p, c, Z.map (·.1), rfl, by simpa using hlZ, hk, both_kept H.both hc (fun i x => x.elim), f, h, g, k1, v1, l1, sv, k2, v2, l2, ev, hM.quiet hc, hR.quiet hc, (hK.other hc (fun i x => x.elim)).kept, hK.n1, hK.n2, hK.s1, hK.s2, fun i hi => ?_⟩, hc⟩
 obtain ⟨hne, off, e⟩ := hi
 rcases hf with q | ⟨g', q, hg⟩
 ·exact absurd q hne
 ·rw [q] at e
  injection e with e
  injection e with e
  subst e
  refine ⟨fun x => by have := hK.lt _ x; omega, ?_⟩
  rcases hk with y | ⟨bk, off', y1, y2, -⟩
  ·exact absurd y hne
  ·rw [q] at y1
   injection y1 with y1
   injection y1 with y1
   omega
theorem OwnM.start {W : World} (H : TwoAt X b m nw hd r mu n) (hb : base ≤ X.heap.size) : OwnM (fun _ => False) base (X.alloc (.cells (bookCells2 (.slice none 0 0) (.slice none 0 0)) 73)) b m nw hd r mu X.heap.size n 0 := by
 obtain ⟨hb2, f, h, g, hM, hR⟩ := H
 have c : Chg (fun _ => False) X (X.alloc (.cells (bookCells2 (.slice none 0 0) (.slice none 0 0)) 73)) := (Chg.refl _ _).alloc _
 have hk := BKept2.start X base hb
 refine ⟨both_kept hb2 c (fun i x => x.elim), f, h, g, 0, _, _, _, 0, _, _, _, hM.quiet c, (hR.more (fun i hi => ?_)).quiet c, hk, Nat.le_refl _, Nat.le_refl _, fun j hj => by omega, fun j hj => by omega, fun i x => x.elim⟩
 rcases hi with e | e | ⟨j, hj, e⟩ | e | ⟨j, hj, e⟩
 ·exact .inr (by omega)
 ·cases e
 ·omega
 ·cases e
 ·omega
theorem OwnM.alone (H : OwnM E base X b m nw hd r mu Bk n K) (hKb : K ≤ 4398046511104) :
    Calls Tryz.prog 23 #[.pointer (some ⟨Bk, 0, none⟩)] X fun e Y => e = .returned (.bool true) ∧ TwoAt Y b m nw hd r mu n ∧ Chg (fun i => base ≤ i) X Y := by
 obtain ⟨hb, f, h, g, k1, v1, l1, sv, k2, v2, l2, ev, hM, hR, hK⟩ := H
 refine (aloneAll_2 base Bk k1 v1 l1 sv k2 v2 l2 ev X (by have := hK.n1; omega) (by have := hK.n2; omega) hK.kept hK.s1 hK.s2).mono ?_
 rintro e Y ⟨rfl, hc⟩
 have hty : ∀ i, Bks Bk k1 v1 sv k2 v2 ev i → ∀ cs t p, X.heap[i]? = some (.cells cs t p) → t ≠ 45 ∧ t ≠ 105 ∧ t ≠ 111 ∧ t ≠ 100 := fun i hi cs t p e => by
  obtain ⟨cs', t', e', hh⟩ := hK.kept.kind _ hi
  rw [e] at e'
  injection e' with e'
  injection e' with _ e'
  subst e'
  rcases hh with h | h | h | h | h <;> (rw [h]; decide)
 refine ⟨rfl, ⟨both_kept hb hc (fun i hi cs t p e => (hty i hi cs t p e).1), f, h, g, hM.cells hc (fun i hi _ => ?_), (hR.chg hc (fun i hi cs t p e => ?_)).less (fun _ x => x.elim)⟩, hc.mono (fun i _ hi => (hK.kept.lt i hi).1)⟩
 ·obtain ⟨cs, t, e, -⟩ := hK.kept.kind _ hi
  exact ⟨cs, t, _, e, (hty i hi _ _ _ e).2.2.2⟩
 ·have := hty i hi cs t p e
  exact ⟨fun _ => hi, this.2.1, this.2.2.1⟩
end
end Go.Proofs.YtahgaghokpicgaaGreat
