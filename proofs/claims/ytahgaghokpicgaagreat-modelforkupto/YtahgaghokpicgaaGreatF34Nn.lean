/- Put, Delete and Swap on keys of two kinds. -/
import Derived.Test.YtahgaghokpicgaaGreatF17Nk
import Derived.Test.YtahgaghokpicgaaGreatF31D8h
import Derived.Test.YtahgaghokpicgaaGreatF19Nt
import Derived.Test.YtahgaghokpicgaaGreatF13Npe
import Derived.Test.YtahgaghokpicgaaGreatF32D8i
import Derived.Test.YtahgaghokpicgaaGreatF33D8j
namespace Go.Proofs.YtahgaghokpicgaaGreat
open Go.RowKit Go.Maps
set_option linter.unusedVariables false
set_option maxHeartbeats 16000000
theorem do_told {o : OpP} (ho : o.Ok) {r5 : Bool} {r6 r7 : Int} {kp : Option Addr} {kc th : Nat} (hth : th < 18446744073709551616) {W : World} {m nw hd mu : Nat} {f h : Nat → Option Nat} {g : Nat → Nat → Option Nat} {n : Nat} (H : MoAt W m nw hd mu f h g n) (hmu : mu ≤ 1024) (hn : n ≤ 8796093022000) (hks : KeysAt W kp o.ks) {A : Ans} (hA : A = tellP mu f (pcs h g) o th) :
    Calls Tryz.prog 17 #[.pointer (some ⟨m, 0, none⟩), .agg #[.int .u8 o.kd, .int .u64 o.k, .int .u64 o.v, .int .u64 o.od, .int .u64 o.hk, .bool r5, .int .i64 r6, .int .i64 r7, .slice kp o.ks.length kc, .int .u64 o.lo, .int .u64 o.hi], .int .u64 th] W fun e W' => Told W W' A e ∧ (∃ h' g', MoAt W' m nw hd mu (doF o A f) h' g' (n + 1) ∧ pcs h' g' = doP o A f (pcs h g)) ∧ Chg (fun i => i = nw ∨ i = hd) W W' := by
 refine (Do_all ho hth H hmu hn hks hA).mono ?_
 rintro e W' ⟨h1, ⟨cl, hcl, hM⟩, hc⟩
 exact ⟨h1, ⟨_, _, hM, pcs_do o A (fun k b hb => by have := H.blk.2.2.2 k b hb; omega)⟩, hc⟩
structure TwoAt (W : World) (b m nw hd r mu : Nat) (n : Nat) : Prop where
 both : BothAt W b m r
 ex : ∃ f h g, MoAt W m nw hd mu f h g n ∧ RB (fun _ => False) W r mu f (pcs h g) n
def FTwo (nw hd r : Nat) (i : Nat) : Prop := i = nw ∨ i = hd ∨ i = r
theorem map_not {H : Type} {R : Value → Option (DataW H × List MemPlace)} {el : Nat → DataW H} {ok : Nat → Prop} {W : World} {b n : Nat} {f : Nat → Option Nat} (h : MapR R el ok W b n f) {cs : Array Value} {t : TypeId} {p : Nat × Nat} : W.heap[b]? ≠ some (.cells cs t p) := by
 obtain ⟨D, ⟨es, clock, e, r⟩, _⟩ := h
 intro q
 rw [e] at q
 injection q with q
 cases q
theorem MoAt.cells {F : Nat → Prop} {W W' : World} {m nw hd mu : Nat} {f h : Nat → Option Nat} {g : Nat → Nat → Option Nat} {n : Nat} (H : MoAt W m nw hd mu f h g n) (c : Chg F W W') (hF : ∀ i, F i → i < W.heap.size → ∃ cs t p, W.heap[i]? = some (.cells cs t p) ∧ t ≠ 100) : MoAt W' m nw hd mu f h g n := by
 refine H.chg c (fun x => ?_) (fun x => ?_) (fun x => ?_) (fun k b hb x => ?_)
 ·obtain ⟨cs, t, p, e, ht⟩ := hF m x H.blk.1
  rw [H.md] at e
  injection e with e
  injection e with _ e
  exact ht e.symm
 ·obtain ⟨cs, t, p, e, ht⟩ := hF nw x H.blk.2.1
  exact map_not H.now e
 ·obtain ⟨cs, t, p, e, ht⟩ := hF hd x H.blk.2.2.1
  exact map_not H.held e
 ·obtain ⟨cs, t, p, e, ht⟩ := hF b x (H.blk.2.2.2 k b hb)
  exact map_not (H.pic k b hb) e
theorem RB.maps {A : Nat → Prop} {W W' : World} {r nw hd mu n n' m : Nat} {f f' h : Nat → Option Nat} {g : Nat → Nat → Option Nat} {pc : Nat → Option (Nat → Option Nat)} (hR : RB A W r mu f pc n) (H : MoAt W m nw hd mu f' h g n') (c : Chg (fun i => i = nw ∨ i = hd) W W') : RB A W' r mu f pc n :=
 hR.chg c (fun k hk cs t p e => by
  rcases hk with rfl | rfl
  ·exact absurd e (map_not H.now)
  ·exact absurd e (map_not H.held))
theorem two_take {W : World} {b m nw hd r mu n : Nat} (H : TwoAt W b m nw hd r mu n) (hmu : mu ≤ 1024) (hn : n ≤ 50000) {o : OpP} (ho : o.Ok) {r5 : Bool} {r6 r7 : Int} {kp lp : Option Addr} {kc lc hn9 : Nat} {B : Ans} (hBh : B.h < 18446744073709551616) (w6 : (Lit.int .i64 r6).wf = true) (w7 : (Lit.int .i64 r7).wf = true)
    (hK : KeysAt W kp o.ks) (hn1 : o.ks.length ≤ 17592186043904) (hL : PairsAt W lp B.l) (hn2 : B.l.length ≤ 8796093021952) (hkF : o.ks = [] ∨ ∀ bk off, kp = some ⟨bk, off, none⟩ → ¬ FTwo nw hd r bk) (hlF : B.l = [] ∨ ∀ bk off, lp = some ⟨bk, off, none⟩ → ¬ FTwo nw hd r bk) :
    Calls Tryz.prog 7 #[.pointer (some ⟨b, 0, none⟩), .agg #[.bool true, .int .u8 o.kd, .int .u64 o.k, .int .u64 o.v, .int .u64 o.od, .int .u64 o.hk, .bool r5, .int .i64 r6, .int .i64 r7, .slice kp o.ks.length kc, .int .u64 o.lo, .int .u64 o.hi, .int .i64 B.e, .bool B.f, .int .u64 B.x, .bool B.d, .int .u64 B.h, .slice lp B.l.length lc, .int .u64 B.n, .int .u64 hn9]] W fun e W' => e = .returned (.bool true) ∧ TwoAt W' b m nw hd r mu (n + 1) ∧ Chg (FTwo nw hd r) W W' := by
 obtain ⟨hb, f, h, g, hM, hR⟩ := H
 obtain ⟨pm, ph, nm, cm, nh, ch, hr⟩ := hR.cells
 have hmb := hM.blk
 have nbm : ¬ FTwo nw hd r b := by
  rintro (rfl | rfl | rfl)
  ·exact map_not hM.now hb
  ·exact map_not hM.held hb
  ·exact ne_ty hb hr (by decide) rfl
 have nrm : r ≠ nw ∧ r ≠ hd := ⟨fun e => map_not hM.now (by rw [← e]; exact hr), fun e => map_not hM.held (by rw [← e]; exact hr)⟩
 obtain ⟨R, hRt⟩ : ∃ R, R = takeB mu f (pcs h g) o B := ⟨_, rfl⟩
 refine (call_take (F := FTwo nw hd r) (R := R) (P := fun w w' => (∃ h' g', MoAt w' m nw hd mu (if R then doF o B f else f) h' g' (n + 1) ∧ pcs h' g' = if R then doP o B f (pcs h g) else pcs h g) ∧ RB (fun _ => False) w' r mu f (pcs h g) n)
  (Q := fun w => (∃ h' g', MoAt w m nw hd mu (if R then doF o B f else f) h' g' (n + 1) ∧ pcs h' g' = if R then doP o B f (pcs h g) else pcs h g) ∧ RB (fun _ => False) w r mu (if R then doF o B f else f) (if R then doP o B f (pcs h g) else pcs h g) (n + 1))
  w6 w7 hK hn1 hL hn2 hb (fun i hi => by rcases hi with rfl | rfl | rfl; exact hmb.2.1; exact hmb.2.2.1; exact lt_of hr) nbm hkF hlF ?_ ?_).mono ?_
 ·intro w gk gl cw hk hl
  refine (take_all ho hBh (hM.quiet cw) hmu (by omega) hk hl (by omega) hRt).mono ?_
  rintro e w' ⟨rfl, hm, hc⟩
  exact ⟨rfl, ⟨hm, (hR.quiet cw).maps (hM.quiet cw) hc⟩, hc.mono (fun i _ x => by rcases x with x | x; exact .inl x; exact .inr (.inl x))⟩
 ·rintro w w' cw cF ⟨⟨h', g', hm, hp⟩, hr2⟩
  refine (d_take hr2 (by omega) hmu (fun b hb => hb.elim) ho (hK.chgE ((cw.mono (fun _ _ x => x.elim)).trans cF (fun _ _ x => x) (fun _ _ x => x) : Chg (FTwo nw hd r) W w') hkF) hBh (hL.chgE ((cw.mono (fun _ _ x => x.elim)).trans cF (fun _ _ x => x) (fun _ _ x => x) : Chg (FTwo nw hd r) W w') hlF) (by omega) hRt).mono ?_
  rintro e w'' ⟨rfl, h2, hc⟩
  obtain ⟨pm2, ph2, nm2, cm2, nh2, ch2, hr3⟩ := hr2.cells
  exact ⟨rfl, ⟨⟨h', g', hm.cells hc (fun i hi _ => ⟨_, _, _, (congrArg (fun q => w'.heap[q]?) hi).trans hr3, by decide⟩), hp⟩, h2⟩, hc.mono (fun i _ x => .inr (.inr x))⟩
 ·rintro e W' ⟨rfl, ⟨w2, ⟨⟨h', g', hm, hp⟩, h2⟩, hc⟩, hcF⟩
  refine ⟨rfl, ⟨(hcF.block b (lt_of hb) nbm).trans hb, _, h', g', hm.quiet hc, ?_⟩, hcF⟩
  rw [hp]
  exact h2.quiet hc
theorem two_do {W : World} {b m nw hd r mu n : Nat} (H : TwoAt W b m nw hd r mu n) (hmu : mu ≤ 1024) (hn : n ≤ 50000) {o : OpP} (ho : o.Ok) {r5 : Bool} {r6 r7 : Int} {kp lp : Option Addr} {kc lc hn9 : Nat} (hh9 : hn9 < 18446744073709551616) {B : Ans} (w6 : (Lit.int .i64 r6).wf = true) (w7 : (Lit.int .i64 r7).wf = true)
    (hK : KeysAt W kp o.ks) (hn1 : o.ks.length ≤ 17592186043904) (hL : PairsAt W lp B.l) (hn2 : B.l.length ≤ 8796093021952) (hkF : o.ks = [] ∨ ∀ bk off, kp = some ⟨bk, off, none⟩ → ¬ FTwo nw hd r bk) (hlF : B.l = [] ∨ ∀ bk off, lp = some ⟨bk, off, none⟩ → ¬ FTwo nw hd r bk) :
    Calls Tryz.prog 7 #[.pointer (some ⟨b, 0, none⟩), .agg #[.bool false, .int .u8 o.kd, .int .u64 o.k, .int .u64 o.v, .int .u64 o.od, .int .u64 o.hk, .bool r5, .int .i64 r6, .int .i64 r7, .slice kp o.ks.length kc, .int .u64 o.lo, .int .u64 o.hi, .int .i64 B.e, .bool B.f, .int .u64 B.x, .bool B.d, .int .u64 B.h, .slice lp B.l.length lc, .int .u64 B.n, .int .u64 hn9]] W fun e W' => e = .returned (.bool true) ∧ TwoAt W' b m nw hd r mu (n + 1) ∧ Chg (FTwo nw hd r) W W' := by
 obtain ⟨hb, f, h, g, hM, hR⟩ := H
 obtain ⟨pm, ph, nm, cm, nh, ch, hr⟩ := hR.cells
 have hmb := hM.blk
 have nbm : ¬ FTwo nw hd r b := by
  rintro (rfl | rfl | rfl)
  ·exact map_not hM.now hb
  ·exact map_not hM.held hb
  ·exact ne_ty hb hr (by decide) rfl
 obtain ⟨T, hT⟩ : ∃ T, T = tellP mu f (pcs h g) o hn9 := ⟨_, rfl⟩
 refine (call_do (F := FTwo nw hd r) (T := T) (er := B.e) (fo := B.f) (va := B.x) (dn := B.d) (ah := B.h) (co := B.n) (l := B.l) (lc := lc) (P := fun w w' => (∃ h' g', MoAt w' m nw hd mu (doF o T f) h' g' (n + 1) ∧ pcs h' g' = doP o T f (pcs h g)) ∧ ∀ A : Nat → Prop, (∀ i, A i → w.heap.size ≤ i) → RB A w' r mu f (pcs h g) n)
  (Q := fun A w => (∃ h' g', MoAt w m nw hd mu (doF o T f) h' g' (n + 1) ∧ pcs h' g' = doP o T f (pcs h g)) ∧ RB A w r mu (doF o T f) (doP o T f (pcs h g)) (n + 1))
  w6 w7 hK hn1 hL hn2 hb (fun i hi => by rcases hi with rfl | rfl | rfl; exact hmb.2.1; exact hmb.2.2.1; exact lt_of hr) nbm hkF hlF ?_ ?_ ?_ ?_).mono ?_
 ·intro w gk cw hk
  refine (do_told ho hh9 (hM.quiet cw) hmu (by omega) hk hT).mono ?_
  rintro e w' ⟨h1, hm, hc⟩
  exact ⟨h1, ⟨hm, fun A hA => ((hR.quiet cw).avoid hA).maps (hM.quiet cw) hc⟩, hc.mono (fun i _ x => by rcases x with x | x; exact .inl x; exact .inr (.inl x))⟩
 ·rintro w w' y ⟨⟨h', g', hm, hp⟩, hr2⟩ c
  exact ⟨⟨h', g', hm.quiet c, hp⟩, fun A hA => (hr2 A hA).quiet c⟩
 ·rintro w w' y gT ⟨⟨h', g', hm, hp⟩, hr2⟩ hg c
  refine ⟨⟨h', g', hm.cells c (fun i hi _ => ⟨_, _, _, (congrArg (fun q => w'.heap[q]?) hi).trans hg, by decide⟩), hp⟩, fun A hA => (hr2 A hA).chg c (fun k hk cs t p e => ?_)⟩
  rw [hk, hg] at e
  injection e with e
  injection e with _ e
  subst e
  exact ⟨fun x => absurd x (by decide), by decide, by decide⟩
 ·rintro w w' A cw ⟨⟨h', g', hm, hp⟩, hr2⟩ hk hA
  have hrA := hr2 A (fun i hi => (hA i hi).1)
  refine (do_ex hrA (by omega) hmu (fun i hi => (hA i hi).2) hh9 ho hk).mono ?_
  rw [← hT]
  rintro e w'' ⟨h1, h2, hc⟩
  obtain ⟨pm2, ph2, nm2, cm2, nh2, ch2, hr3⟩ := hrA.cells
  exact ⟨h1, ⟨⟨h', g', hm.cells hc (fun i hi _ => ⟨_, _, _, (congrArg (fun q => w'.heap[q]?) hi).trans hr3, by decide⟩), hp⟩, h2⟩, hc.mono (fun i _ x => .inr (.inr x))⟩
 ·rintro e W' ⟨rfl, ⟨A, w2, ⟨⟨h', g', hm, hp⟩, h2⟩, hc, hA⟩, hcF⟩
  refine ⟨rfl, ⟨(hcF.block b (lt_of hb) nbm).trans hb, _, h', g', hm.cells hc (fun i hi _ => ?_), ?_⟩, hcF⟩
  ·obtain ⟨cs, e⟩ := (hA i hi).2
   exact ⟨cs, _, _, e, by decide⟩
  ·rw [hp]
   refine (h2.chg hc (fun k hk cs t p e => ?_)).less (fun _ x => x.elim)
   obtain ⟨cs', e'⟩ := (hA k hk).2
   rw [e'] at e
   injection e with e
   injection e with _ e
   subst e
   exact ⟨fun _ => hk, by decide, by decide⟩
set_option maxRecDepth 100000 in
theorem new_gg (mu : Nat) (h1 : 1 ≤ mu) (h2 : mu ≤ 1024) (W : World) : Calls Tryz.prog 24 #[.int .i64 mu] W fun e W' => e = .returned (.tuple #[.pointer (some ⟨W.heap.size + 2, 0, none⟩), .int .i64 0]) ∧ MoAt W' (W.heap.size + 2) W.heap.size (W.heap.size + 1) mu (fun _ => none) (fun _ => none) (fun _ _ => none) 0 ∧ Chg (fun _ => False) W W' := by
 have hmm := @run_makeMap Tryz.prog
 have q1 : ¬ (mu : Int) < 1 := by omega
 have q2 : ¬ (mu : Int) > 1024 := by omega
 have q3 : ¬ (1024 : Int) < (mu : Int) := by omega
 go_enter Tryz.func24, Tryz.ntmps24
 go_wp2_with fail
 go_ret2
 refine ⟨by simp, ⟨?_, ?_, ?_, fun k b hb => by simp at hb, by omega, by omega, by omega, fun k b hb => by simp at hb⟩, (((Chg.refl _ _).alloc _).alloc _).alloc _⟩
 ·have e := heap_alloc_new ((W.alloc (.map #[] 0)).alloc (.map #[] 0)) (.cells #[.int .i64 mu, .map (some W.heap.size), .map (some (W.heap.size + 1))] 100)
  rw [World.size_alloc, World.size_alloc] at e
  simpa using e
 ·exact MapR.chg (F := fun _ => False) (MapR.made _ _ _ W) (((Chg.refl _ _).alloc _).alloc _) (fun x => x)
 ·have e := MapR.made heldM elH (fun _ => True) (W.alloc (.map #[] 0))
  rw [World.size_alloc] at e
  exact MapR.chg (F := fun _ => False) e ((Chg.refl _ _).alloc _) (fun x => x)
set_option maxRecDepth 100000 in
theorem new_no (mu : Int) (h : mu < 1 ∨ 1024 < mu) (W : World) : Calls Tryz.prog 24 #[.int .i64 mu] W fun e W' => e = .returned (.tuple #[.pointer none, .int .i64 2]) ∧ W' = W := by
 by_cases h1 : mu < 1
 ·go_enter Tryz.func24, Tryz.ntmps24
  go_wp2_with fail
  (try simp only [Exit.inBlock, Exit.then])
  go_ret2
  exact ⟨rfl, rfl⟩
 ·have h2 : 1024 < mu := by omega
  clear h
  go_enter Tryz.func24, Tryz.ntmps24
  go_wp2_with fail
  (try simp only [Exit.inBlock, Exit.then])
  go_ret2
  exact ⟨rfl, rfl⟩
set_option maxRecDepth 100000 in
theorem new6_no (mu : Int) (h : mu < 1 ∨ 1024 < mu) (W : World) : Calls Tryz.prog 25 #[.int .i64 mu] W fun e W' => e = .returned (.tuple #[.pointer none, .int .i64 2]) ∧ W' = W := by
 by_cases h1 : mu < 1
 ·go_enter Tryz.func25, Tryz.ntmps25
  go_wp2_with fail
  go_ret2
  exact ⟨by simp, rfl⟩
 ·have h2 : 1024 < mu := by omega
  have h3 : mu > 1024 := h2
  clear h
  go_enter Tryz.func25, Tryz.ntmps25
  go_wp2_with fail
  go_ret2
  exact ⟨by simp, rfl⟩
set_option maxRecDepth 100000 in
theorem begun_no (mu : Int) (h : mu < 1 ∨ 1024 < mu) (W : World) : Calls Tryz.prog 6 #[.int .i64 mu] W fun e W' => e = .returned (.tuple #[.pointer none, .bool true]) ∧ W' = W := by
 have H1 := keepH (new_no mu h W)
 have H2 := keepH (new6_no mu h W)
 clear h
 go_enter Tryz.func6, Tryz.ntmps6
 go_wp2_with fail
 refine H1.out.mono ?_
 rintro e w1 ⟨rfl, rfl⟩
 go_wp2_with fail
 refine H2.out.mono ?_
 rintro e w2 ⟨rfl, rfl⟩
 go_wp2_with fail
 go_ret2
 exact ⟨by simp, rfl⟩
set_option maxRecDepth 100000 in
theorem begun_yes (mu : Nat) (h1 : 1 ≤ mu) (h2 : mu ≤ 1024) (W : World) : Calls Tryz.prog 6 #[.int .i64 mu] W fun e W' => (∃ b m nw hd r, e = .returned (.tuple #[.pointer (some ⟨b, 0, none⟩), .bool true]) ∧ TwoAt W' b m nw hd r mu 0 ∧ W.heap.size ≤ nw ∧ W.heap.size ≤ hd ∧ W.heap.size ≤ r) ∧ Chg (fun _ => False) W W' := by
 have H1 := keepH (new_gg mu h1 h2 W)
 have H2 := keepH (fun w => r_new6 w (mu := (mu : Int)) (by omega) (by omega))
 clear h1 h2
 go_enter Tryz.func6, Tryz.ntmps6
 go_wp2_with fail
 refine H1.out.mono ?_
 rintro e w1 ⟨rfl, hM, C1⟩
 obtain ⟨m, hm⟩ : ∃ m, m = W.heap.size + 2 := ⟨_, rfl⟩
 obtain ⟨hd, hhd⟩ : ∃ m, m = W.heap.size + 1 := ⟨_, rfl⟩
 obtain ⟨nw, hnw⟩ : ∃ m, m = W.heap.size := ⟨_, rfl⟩
 rw [← hm, ← hhd, ← hnw] at hM
 rw [← hm]
 have HM := keepH hM
 have HC1 := keepH C1
 have HNM : Hid (m = W.heap.size + 2 ∧ hd = W.heap.size + 1 ∧ nw = W.heap.size) := ⟨hm, hhd, hnw⟩
 clear hM C1 hm hhd hnw H1
 go_wp2_with fail
 refine (H2.out w1).mono ?_
 rintro e w2 ⟨rfl, hR, C2⟩
 obtain ⟨r, hr⟩ : ∃ r, r = w1.heap.size := ⟨_, rfl⟩
 rw [← hr] at hR ⊢
 have HR := keepH hR
 have HC2 := keepH C2
 have HNR := keepH hr
 clear hR C2 hr H2
 go_wp2_with fail
 go_ret2
 have c3 : Chg (fun _ => False) w2 (w2.alloc (.cells #[.pointer (some ⟨m, 0, none⟩), .pointer (some ⟨r, 0, none⟩)] 45)) := (Chg.refl _ _).alloc _
 have hn := HNM.out
 have hr := HNR.out
 have hs := HC1.out.size
 refine ⟨⟨w2.heap.size, m, nw, hd, r, by simp, ⟨heap_alloc_new _ _, fun _ => none, fun _ => none, fun _ _ => none, (HM.out.quiet HC2.out).quiet c3, ⟨[], [], ⟨.slice none 0 0, .slice none 0 0, [], HR.out.quiet c3, RL.nil _, rfl, fun z hz => (by cases hz), fun b hb => (by cases hb), fun z hz => (by cases hz)⟩, .nil, fun z hz => (by cases hz), rfl, Nat.le_refl _, Nat.le_refl _⟩⟩, by omega, by omega, by omega⟩, chgF (chgF HC1.out HC2.out) c3⟩
structure CallP where
 tk : Bool
 o : OpP
 r5 : Bool
 r6 : Int
 r7 : Int
 kp : Option Addr
 kc : Nat
 B : Ans
 lp : Option Addr
 lc : Nat
 hn : Nat
def CallP.cs (x : CallP) : List Value := [.bool x.tk, .int .u8 x.o.kd, .int .u64 x.o.k, .int .u64 x.o.v, .int .u64 x.o.od, .int .u64 x.o.hk, .bool x.r5, .int .i64 x.r6, .int .i64 x.r7, .slice x.kp x.o.ks.length x.kc, .int .u64 x.o.lo, .int .u64 x.o.hi, .int .i64 x.B.e, .bool x.B.f, .int .u64 x.B.x, .bool x.B.d, .int .u64 x.B.h, .slice x.lp x.B.l.length x.lc, .int .u64 x.B.n, .int .u64 x.hn]
structure CallP.Ok (W : World) (x : CallP) : Prop where
 o : x.o.Ok
 w6 : (Lit.int .i64 x.r6).wf = true
 w7 : (Lit.int .i64 x.r7).wf = true
 ks : KeysAt W x.kp x.o.ks
 kl : x.o.ks.length ≤ 17592186043904
 ah : x.B.h < 18446744073709551616
 ps : PairsAt W x.lp x.B.l
 pl : x.B.l.length ≤ 8796093021952
 hn : x.hn < 18446744073709551616
def CallsAtP (W : World) (p : Option Addr) (l : List CallP) : Prop := l = [] ∨ ∃ bk off, p = some ⟨bk, off, none⟩ ∧ bk < W.heap.size ∧ ∀ (i : Nat) (x : CallP), l[i]? = some x → x.Ok W ∧ ∀ (j : Nat) (u : Value), x.cs[j]? = some u → W.cell? ⟨bk, off + i * 20 + j, none⟩ = some u
theorem two_call {W0 W : World} {b m nw hd r mu n : Nat} (H : TwoAt W b m nw hd r mu n) (hmu : mu ≤ 1024) (hn : n ≤ 50000) {x : CallP} (hx : x.Ok W0) (c : Chg (FTwo nw hd r) W0 W) (hb : W0.heap.size ≤ nw ∧ W0.heap.size ≤ hd ∧ W0.heap.size ≤ r) :
    Calls Tryz.prog 7 #[.pointer (some ⟨b, 0, none⟩), .agg #[.bool x.tk, .int .u8 x.o.kd, .int .u64 x.o.k, .int .u64 x.o.v, .int .u64 x.o.od, .int .u64 x.o.hk, .bool x.r5, .int .i64 x.r6, .int .i64 x.r7, .slice x.kp x.o.ks.length x.kc, .int .u64 x.o.lo, .int .u64 x.o.hi, .int .i64 x.B.e, .bool x.B.f, .int .u64 x.B.x, .bool x.B.d, .int .u64 x.B.h, .slice x.lp x.B.l.length x.lc, .int .u64 x.B.n, .int .u64 x.hn]] W fun e W' => e = .returned (.bool true) ∧ TwoAt W' b m nw hd r mu (n + 1) ∧ Chg (FTwo nw hd r) W W' := by
 have nf : ∀ i, i < W0.heap.size → ¬ FTwo nw hd r i := fun i hi x => by rcases x with x | x | x <;> omega
 have nk := hx.ks.low nf
 have nl := hx.ps.low nf
 have hk := hx.ks.chgE c nk
 have hl := hx.ps.chgE c nl
 obtain ⟨tk, o, r5, r6, r7, kp, kc, B, lp, lc, h9⟩ := x
 cases tk with
 | true => exact two_take H hmu hn hx.o hx.ah hx.w6 hx.w7 hk hx.kl hl hx.pl nk nl
 | false => exact two_do H hmu hn hx.o hx.hn hx.w6 hx.w7 hk hx.kl hl hx.pl nk nl
theorem two_alike {W : World} {b m nw hd r mu n : Nat} (H : TwoAt W b m nw hd r mu n) (hn : n ≤ 60000) : Calls Tryz.prog 11 #[.pointer (some ⟨b, 0, none⟩)] W fun e W' => e = .returned (.bool true) ∧ Chg (fun _ => False) W W' := by
 obtain ⟨hb, f, h, g, hM, hR⟩ := H
 exact alike_ex hb hM hR hn hn
theorem TwoAt.quiet {W W' : World} {b m nw hd r mu n : Nat} (H : TwoAt W b m nw hd r mu n) (c : Chg (fun _ => False) W W') : TwoAt W' b m nw hd r mu n := by
 obtain ⟨hb, f, h, g, hM, hR⟩ := H
 exact ⟨(c.block b (lt_of hb) (fun x => x)).trans hb, f, h, g, hM.quiet c, hR.quiet c⟩
theorem rangeP {W : World} {bk o : Nat} {x : CallP} (h : ∀ (j : Nat) (u : Value), x.cs[j]? = some u → W.cell? ⟨bk, o + j, none⟩ = some u) : W.rangeAt bk o x.cs := h
def PicOf (W : World) (h h' : Nat → Option Nat) : Prop := ∀ k b, h' k = some b → (∃ k', h k' = some b) ∨ W.heap.size ≤ b
theorem PicOf.doH {W : World} {h : Nat → Option Nat} (o : OpP) (A : Ans) {cl : Nat} (hc : W.heap.size ≤ cl) : PicOf W h (doH o A cl h) := by
 intro k b hb
 unfold Go.Proofs.YtahgaghokpicgaaGreat.doH at hb
 split at hb
 ·unfold updO at hb
  split at hb
  ·injection hb with hb; subst hb; exact .inr hc
  ·exact .inl ⟨k, hb⟩
 ·split at hb
  ·unfold updO at hb
   split at hb
   ·cases hb
   ·exact .inl ⟨k, hb⟩
  ·exact .inl ⟨k, hb⟩
theorem do_told2 {o : OpP} (ho : o.Ok) {r5 : Bool} {r6 r7 : Int} {kp : Option Addr} {kc th : Nat} (hth : th < 18446744073709551616) {W : World} {m nw hd mu : Nat} {f h : Nat → Option Nat} {g : Nat → Nat → Option Nat} {n : Nat} (H : MoAt W m nw hd mu f h g n) (hmu : mu ≤ 1024) (hn : n ≤ 8796093022000) (hks : KeysAt W kp o.ks) {A : Ans} (hA : A = tellP mu f (pcs h g) o th) :
    Calls Tryz.prog 17 #[.pointer (some ⟨m, 0, none⟩), .agg #[.int .u8 o.kd, .int .u64 o.k, .int .u64 o.v, .int .u64 o.od, .int .u64 o.hk, .bool r5, .int .i64 r6, .int .i64 r7, .slice kp o.ks.length kc, .int .u64 o.lo, .int .u64 o.hi], .int .u64 th] W fun e W' => Told W W' A e ∧ (∃ h' g', MoAt W' m nw hd mu (doF o A f) h' g' (n + 1) ∧ pcs h' g' = doP o A f (pcs h g) ∧ PicOf W h h') ∧ Chg (fun i => i = nw ∨ i = hd) W W' := by
 refine (Do_all ho hth H hmu hn hks hA).mono ?_
 rintro e W' ⟨h1, ⟨cl, hcl, hM⟩, hc⟩
 exact ⟨h1, ⟨_, _, hM, pcs_do o A (fun k b hb => by have := H.blk.2.2.2 k b hb; omega), PicOf.doH o A hcl⟩, hc⟩
theorem take_all2 {o : OpP} (ho : o.Ok) {r5 : Bool} {r6 r7 : Int} {kp pb : Option Addr} {kc cb : Nat} {B : Ans} (hBh : B.h < 18446744073709551616) {W : World} {m nw hd mu : Nat} {f h : Nat → Option Nat} {g : Nat → Nat → Option Nat} {n : Nat} (H : MoAt W m nw hd mu f h g n) (hmu : mu ≤ 1024) (hn : n ≤ 8796093022000) (hks : KeysAt W kp o.ks) (hB : PairsAt W pb B.l) (hBl : B.l.length ≤ 9223372036854775807) {R : Bool} (hR : R = takeB mu f (pcs h g) o B) :
    Calls Tryz.prog 13 #[.pointer (some ⟨m, 0, none⟩), .agg (opC o r5 r6 r7 kp kc), .agg (ansC B pb cb)] W fun e W' => e = .returned (.bool R) ∧ (∃ h' g', MoAt W' m nw hd mu (if R then doF o B f else f) h' g' (n + 1) ∧ pcs h' g' = (if R then doP o B f (pcs h g) else pcs h g) ∧ PicOf W h h') ∧ Chg (fun i => i = nw ∨ i = hd) W W' := by
 obtain ⟨A, hA⟩ : ∃ A, A = tellP mu f (pcs h g) o B.h := ⟨_, rfl⟩
 rw [hR]
 unfold takeB
 rw [← hA]
 have still : ∀ {e : Ending} {W' : World} {b : Bool}, (e = .returned (.bool b) ∧ Chg (fun _ => False) W W') → (b = true → doF o B f = f ∧ doP o B f (pcs h g) = pcs h g) → (e = .returned (.bool b) ∧ (∃ h' g', MoAt W' m nw hd mu (if b then doF o B f else f) h' g' (n + 1) ∧ pcs h' g' = (if b then doP o B f (pcs h g) else pcs h g) ∧ PicOf W h h') ∧ Chg (fun i => i = nw ∨ i = hd) W W') := by
  rintro e W' b ⟨h1, hc⟩ hb
  refine ⟨h1, ⟨h, g, ?_, ?_, fun k b hb => .inl ⟨k, hb⟩⟩, hc.mono (fun _ _ x => x.elim)⟩
  ·cases b with
   | false => exact (H.quiet hc).mono (Nat.le_succ n)
   | true => rw [if_pos rfl, (hb rfl).1]; exact (H.quiet hc).mono (Nat.le_succ n)
  ·cases b with
   | false => rfl
   | true => rw [if_pos rfl, (hb rfl).2]
 have did : ∀ {e : Ending} {W' : World}, (e = .returned (.bool true) ∧ (∃ cl, W.heap.size ≤ cl ∧ MoAt W' m nw hd mu (doF o B f) (doH o B cl h) (setG g cl f) (n + 1)) ∧ Chg (fun i => i = nw ∨ i = hd) W W') → (e = .returned (.bool true) ∧ (∃ h' g', MoAt W' m nw hd mu (if true then doF o B f else f) h' g' (n + 1) ∧ pcs h' g' = (if true then doP o B f (pcs h g) else pcs h g) ∧ PicOf W h h') ∧ Chg (fun i => i = nw ∨ i = hd) W W') := by
  rintro e W' ⟨h1, ⟨cl, hcl, hM⟩, hc⟩
  exact ⟨h1, ⟨_, _, hM, pcs_do o B (fun k b hb => by have := H.blk.2.2.2 k b hb; omega), PicOf.doH o B hcl⟩, hc⟩
 cases hm : mayP o.kd B.e A.e with
 | true =>
  rw [if_pos rfl]
  refine (take_fail (r5 := r5) (r6 := r6) (r7 := r7) (kc := kc) (cb := cb) ho hBh H hmu hn hks hB hBl hA hm rfl).mono ?_
  intro e W' hh
  exact still hh (fun hb => ⟨doF_err (.inr (may_ne hm)), doP_err (.inr (may_ne hm))⟩)
 | false =>
  rw [if_neg (by decide)]
  by_cases k5 : o.kd = 5
  ·by_cases h0 : B.h = 0
   ·rw [if_pos ⟨k5, h0⟩]
    refine (take_no5 (r5 := r5) (r6 := r6) (r7 := r7) (kc := kc) (cb := cb) ho hBh H hmu hn hks hB hBl hA hm k5 h0).mono ?_
    intro e W' hh
    exact still hh (fun hb => by cases hb)
   ·rw [if_neg (fun q => h0 q.2), if_neg (by omega)]
    by_cases q : B = A
    ·rw [decide_eq_true q]
     refine (take_yes5 (r5 := r5) (r6 := r6) (r7 := r7) (kc := kc) (cb := cb) ho hBh H hmu hn hks hB hBl hA hm k5 h0 q).mono ?_
     intro e W' hh
     rw [← q] at hh
     exact did hh
    ·rw [decide_eq_false q]
     refine (take_no5b (r5 := r5) (r6 := r6) (r7 := r7) (kc := kc) (cb := cb) ho hBh H hmu hn hks hB hBl hA hm k5 h0 q).mono ?_
     intro e W' hh
     exact still hh (fun hb => by cases hb)
  ·rw [if_neg (fun q => k5 q.1)]
   by_cases k10 : o.kd = 10
   ·rw [if_pos k10]
    have eA : A = errA 0 := by
     rw [hA]
     unfold tellP
     rw [if_neg (by omega), if_neg (by omega), if_neg (by omega), if_neg (by omega), if_neg (by omega), if_neg (by omega), if_pos k10]
    by_cases q : B = ⟨0, false, 0, false, 0, [], B.n⟩
    ·rw [decide_eq_true q]
     refine (take_yes10b (r5 := r5) (r6 := r6) (r7 := r7) (kc := kc) (cb := cb) ho hBh H hmu hn hks hB hBl hA hm k10 (by rw [eA]; exact q)).mono ?_
     intro e W' hh
     have e2 : (⟨A.e, A.f, A.x, A.d, A.h, A.l, B.n⟩ : Ans) = B := by rw [eA]; exact q.symm
     rw [e2] at hh
     exact did hh
    ·rw [decide_eq_false q]
     refine (take_no10 (r5 := r5) (r6 := r6) (r7 := r7) (kc := kc) (cb := cb) ho hBh H hmu hn hks hB hBl hA hm k10 (by rw [eA]; exact q)).mono ?_
     intro e W' hh
     exact still hh (fun hb => by cases hb)
   ·rw [if_neg k10]
    by_cases q : B = A
    ·rw [decide_eq_true q]
     refine (take_yes (r5 := r5) (r6 := r6) (r7 := r7) (kc := kc) (cb := cb) ho hBh H hmu hn hks hB hBl hA hm k5 k10 q).mono ?_
     intro e W' hh
     rw [← q] at hh
     exact did hh
    ·rw [decide_eq_false q]
     refine (take_noB (r5 := r5) (r6 := r6) (r7 := r7) (kc := kc) (cb := cb) ho hBh H hmu hn hks hB hBl hA hm k5 k10 q).mono ?_
     intro e W' hh
     exact still hh (fun hb => by cases hb)
structure TwoX (V : Nat → Prop) (W : World) (b m nw hd r mu : Nat) (n : Nat) : Prop where
 both : BothAt W b m r
 ex : ∃ f h g, MoAt W m nw hd mu f h g n ∧ RB (fun _ => False) W r mu f (pcs h g) n ∧ ∀ k b, h k = some b → ¬ V b
theorem PicOf.off {V : Nat → Prop} {W w : World} {h h' : Nat → Option Nat} (p : PicOf w h h') (hv : ∀ k b, h k = some b → ¬ V b) (hV : ∀ i, V i → i < W.heap.size) (hs : W.heap.size ≤ w.heap.size) : ∀ k b, h' k = some b → ¬ V b := by
 intro k b hb x
 rcases p k b hb with ⟨k', hk⟩ | q
 ·exact hv k' b hk x
 ·have := hV b x
  omega
theorem two_take2 {V : Nat → Prop} {W : World} {b m nw hd r mu n : Nat} (H : TwoX V W b m nw hd r mu n) (hV : ∀ i, V i → i < W.heap.size) (hmu : mu ≤ 1024) (hn : n ≤ 50000) {o : OpP} (ho : o.Ok) {r5 : Bool} {r6 r7 : Int} {kp lp : Option Addr} {kc lc hn9 : Nat} {B : Ans} (hBh : B.h < 18446744073709551616) (w6 : (Lit.int .i64 r6).wf = true) (w7 : (Lit.int .i64 r7).wf = true)
    (hK : KeysAt W kp o.ks) (hn1 : o.ks.length ≤ 17592186043904) (hL : PairsAt W lp B.l) (hn2 : B.l.length ≤ 8796093021952) (hkF : o.ks = [] ∨ ∀ bk off, kp = some ⟨bk, off, none⟩ → ¬ FTwo nw hd r bk) (hlF : B.l = [] ∨ ∀ bk off, lp = some ⟨bk, off, none⟩ → ¬ FTwo nw hd r bk) :
    Calls Tryz.prog 7 #[.pointer (some ⟨b, 0, none⟩), .agg #[.bool true, .int .u8 o.kd, .int .u64 o.k, .int .u64 o.v, .int .u64 o.od, .int .u64 o.hk, .bool r5, .int .i64 r6, .int .i64 r7, .slice kp o.ks.length kc, .int .u64 o.lo, .int .u64 o.hi, .int .i64 B.e, .bool B.f, .int .u64 B.x, .bool B.d, .int .u64 B.h, .slice lp B.l.length lc, .int .u64 B.n, .int .u64 hn9]] W fun e W' => e = .returned (.bool true) ∧ TwoX V W' b m nw hd r mu (n + 1) ∧ Chg (FTwo nw hd r) W W' := by
 obtain ⟨hb, f, h, g, hM, hR, hPV⟩ := H
 obtain ⟨pm, ph, nm, cm, nh, ch, hr⟩ := hR.cells
 have hmb := hM.blk
 have nbm : ¬ FTwo nw hd r b := by
  rintro (rfl | rfl | rfl)
  ·exact map_not hM.now hb
  ·exact map_not hM.held hb
  ·exact ne_ty hb hr (by decide) rfl
 have nrm : r ≠ nw ∧ r ≠ hd := ⟨fun e => map_not hM.now (by rw [← e]; exact hr), fun e => map_not hM.held (by rw [← e]; exact hr)⟩
 obtain ⟨R, hRt⟩ : ∃ R, R = takeB mu f (pcs h g) o B := ⟨_, rfl⟩
 refine (call_take (F := FTwo nw hd r) (R := R) (P := fun w w' => (∃ h' g', MoAt w' m nw hd mu (if R then doF o B f else f) h' g' (n + 1) ∧ pcs h' g' = (if R then doP o B f (pcs h g) else pcs h g) ∧ ∀ k b, h' k = some b → ¬ V b) ∧ RB (fun _ => False) w' r mu f (pcs h g) n)
  (Q := fun w => (∃ h' g', MoAt w m nw hd mu (if R then doF o B f else f) h' g' (n + 1) ∧ pcs h' g' = (if R then doP o B f (pcs h g) else pcs h g) ∧ ∀ k b, h' k = some b → ¬ V b) ∧ RB (fun _ => False) w r mu (if R then doF o B f else f) (if R then doP o B f (pcs h g) else pcs h g) (n + 1))
  w6 w7 hK hn1 hL hn2 hb (fun i hi => by rcases hi with rfl | rfl | rfl; exact hmb.2.1; exact hmb.2.2.1; exact lt_of hr) nbm hkF hlF ?_ ?_).mono ?_
 ·intro w gk gl cw hk hl
  refine (take_all2 ho hBh (hM.quiet cw) hmu (by omega) hk hl (by omega) hRt).mono ?_
  rintro e w' ⟨rfl, ⟨h', g', hm, hp, hq⟩, hc⟩
  exact ⟨rfl, ⟨⟨h', g', hm, hp, hq.off hPV hV cw.size⟩, (hR.quiet cw).maps (hM.quiet cw) hc⟩, hc.mono (fun i _ x => by rcases x with x | x; exact .inl x; exact .inr (.inl x))⟩
 ·rintro w w' cw cF ⟨⟨h', g', hm, hp, hpv⟩, hr2⟩
  refine (d_take hr2 (by omega) hmu (fun b hb => hb.elim) ho (hK.chgE ((cw.mono (fun _ _ x => x.elim)).trans cF (fun _ _ x => x) (fun _ _ x => x) : Chg (FTwo nw hd r) W w') hkF) hBh (hL.chgE ((cw.mono (fun _ _ x => x.elim)).trans cF (fun _ _ x => x) (fun _ _ x => x) : Chg (FTwo nw hd r) W w') hlF) (by omega) hRt).mono ?_
  rintro e w'' ⟨rfl, h2, hc⟩
  obtain ⟨pm2, ph2, nm2, cm2, nh2, ch2, hr3⟩ := hr2.cells
  exact ⟨rfl, ⟨⟨h', g', hm.cells hc (fun i hi _ => ⟨_, _, _, (congrArg (fun q => w'.heap[q]?) hi).trans hr3, by decide⟩), hp, hpv⟩, h2⟩, hc.mono (fun i _ x => .inr (.inr x))⟩
 ·rintro e W' ⟨rfl, ⟨w2, ⟨⟨h', g', hm, hp, hpv⟩, h2⟩, hc⟩, hcF⟩
  refine ⟨rfl, ⟨(hcF.block b (lt_of hb) nbm).trans hb, _, h', g', hm.quiet hc, ?_, hpv⟩, hcF⟩
  rw [hp]
  exact h2.quiet hc
theorem two_do2 {V : Nat → Prop} {W : World} {b m nw hd r mu n : Nat} (H : TwoX V W b m nw hd r mu n) (hV : ∀ i, V i → i < W.heap.size) (hmu : mu ≤ 1024) (hn : n ≤ 50000) {o : OpP} (ho : o.Ok) {r5 : Bool} {r6 r7 : Int} {kp lp : Option Addr} {kc lc hn9 : Nat} (hh9 : hn9 < 18446744073709551616) {B : Ans} (w6 : (Lit.int .i64 r6).wf = true) (w7 : (Lit.int .i64 r7).wf = true)
    (hK : KeysAt W kp o.ks) (hn1 : o.ks.length ≤ 17592186043904) (hL : PairsAt W lp B.l) (hn2 : B.l.length ≤ 8796093021952) (hkF : o.ks = [] ∨ ∀ bk off, kp = some ⟨bk, off, none⟩ → ¬ FTwo nw hd r bk) (hlF : B.l = [] ∨ ∀ bk off, lp = some ⟨bk, off, none⟩ → ¬ FTwo nw hd r bk) :
    Calls Tryz.prog 7 #[.pointer (some ⟨b, 0, none⟩), .agg #[.bool false, .int .u8 o.kd, .int .u64 o.k, .int .u64 o.v, .int .u64 o.od, .int .u64 o.hk, .bool r5, .int .i64 r6, .int .i64 r7, .slice kp o.ks.length kc, .int .u64 o.lo, .int .u64 o.hi, .int .i64 B.e, .bool B.f, .int .u64 B.x, .bool B.d, .int .u64 B.h, .slice lp B.l.length lc, .int .u64 B.n, .int .u64 hn9]] W fun e W' => e = .returned (.bool true) ∧ TwoX V W' b m nw hd r mu (n + 1) ∧ Chg (FTwo nw hd r) W W' := by
 obtain ⟨hb, f, h, g, hM, hR, hPV⟩ := H
 obtain ⟨pm, ph, nm, cm, nh, ch, hr⟩ := hR.cells
 have hmb := hM.blk
 have nbm : ¬ FTwo nw hd r b := by
  rintro (rfl | rfl | rfl)
  ·exact map_not hM.now hb
  ·exact map_not hM.held hb
  ·exact ne_ty hb hr (by decide) rfl
 obtain ⟨T, hT⟩ : ∃ T, T = tellP mu f (pcs h g) o hn9 := ⟨_, rfl⟩
 refine (call_do (F := FTwo nw hd r) (T := T) (er := B.e) (fo := B.f) (va := B.x) (dn := B.d) (ah := B.h) (co := B.n) (l := B.l) (lc := lc) (P := fun w w' => (∃ h' g', MoAt w' m nw hd mu (doF o T f) h' g' (n + 1) ∧ pcs h' g' = doP o T f (pcs h g) ∧ ∀ k b, h' k = some b → ¬ V b) ∧ ∀ A : Nat → Prop, (∀ i, A i → w.heap.size ≤ i) → RB A w' r mu f (pcs h g) n)
  (Q := fun A w => (∃ h' g', MoAt w m nw hd mu (doF o T f) h' g' (n + 1) ∧ pcs h' g' = doP o T f (pcs h g) ∧ ∀ k b, h' k = some b → ¬ V b) ∧ RB A w r mu (doF o T f) (doP o T f (pcs h g)) (n + 1))
  w6 w7 hK hn1 hL hn2 hb (fun i hi => by rcases hi with rfl | rfl | rfl; exact hmb.2.1; exact hmb.2.2.1; exact lt_of hr) nbm hkF hlF ?_ ?_ ?_ ?_).mono ?_
 ·intro w gk cw hk
  refine (do_told2 ho hh9 (hM.quiet cw) hmu (by omega) hk hT).mono ?_
  rintro e w' ⟨h1, ⟨h', g', hm, hp, hq⟩, hc⟩
  exact ⟨h1, ⟨⟨h', g', hm, hp, hq.off hPV hV cw.size⟩, fun A hA => ((hR.quiet cw).avoid hA).maps (hM.quiet cw) hc⟩, hc.mono (fun i _ x => by rcases x with x | x; exact .inl x; exact .inr (.inl x))⟩
 ·rintro w w' y ⟨⟨h', g', hm, hp, hpv⟩, hr2⟩ c
  exact ⟨⟨h', g', hm.quiet c, hp, hpv⟩, fun A hA => (hr2 A hA).quiet c⟩
 ·rintro w w' y gT ⟨⟨h', g', hm, hp, hpv⟩, hr2⟩ hg c
  refine ⟨⟨h', g', hm.cells c (fun i hi _ => ⟨_, _, _, (congrArg (fun q => w'.heap[q]?) hi).trans hg, by decide⟩), hp, hpv⟩, fun A hA => (hr2 A hA).chg c (fun k hk cs t p e => ?_)⟩
  rw [hk, hg] at e
  injection e with e
  injection e with _ e
  subst e
  exact ⟨fun x => absurd x (by decide), by decide, by decide⟩
 ·rintro w w' A cw ⟨⟨h', g', hm, hp, hpv⟩, hr2⟩ hk hA
  have hrA := hr2 A (fun i hi => (hA i hi).1)
  refine (do_ex hrA (by omega) hmu (fun i hi => (hA i hi).2) hh9 ho hk).mono ?_
  rw [← hT]
  rintro e w'' ⟨h1, h2, hc⟩
  obtain ⟨pm2, ph2, nm2, cm2, nh2, ch2, hr3⟩ := hrA.cells
  exact ⟨h1, ⟨⟨h', g', hm.cells hc (fun i hi _ => ⟨_, _, _, (congrArg (fun q => w'.heap[q]?) hi).trans hr3, by decide⟩), hp, hpv⟩, h2⟩, hc.mono (fun i _ x => .inr (.inr x))⟩
 ·rintro e W' ⟨rfl, ⟨A, w2, ⟨⟨h', g', hm, hp, hpv⟩, h2⟩, hc, hA⟩, hcF⟩
  refine ⟨rfl, ⟨(hcF.block b (lt_of hb) nbm).trans hb, _, h', g', hm.cells hc (fun i hi _ => ?_), ?_, hpv⟩, hcF⟩
  ·obtain ⟨cs, e⟩ := (hA i hi).2
   exact ⟨cs, _, _, e, by decide⟩
  ·rw [hp]
   refine (h2.chg hc (fun k hk cs t p e => ?_)).less (fun _ x => x.elim)
   obtain ⟨cs', e'⟩ := (hA k hk).2
   rw [e'] at e
   injection e with e
   injection e with _ e
   subst e
   exact ⟨fun _ => hk, by decide, by decide⟩
theorem two_call2 {F V : Nat → Prop} {W0 W : World} {b m nw hd r mu n : Nat} (H : TwoX V W b m nw hd r mu n) (hV : ∀ i, V i → i < W.heap.size) (hmu : mu ≤ 1024) (hn : n ≤ 50000) {x : CallP} (hx : x.Ok W0) (c : Chg F W0 W) (hF : ∀ i, F i → W0.heap.size ≤ i) (hb : W0.heap.size ≤ nw ∧ W0.heap.size ≤ hd ∧ W0.heap.size ≤ r) :
    Calls Tryz.prog 7 #[.pointer (some ⟨b, 0, none⟩), .agg #[.bool x.tk, .int .u8 x.o.kd, .int .u64 x.o.k, .int .u64 x.o.v, .int .u64 x.o.od, .int .u64 x.o.hk, .bool x.r5, .int .i64 x.r6, .int .i64 x.r7, .slice x.kp x.o.ks.length x.kc, .int .u64 x.o.lo, .int .u64 x.o.hi, .int .i64 x.B.e, .bool x.B.f, .int .u64 x.B.x, .bool x.B.d, .int .u64 x.B.h, .slice x.lp x.B.l.length x.lc, .int .u64 x.B.n, .int .u64 x.hn]] W fun e W' => e = .returned (.bool true) ∧ TwoX V W' b m nw hd r mu (n + 1) ∧ Chg (FTwo nw hd r) W W' := by
 have nf : ∀ i, i < W0.heap.size → ¬ FTwo nw hd r i := fun i hi x => by rcases x with x | x | x <;> omega
 have nF : ∀ i, i < W0.heap.size → ¬ F i := fun i hi x => by have := hF i x; omega
 have nk := hx.ks.low nf
 have nl := hx.ps.low nf
 have hk := hx.ks.chgE c (hx.ks.low nF)
 have hl := hx.ps.chgE c (hx.ps.low nF)
 obtain ⟨tk, o, r5, r6, r7, kp, kc, B, lp, lc, h9⟩ := x
 cases tk with
 | true => exact two_take2 H hV hmu hn hx.o hx.ah hx.w6 hx.w7 hk hx.kl hl hx.pl nk nl
 | false => exact two_do2 H hV hmu hn hx.o hx.hn hx.w6 hx.w7 hk hx.kl hl hx.pl nk nl
theorem TwoX.quiet {V : Nat → Prop} {W W' : World} {b m nw hd r mu n : Nat} (H : TwoX V W b m nw hd r mu n) (c : Chg (fun _ => False) W W') : TwoX V W' b m nw hd r mu n := by
 obtain ⟨hb, f, h, g, hM, hR, hv⟩ := H
 exact ⟨(c.block b (lt_of hb) (fun x => x)).trans hb, f, h, g, hM.quiet c, hR.quiet c, hv⟩
theorem TwoX.mono {V : Nat → Prop} {W : World} {b m nw hd r mu n n' : Nat} (H : TwoX V W b m nw hd r mu n) (hn : n ≤ n') : TwoX V W b m nw hd r mu n' := by
 obtain ⟨hb, f, h, g, hM, hR, hv⟩ := H
 exact ⟨hb, f, h, g, hM.mono hn, hR.mono hn, hv⟩
theorem TwoX.at_ {V : Nat → Prop} {W : World} {b m nw hd r mu n : Nat} (H : TwoX V W b m nw hd r mu n) : TwoAt W b m nw hd r mu n := by
 obtain ⟨hb, f, h, g, hM, hR, hv⟩ := H
 exact ⟨hb, f, h, g, hM, hR⟩
theorem TwoAt.off {W : World} {b m nw hd r mu n : Nat} (H : TwoAt W b m nw hd r mu n) : TwoX (fun _ => False) W b m nw hd r mu n := by
 obtain ⟨hb, f, h, g, hM, hR⟩ := H
 exact ⟨hb, f, h, g, hM, hR, fun _ _ _ x => x⟩
theorem TwoX.lt {V : Nat → Prop} {W : World} {b m nw hd r mu n : Nat} (H : TwoX V W b m nw hd r mu n) : ∀ i, FTwo nw hd r i → i < W.heap.size := by
 obtain ⟨hb, f, h, g, hM, hR, hv⟩ := H
 obtain ⟨pm, ph, nm, cm, nh, ch, hr⟩ := hR.cells
 intro i hi
 rcases hi with rfl | rfl | rfl
 ·exact hM.blk.2.1
 ·exact hM.blk.2.2.1
 ·exact lt_of hr
theorem RB.beside {A F : Nat → Prop} {W W' : World} {m : Nat} {mu : Int} {f : Nat → Option Nat} {pc : Nat → Option (Nat → Option Nat)} {n : Nat} (h : RB A W m mu f pc n) (c : Chg F W W') (hm : ¬ F m) (hn : ∀ k, F k → ∀ cs t p, W.heap[k]? = some (.cells cs t p) → t = 105) : RB A W' m mu f pc n := by
 obtain ⟨l, H, ⟨mv, hv, Z, h1, h2, h3, h4, h5⟩, r⟩ := h.ex
 have nr : ∀ {v : Value} {f : Nat → Option Nat} {l : List (Nat × Nat)}, RL W v f l → RL W' v f l := fun {v f l} hr => hr.chg c (fun b hb x => by
  rcases hr.row.1.2 with ⟨e, _⟩ | ⟨g, cap, cur, e, _, hg, _⟩
  ·rw [e] at hb; cases hb
  ·rw [e] at hb
   injection hb with hb
   have hb : g = b := hb
   subst hb
   exact absurd (hn g x _ _ _ hg) (by decide))
 refine ⟨l, H, ⟨mv, hv, Z, ⟨(c.block m (lt_of h1.at_) hm).trans h1.at_, h1.row.chg c (fun b hb x => ?_)⟩, nr h2, h3, fun z hz => nr (h4 z hz), h5⟩, r⟩
 rcases h1.row.1.2 with ⟨e, _⟩ | ⟨g, cap, cur, e, _, hg, _⟩
 ·rw [e] at hb; cases hb
 ·rw [e] at hb
  injection hb with hb
  have hb : g = b := hb
  subst hb
  exact absurd (hn g x _ _ _ hg) (by decide)
theorem TwoX.beside {V1 : Nat → Prop} {W W' : World} {b m nw hd r mu n b1 m1 nw1 hd1 r1 mu1 n1 : Nat} (H : TwoX (FTwo nw1 hd1 r1) W b m nw hd r mu n) (H1 : TwoX V1 W b1 m1 nw1 hd1 r1 mu1 n1) (c : Chg (FTwo nw1 hd1 r1) W W') (hap : ∀ i, FTwo nw hd r i → ¬ FTwo nw1 hd1 r1 i) : TwoX (FTwo nw1 hd1 r1) W' b m nw hd r mu n := by
 obtain ⟨hb, f, h, g, hM, hR, hv⟩ := H
 obtain ⟨hb1, f1, h1, g1, hM1, hR1, hv1⟩ := H1
 obtain ⟨pm, ph, nm, cm, nh, ch, hr1⟩ := hR1.cells
 have hF : ∀ k, FTwo nw1 hd1 r1 k → ∀ cs t p, W.heap[k]? = some (.cells cs t p) → t = 105 := fun k hk cs t p e => by
  rcases hk with rfl | rfl | rfl
  ·exact absurd e (map_not hM1.now)
  ·exact absurd e (map_not hM1.held)
  ·rw [hr1] at e
   injection e with e
   injection e with _ e
   exact e.symm
 have nb : ∀ {i : Nat} {cs : Array Value} {t : TypeId} {p : Nat × Nat}, W.heap[i]? = some (.cells cs t p) → t ≠ 105 → ¬ FTwo nw1 hd1 r1 i := fun e ht x => ht (hF _ x _ _ _ e)
 exact ⟨(c.block b (lt_of hb) (nb hb (by decide))).trans hb, f, h, g, hM.chg c (nb hM.md (by decide)) (hap _ (.inl rfl)) (hap _ (.inr (.inl rfl))) hv, hR.beside c (hap _ (.inr (.inr rfl))) hF, hv⟩
structure Pair9 (W : World) (b1 m1 nw1 hd1 r1 b2 m2 nw2 hd2 r2 mu n k : Nat) : Prop where
 a : TwoX (FTwo nw2 hd2 r2) W b1 m1 nw1 hd1 r1 mu n
 b : TwoX (FTwo nw1 hd1 r1) W b2 m2 nw2 hd2 r2 mu k
 ap : ∀ i, FTwo nw1 hd1 r1 i → ¬ FTwo nw2 hd2 r2 i
def FBoth (nw1 hd1 r1 nw2 hd2 r2 : Nat) (i : Nat) : Prop := FTwo nw1 hd1 r1 i ∨ FTwo nw2 hd2 r2 i
theorem Pair9.quiet {W W' : World} {b1 m1 nw1 hd1 r1 b2 m2 nw2 hd2 r2 mu n k : Nat} (H : Pair9 W b1 m1 nw1 hd1 r1 b2 m2 nw2 hd2 r2 mu n k) (c : Chg (fun _ => False) W W') : Pair9 W' b1 m1 nw1 hd1 r1 b2 m2 nw2 hd2 r2 mu n k := ⟨H.a.quiet c, H.b.quiet c, H.ap⟩
theorem Pair9.mono {W : World} {b1 m1 nw1 hd1 r1 b2 m2 nw2 hd2 r2 mu n n' k k' : Nat} (H : Pair9 W b1 m1 nw1 hd1 r1 b2 m2 nw2 hd2 r2 mu n k) (hn : n ≤ n') (hk : k ≤ k') : Pair9 W b1 m1 nw1 hd1 r1 b2 m2 nw2 hd2 r2 mu n' k' := ⟨H.a.mono hn, H.b.mono hk, H.ap⟩
theorem Pair9.callA {F : Nat → Prop} {W0 W : World} {b1 m1 nw1 hd1 r1 b2 m2 nw2 hd2 r2 mu n k : Nat} (H : Pair9 W b1 m1 nw1 hd1 r1 b2 m2 nw2 hd2 r2 mu n k) (hmu : mu ≤ 1024) (hn : n ≤ 50000) {x : CallP} (hx : x.Ok W0) (c : Chg F W0 W) (hF : ∀ i, F i → W0.heap.size ≤ i) (hb : W0.heap.size ≤ nw1 ∧ W0.heap.size ≤ hd1 ∧ W0.heap.size ≤ r1) :
    Calls Tryz.prog 7 #[.pointer (some ⟨b1, 0, none⟩), .agg #[.bool x.tk, .int .u8 x.o.kd, .int .u64 x.o.k, .int .u64 x.o.v, .int .u64 x.o.od, .int .u64 x.o.hk, .bool x.r5, .int .i64 x.r6, .int .i64 x.r7, .slice x.kp x.o.ks.length x.kc, .int .u64 x.o.lo, .int .u64 x.o.hi, .int .i64 x.B.e, .bool x.B.f, .int .u64 x.B.x, .bool x.B.d, .int .u64 x.B.h, .slice x.lp x.B.l.length x.lc, .int .u64 x.B.n, .int .u64 x.hn]] W fun e W' => e = .returned (.bool true) ∧ Pair9 W' b1 m1 nw1 hd1 r1 b2 m2 nw2 hd2 r2 mu (n + 1) k ∧ Chg (FBoth nw1 hd1 r1 nw2 hd2 r2) W W' := by
 refine (two_call2 H.a H.b.lt hmu hn hx c hF hb).mono ?_
 rintro e W' ⟨rfl, h1, h2⟩
 exact ⟨rfl, ⟨h1, H.b.beside H.a h2 (fun i x y => H.ap i y x), H.ap⟩, h2.mono (fun i _ x => .inl x)⟩
theorem Pair9.callB {F : Nat → Prop} {W0 W : World} {b1 m1 nw1 hd1 r1 b2 m2 nw2 hd2 r2 mu n k : Nat} (H : Pair9 W b1 m1 nw1 hd1 r1 b2 m2 nw2 hd2 r2 mu n k) (hmu : mu ≤ 1024) (hn : k ≤ 50000) {x : CallP} (hx : x.Ok W0) (c : Chg F W0 W) (hF : ∀ i, F i → W0.heap.size ≤ i) (hb : W0.heap.size ≤ nw2 ∧ W0.heap.size ≤ hd2 ∧ W0.heap.size ≤ r2) :
    Calls Tryz.prog 7 #[.pointer (some ⟨b2, 0, none⟩), .agg #[.bool x.tk, .int .u8 x.o.kd, .int .u64 x.o.k, .int .u64 x.o.v, .int .u64 x.o.od, .int .u64 x.o.hk, .bool x.r5, .int .i64 x.r6, .int .i64 x.r7, .slice x.kp x.o.ks.length x.kc, .int .u64 x.o.lo, .int .u64 x.o.hi, .int .i64 x.B.e, .bool x.B.f, .int .u64 x.B.x, .bool x.B.d, .int .u64 x.B.h, .slice x.lp x.B.l.length x.lc, .int .u64 x.B.n, .int .u64 x.hn]] W fun e W' => e = .returned (.bool true) ∧ Pair9 W' b1 m1 nw1 hd1 r1 b2 m2 nw2 hd2 r2 mu n (k + 1) ∧ Chg (FBoth nw1 hd1 r1 nw2 hd2 r2) W W' := by
 refine (two_call2 H.b H.a.lt hmu hn hx c hF hb).mono ?_
 rintro e W' ⟨rfl, h1, h2⟩
 exact ⟨rfl, ⟨H.a.beside H.b h2 H.ap, h1, H.ap⟩, h2.mono (fun i _ x => .inr x)⟩
end Go.Proofs.YtahgaghokpicgaaGreat
namespace Go.Proofs.YtahgaghokpicgaaGreat
open Go.RowKit Go.Maps Go.Shelf
set_option linter.unusedVariables false
set_option maxHeartbeats 16000000
theorem key_shape {H : Type} {R : Value → Option (DataW H × List MemPlace)} {W : World} {b n : Nat} {D : DataW H} (h : W.ownsMap Tryz.prog 30 R b n D) : ∃ es, D = .map es ∧ es.Pairwise (fun p q => p.1 ≠ q.1) ∧ ∀ p ∈ es, ∃ k : Nat, p.1 = .int .u64 k := by
 obtain ⟨es, hD, hap, _⟩ := h.entries K64
 refine ⟨es, hD, hap, fun p hp => ?_⟩
 obtain ⟨es0, clock, hb, F, hs, hD'⟩ := h
 rw [hD] at hD'
 injection hD' with hD'
 rw [hD', mem_sorted] at hp
 obtain ⟨v, hv⟩ := fit_keys F p hp
 obtain ⟨x, _, e, hw⟩ := keyOf_int_inv Tryz.underlying30 hv
 obtain ⟨k, rfl, _⟩ := nat_u64 hw
 exact ⟨k, e⟩
theorem RdM.entry {H : Type} {el : Nat → DataW H} {ok : Nat → Prop} {es : List (Lit × DataW H)} {f : Nat → Option Nat} (r : RdM el ok (.map es) f) (hap : es.Pairwise (fun p q => p.1 ≠ q.1)) {k : Nat} {d : DataW H} (hm : ((.int .u64 k : Lit), d) ∈ es) : ∃ v, f k = some v ∧ d = el v := by
 have hat := fun z => WideAt.atKey_mem (H := H) z (show WideAt.IsKeyLit (.int .u64 k) by trivial) hap hm
 have hh := has_true_of_atKey hat
 rw [r.has k] at hh
 obtain ⟨v, hv⟩ := Option.isSome_iff_exists.1 hh
 exact ⟨v, hv, (hat .nil).symm.trans (r.val k v hv .nil)⟩
theorem RdM.key_mem {H : Type} {el : Nat → DataW H} {ok : Nat → Prop} {es : List (Lit × DataW H)} {f : Nat → Option Nat} (r : RdM el ok (.map es) f) (hap : es.Pairwise (fun p q => p.1 ≠ q.1)) (hks : ∀ p ∈ es, ∃ k : Nat, p.1 = .int .u64 k) (x : Lit) : x ∈ es.map Prod.fst ↔ ∃ k : Nat, x = .int .u64 k ∧ (f k).isSome = true := by
 constructor
 ·intro hx
  obtain ⟨⟨q, d⟩, hp, rfl⟩ := List.mem_map.1 hx
  obtain ⟨k, rfl⟩ := hks _ hp
  obtain ⟨v, hv, _⟩ := r.entry hap hp
  exact ⟨k, rfl, by rw [hv]; rfl⟩
 ·rintro ⟨k, rfl, hk⟩
  have hh := r.has k
  rw [hk] at hh
  obtain ⟨p, hp, hs⟩ := List.any_eq_true.1 (show es.any (fun p => p.1.sameKey (.int .u64 k)) = true from hh)
  rw [← WideAt.sameKey_eq hs]
  exact List.mem_map.2 ⟨p, hp, rfl⟩
theorem size_like {H : Type} {el el' : Nat → DataW H} {ok ok' : Nat → Prop} {es es' : List (Lit × DataW H)} {f f' : Nat → Option Nat} (r : RdM el ok (.map es) f) (r' : RdM el' ok' (.map es') f') (hap : es.Pairwise (fun p q => p.1 ≠ q.1)) (hap' : es'.Pairwise (fun p q => p.1 ≠ q.1)) (hks : ∀ p ∈ es, ∃ k : Nat, p.1 = .int .u64 k) (hks' : ∀ p ∈ es', ∃ k : Nat, p.1 = .int .u64 k) (h : ∀ k, (f k).isSome = (f' k).isSome) : es.length = es'.length := by
 have n1 : (es.map Prod.fst).Nodup := List.pairwise_map.2 hap
 have n2 : (es'.map Prod.fst).Nodup := List.pairwise_map.2 hap'
 have hp := (List.perm_ext_iff_of_nodup n1 n2).2 (fun x => by
  rw [r.key_mem hap hks x, r'.key_mem hap' hks' x]
  constructor
  ·rintro ⟨k, e, q⟩; exact ⟨k, e, by rw [← h k]; exact q⟩
  ·rintro ⟨k, e, q⟩; exact ⟨k, e, by rw [h k]; exact q⟩)
 have := hp.length_eq
 simpa using this
def eqU : DataW Unit → DataW Unit → Bool
 | .lit (.int _ a), .lit (.int _ b) => a == b
 | _, _ => false
theorem eqU_el (a b : Nat) : eqU (elU a) (elU b) = decide (a = b) := by
 simp [eqU, elU]
 by_cases h : a = b
 ·subst h; simp
 ·have q : ¬ (a : Int) = (b : Int) := by omega
  simp [h, q]
theorem neq_u (W : World) (x y : Value) (xd yd : DataW Unit) (xp yp : List MemPlace) (hx : plainElem Tryz.prog 30 x = some (xd, xp)) (hy : plainElem Tryz.prog 30 y = some (yd, yp)) :
    (binOp .neq 30 x y).run Tryz.prog W = .ok (.bool (!eqU xd yd)) W ∧ ∀ (a b : Operand), (eqGuard .neq 30 a b x y).run Tryz.prog W = .ok () W := by
 obtain ⟨a, rfl, e1, _⟩ := plainElem_int_inv Tryz.underlying30 hx
 obtain ⟨b, rfl, e2, _⟩ := plainElem_int_inv Tryz.underlying30 hy
 injection e1 with e1 _
 injection e2 with e2 _
 subst e1 e2
 refine ⟨?_, fun _ _ => by rw [eqGuard_at_int]; rfl⟩
 simp [go_sem, eqU, binOp]
 rfl
theorem equal_any {W : World} {p1 p2 : Option Nat} {D1 D2 : DataW Unit} (h1 : SrcOf Tryz.prog 30 (plainElem Tryz.prog 30) W p1 D1) (h2 : SrcOf Tryz.prog 30 (plainElem Tryz.prog 30) W p2 D2) :
    Calls Tryz.prog 33 #[.map p1, .map p2] W fun e W' => e = .returned (.bool (Lib.equalFuncD eqU D1 D2)) ∧ W.grownBy W' none :=
 AnyEq.maps_Equal_opt Tryz.laysME K64 (plainElem Tryz.prog 30) (plainElem Tryz.prog 30) eqU p1 p2 D1 D2 W h1 h2 (.int .u64 0) zeroU (.lit (.int .u64 0)) [] (plainElem_int (H := Unit) Tryz.underlying30 (show (Lit.int .u64 0).wf = true by decide)) neq_u
end Go.Proofs.YtahgaghokpicgaaGreat
namespace Go.Proofs.YtahgaghokpicgaaGreat
open Go.RowKit Go.Maps Go.Shelf
open Go.WideElems (Fit rd rg rd_val rg_of)
set_option linter.unusedVariables false
set_option maxHeartbeats 16000000
theorem own_unique {H : Type} {R : Value → Option (DataW H × List MemPlace)} {W : World} {b n n' : Nat} {D D' : DataW H} (h : W.ownsMap Tryz.prog 30 R b n D) (h' : W.ownsMap Tryz.prog 30 R b n' D') : D = D' := by
 obtain ⟨es, c, hb, _, _, rfl⟩ := h
 obtain ⟨es', c', hb', _, _, rfl⟩ := h'
 rw [hb] at hb'
 simp only [Option.some.injEq, Obj.map.injEq] at hb'
 rw [hb'.1]
def OwnC (W : World) (b : Nat) : Prop := ∃ n D, W.ownsMap (H := Unit) Tryz.prog 30 (plainElem Tryz.prog 30) b n D
open Classical in
noncomputable def heldS (W : World) (v : Value) : Option (DataW (Option Nat) × List MemPlace) := match v with
 | .map (some b) => if OwnC W b then some (.held (some b), []) else none
 | .map none => some (.held none, [])
 | _ => none
open Classical in
noncomputable def Dp (W : World) (p : Option Nat) : DataW Unit := match p with
 | some b => if h : OwnC W b then h.choose_spec.choose else .nil
 | none => .nil
theorem Dp_own {W : World} {b : Nat} (h : OwnC W b) : ∃ n, W.ownsMap Tryz.prog 30 (plainElem Tryz.prog 30) b n (Dp W (some b)) := by
 refine ⟨h.choose, ?_⟩
 have e : Dp W (some b) = h.choose_spec.choose := dif_pos h
 rw [e]
 exact h.choose_spec.choose_spec
theorem heldS_inv {W : World} {v : Value} {d : DataW (Option Nat)} {ps : List MemPlace} (h : heldS W v = some (d, ps)) : ∃ p, v = .map p ∧ d = .held p ∧ SrcOf Tryz.prog 30 (plainElem Tryz.prog 30) W p (Dp W p) := by
 unfold heldS at h
 split at h
 ·rename_i b
  split at h
  ·rename_i ho
   simp at h
   obtain ⟨n, hn⟩ := Dp_own ho
   exact ⟨some b, rfl, h.1.symm, .inr ⟨b, n, rfl, hn⟩⟩
  ·cases h
 ·simp at h
  exact ⟨none, rfl, h.1.symm, .inl ⟨rfl, rfl⟩⟩
 ·cases h
noncomputable def eqH (W : World) : DataW (Option Nat) → DataW (Option Nat) → Bool
 | .held p, .held q => Lib.equalFuncD eqU (Dp W p) (Dp W q)
 | _, _ => false
theorem held_own {W : World} {b n : Nat} {h : Nat → Option Nat} (H : HeldAt W b n h) (hp : ∀ k b, h k = some b → OwnC W b) : ∃ n D, W.ownsMap Tryz.prog 30 (heldS W) b n D ∧ RdM elH (fun _ => True) D h := by
 obtain ⟨D, ho, r⟩ := H
 obtain ⟨es, rfl, hap, hks⟩ := key_shape ho
 obtain ⟨es0, clock, hb, F, hs, hD⟩ := ho
 refine ⟨_, _, World.ownsMap_of_fit hb F (R := heldS W) (fun x hx z hz => ?_), by rw [← hD]; exact r⟩
 have hm : rg Tryz.prog 30 heldM x ∈ es := by
  rw [DataW.map.inj hD, mem_sorted]
  exact List.mem_map.2 ⟨x, hx, rfl⟩
 obtain ⟨y, hy⟩ := F.reads x hx
 rw [rg_of hy] at hm
 obtain ⟨k, e⟩ := hks y hm
 obtain ⟨y1, y2⟩ := y
 simp only at e
 subst e
 obtain ⟨v, hv, rfl⟩ := r.entry hap hm
 obtain ⟨z', hz', e2⟩ := rd_val hy
 rw [hz] at hz'
 obtain rfl := Option.some.inj hz'
 unfold heldM at hz
 split at hz
 ·rename_i p hxv
  obtain rfl := Option.some.inj hz
  simp [elH] at e2
  subst e2
  rw [hxv]
  unfold heldS
  simp [hp k v hv]
 ·cases hz
end Go.Proofs.YtahgaghokpicgaaGreat
