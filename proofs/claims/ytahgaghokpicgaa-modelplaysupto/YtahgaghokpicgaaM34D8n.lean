/- Put, Delete and Swap on keys of two kinds. -/
import Derived.Test.YtahgaghokpicgaaM17Nk
import Derived.Test.YtahgaghokpicgaaM31D8h
import Derived.Test.YtahgaghokpicgaaM19Nt
import Derived.Test.YtahgaghokpicgaaM13Npe
import Derived.Test.YtahgaghokpicgaaM32D8i
import Derived.Test.YtahgaghokpicgaaM33D8j
import Derived.Lib.SmallJoins
import Derived.Deep.Slices
import Derived.Carry
import Derived.OpenShut
import Derived.Test.YtahgaghokpicgaaM1MsL
namespace Go.Proofs.Ytahgaghokpicgaa
open Go.RowKit Go.Maps
set_option linter.unusedVariables false
set_option maxHeartbeats 16000000

end Go.Proofs.Ytahgaghokpicgaa
/- What Do tells, Take lets be told, and both leave the same. -/
namespace Go.Proofs.Ytahgaghokpicgaa
open Go.RowKit Go.Maps
set_option linter.unusedVariables false
set_option maxHeartbeats 16000000

theorem do_told {o : OpP} (ho : o.Ok) {r5 : Bool} {r6 r7 : Int} {kp : Option Addr} {kc th : Nat} (hth : th < 18446744073709551616) {W : World} {m nw hd mu : Nat} {f h : Nat → Option Nat} {g : Nat → Nat → Option Nat} {n : Nat} (H : MoAt W m nw hd mu f h g n) (hmu : mu ≤ 1024) (hn : n ≤ 8796093022000) (hks : KeysAt W kp o.ks) {A : Ans} (hA : A = tellP mu f (pcs h g) o th) :
    Calls Try.prog 19 #[.pointer (some ⟨m, 0, none⟩), .agg #[.int .u8 o.kd, .int .u64 o.k, .int .u64 o.v, .int .u64 o.od, .int .u64 o.hk, .bool r5, .int .i64 r6, .int .i64 r7, .slice kp o.ks.length kc, .int .u64 o.lo, .int .u64 o.hi], .int .u64 th] W fun e W' => Told W W' A e ∧ (∃ h' g', MoAt W' m nw hd mu (doF o A f) h' g' (n + 1) ∧ pcs h' g' = doP o A f (pcs h g)) ∧ Chg (fun i => i = nw ∨ i = hd) W W' := by
 refine (Do_all ho hth H hmu hn hks hA).mono ?_
 rintro e W' ⟨h1, ⟨cl, hcl, hM⟩, hc⟩
 exact ⟨h1, ⟨_, _, hM, pcs_do o A (fun k b hb => by have := H.blk.2.2.2 k b hb; omega)⟩, hc⟩
end Go.Proofs.Ytahgaghokpicgaa
/- A call of both models, at any state. -/
namespace Go.Proofs.Ytahgaghokpicgaa
open Go.RowKit Go.Maps
set_option linter.unusedVariables false
set_option maxHeartbeats 16000000

/-- Both models, alike. -/
structure TwoAt (W : World) (b m nw hd r mu : Nat) (n : Nat) : Prop where
 both : BothAt W b m r
 ex : ∃ f h g, MoAt W m nw hd mu f h g n ∧ RB (fun _ => False) W r mu f (pcs h g) n
def FTwo (nw hd r : Nat) (i : Nat) : Prop := i = nw ∨ i = hd ∨ i = r
theorem map_not {H : Type} {R : Value → Option (DataW H × List MemPlace)} {el : Nat → DataW H} {ok : Nat → Prop} {W : World} {b n : Nat} {f : Nat → Option Nat} (h : MapR R el ok W b n f) {cs : Array Value} {t : TypeId} {p : Nat × Nat} : W.heap[b]? ≠ some (.cells cs t p) := by
 obtain ⟨D, ⟨es, clock, e, r⟩, _⟩ := h
 intro q
 rw [e] at q
 injection q with q
 cases q
/-- The program's model where other blocks of cells were written. -/
theorem MoAt.cells {F : Nat → Prop} {W W' : World} {m nw hd mu : Nat} {f h : Nat → Option Nat} {g : Nat → Nat → Option Nat} {n : Nat} (H : MoAt W m nw hd mu f h g n) (c : Chg F W W') (hF : ∀ i, F i → i < W.heap.size → ∃ cs t p, W.heap[i]? = some (.cells cs t p) ∧ t ≠ 101) : MoAt W' m nw hd mu f h g n := by
 refine H.chg c (fun x => ?_) (fun x => ?_) (fun x => ?_) (fun k b hb x => ?_)
 ·obtain ⟨cs, t, p, e, ht⟩ := hF m x H.blk.1
  rw [H.md] at e
  injection e with e
  injection e with _ e
  exact ht e.symm
 ·obtain ⟨cs, t, p, e, ht⟩ := hF nw x H.blk.2.1
  exact map_not H.now e
 ·obtain ⟨cs, t, p, e, ht⟩ := hF hd x H.blk.2.2.1
  exact map_not H.held e
 ·obtain ⟨cs, t, p, e, ht⟩ := hF b x (H.blk.2.2.2 k b hb)
  exact map_not (H.pic k b hb) e
/-- The document's model where the program's maps were written. -/
theorem RB.maps {A : Nat → Prop} {W W' : World} {r nw hd mu n n' m : Nat} {f f' h : Nat → Option Nat} {g : Nat → Nat → Option Nat} {pc : Nat → Option (Nat → Option Nat)} (hR : RB A W r mu f pc n) (H : MoAt W m nw hd mu f' h g n') (c : Chg (fun i => i = nw ∨ i = hd) W W') : RB A W' r mu f pc n :=
 hR.chg c (fun k hk cs t p e => by
  rcases hk with rfl | rfl
  ·exact absurd e (map_not H.now)
  ·exact absurd e (map_not H.held))
theorem two_take {W : World} {b m nw hd r mu n : Nat} (H : TwoAt W b m nw hd r mu n) (hmu : mu ≤ 1024) (hn : n ≤ 50000) {o : OpP} (ho : o.Ok) {r5 : Bool} {r6 r7 : Int} {kp lp : Option Addr} {kc lc hn9 : Nat} {B : Ans} (hBh : B.h < 18446744073709551616) (w6 : (Lit.int .i64 r6).wf = true) (w7 : (Lit.int .i64 r7).wf = true)
    (hK : KeysAt W kp o.ks) (hn1 : o.ks.length ≤ 17592186043904) (hL : PairsAt W lp B.l) (hn2 : B.l.length ≤ 8796093021952) (hkF : o.ks = [] ∨ ∀ bk off, kp = some ⟨bk, off, none⟩ → ¬ FTwo nw hd r bk) (hlF : B.l = [] ∨ ∀ bk off, lp = some ⟨bk, off, none⟩ → ¬ FTwo nw hd r bk) :
    Calls Try.prog 7 #[.pointer (some ⟨b, 0, none⟩), .agg #[.bool true, .int .u8 o.kd, .int .u64 o.k, .int .u64 o.v, .int .u64 o.od, .int .u64 o.hk, .bool r5, .int .i64 r6, .int .i64 r7, .slice kp o.ks.length kc, .int .u64 o.lo, .int .u64 o.hi, .int .i64 B.e, .bool B.f, .int .u64 B.x, .bool B.d, .int .u64 B.h, .slice lp B.l.length lc, .int .u64 B.n, .int .u64 hn9]] W fun e W' => e = .returned (.bool true) ∧ TwoAt W' b m nw hd r mu (n + 1) ∧ Chg (FTwo nw hd r) W W' := by
 obtain ⟨hb, f, h, g, hM, hR⟩ := H
 obtain ⟨pm, ph, nm, cm, nh, ch, hr⟩ := hR.cells
 have hmb := hM.blk
 have nbm : ¬ FTwo nw hd r b := by
  rintro (rfl | rfl | rfl)
  ·exact map_not hM.now hb
  ·exact map_not hM.held hb
  ·exact ne_ty hb hr (by decide) rfl
 have nrm : r ≠ nw ∧ r ≠ hd := ⟨fun e => map_not hM.now (by rw [← e]; exact hr), fun e => map_not hM.held (by rw [← e]; exact hr)⟩
 obtain ⟨R, hRt⟩ : ∃ R, R = takeB mu f (pcs h g) o B := ⟨_, rfl⟩
 refine (call_take (F := FTwo nw hd r) (R := R) (P := fun w w' => (∃ h' g', MoAt w' m nw hd mu (if R then doF o B f else f) h' g' (n + 1) ∧ pcs h' g' = if R then doP o B f (pcs h g) else pcs h g) ∧ RB (fun _ => False) w' r mu f (pcs h g) n)
  (Q := fun w => (∃ h' g', MoAt w m nw hd mu (if R then doF o B f else f) h' g' (n + 1) ∧ pcs h' g' = if R then doP o B f (pcs h g) else pcs h g) ∧ RB (fun _ => False) w r mu (if R then doF o B f else f) (if R then doP o B f (pcs h g) else pcs h g) (n + 1))
  w6 w7 hK hn1 hL hn2 hb (fun i hi => by rcases hi with rfl | rfl | rfl; exact hmb.2.1; exact hmb.2.2.1; exact lt_of hr) nbm hkF hlF ?_ ?_).mono ?_
 ·intro w gk gl cw hk hl
  refine (take_all ho hBh (hM.quiet cw) hmu (by omega) hk hl (by omega) hRt).mono ?_
  rintro e w' ⟨rfl, hm, hc⟩
  exact ⟨rfl, ⟨hm, (hR.quiet cw).maps (hM.quiet cw) hc⟩, hc.mono (fun i _ x => by rcases x with x | x; exact .inl x; exact .inr (.inl x))⟩
 ·rintro w w' cw cF ⟨⟨h', g', hm, hp⟩, hr2⟩
  refine (d_take hr2 (by omega) hmu (fun b hb => hb.elim) ho (hK.chgE ((cw.mono (fun _ _ x => x.elim)).trans cF (fun _ _ x => x) (fun _ _ x => x) : Chg (FTwo nw hd r) W w') hkF) hBh (hL.chgE ((cw.mono (fun _ _ x => x.elim)).trans cF (fun _ _ x => x) (fun _ _ x => x) : Chg (FTwo nw hd r) W w') hlF) (by omega) hRt).mono ?_
  rintro e w'' ⟨rfl, h2, hc⟩
  obtain ⟨pm2, ph2, nm2, cm2, nh2, ch2, hr3⟩ := hr2.cells
  exact ⟨rfl, ⟨⟨h', g', hm.cells hc (fun i hi _ => ⟨_, _, _, (congrArg (fun q => w'.heap[q]?) hi).trans hr3, by decide⟩), hp⟩, h2⟩, hc.mono (fun i _ x => .inr (.inr x))⟩
 ·rintro e W' ⟨rfl, ⟨w2, ⟨⟨h', g', hm, hp⟩, h2⟩, hc⟩, hcF⟩
  refine ⟨rfl, ⟨(hcF.block b (lt_of hb) nbm).trans hb, _, h', g', hm.quiet hc, ?_⟩, hcF⟩
  rw [hp]
  exact h2.quiet hc
theorem two_do {W : World} {b m nw hd r mu n : Nat} (H : TwoAt W b m nw hd r mu n) (hmu : mu ≤ 1024) (hn : n ≤ 50000) {o : OpP} (ho : o.Ok) {r5 : Bool} {r6 r7 : Int} {kp lp : Option Addr} {kc lc hn9 : Nat} (hh9 : hn9 < 18446744073709551616) {B : Ans} (w6 : (Lit.int .i64 r6).wf = true) (w7 : (Lit.int .i64 r7).wf = true)
    (hK : KeysAt W kp o.ks) (hn1 : o.ks.length ≤ 17592186043904) (hL : PairsAt W lp B.l) (hn2 : B.l.length ≤ 8796093021952) (hkF : o.ks = [] ∨ ∀ bk off, kp = some ⟨bk, off, none⟩ → ¬ FTwo nw hd r bk) (hlF : B.l = [] ∨ ∀ bk off, lp = some ⟨bk, off, none⟩ → ¬ FTwo nw hd r bk) :
    Calls Try.prog 7 #[.pointer (some ⟨b, 0, none⟩), .agg #[.bool false, .int .u8 o.kd, .int .u64 o.k, .int .u64 o.v, .int .u64 o.od, .int .u64 o.hk, .bool r5, .int .i64 r6, .int .i64 r7, .slice kp o.ks.length kc, .int .u64 o.lo, .int .u64 o.hi, .int .i64 B.e, .bool B.f, .int .u64 B.x, .bool B.d, .int .u64 B.h, .slice lp B.l.length lc, .int .u64 B.n, .int .u64 hn9]] W fun e W' => e = .returned (.bool true) ∧ TwoAt W' b m nw hd r mu (n + 1) ∧ Chg (FTwo nw hd r) W W' := by
 obtain ⟨hb, f, h, g, hM, hR⟩ := H
 obtain ⟨pm, ph, nm, cm, nh, ch, hr⟩ := hR.cells
 have hmb := hM.blk
 have nbm : ¬ FTwo nw hd r b := by
  rintro (rfl | rfl | rfl)
  ·exact map_not hM.now hb
  ·exact map_not hM.held hb
  ·exact ne_ty hb hr (by decide) rfl
 obtain ⟨T, hT⟩ : ∃ T, T = tellP mu f (pcs h g) o hn9 := ⟨_, rfl⟩
 refine (call_do (F := FTwo nw hd r) (T := T) (er := B.e) (fo := B.f) (va := B.x) (dn := B.d) (ah := B.h) (co := B.n) (l := B.l) (lc := lc) (P := fun w w' => (∃ h' g', MoAt w' m nw hd mu (doF o T f) h' g' (n + 1) ∧ pcs h' g' = doP o T f (pcs h g)) ∧ ∀ A : Nat → Prop, (∀ i, A i → w.heap.size ≤ i) → RB A w' r mu f (pcs h g) n)
  (Q := fun A w => (∃ h' g', MoAt w m nw hd mu (doF o T f) h' g' (n + 1) ∧ pcs h' g' = doP o T f (pcs h g)) ∧ RB A w r mu (doF o T f) (doP o T f (pcs h g)) (n + 1))
  w6 w7 hK hn1 hL hn2 hb (fun i hi => by rcases hi with rfl | rfl | rfl; exact hmb.2.1; exact hmb.2.2.1; exact lt_of hr) nbm hkF hlF ?_ ?_ ?_ ?_).mono ?_
 ·intro w gk cw hk
  refine (do_told ho hh9 (hM.quiet cw) hmu (by omega) hk hT).mono ?_
  rintro e w' ⟨h1, hm, hc⟩
  exact ⟨h1, ⟨hm, fun A hA => ((hR.quiet cw).avoid hA).maps (hM.quiet cw) hc⟩, hc.mono (fun i _ x => by rcases x with x | x; exact .inl x; exact .inr (.inl x))⟩
 ·rintro w w' y ⟨⟨h', g', hm, hp⟩, hr2⟩ c
  exact ⟨⟨h', g', hm.quiet c, hp⟩, fun A hA => (hr2 A hA).quiet c⟩
 ·rintro w w' y gT ⟨⟨h', g', hm, hp⟩, hr2⟩ hg c
  refine ⟨⟨h', g', hm.cells c (fun i hi _ => ⟨_, _, _, (congrArg (fun q => w'.heap[q]?) hi).trans hg, by decide⟩), hp⟩, fun A hA => (hr2 A hA).chg c (fun k hk cs t p e => ?_)⟩
  rw [hk, hg] at e
  injection e with e
  injection e with _ e
  subst e
  exact ⟨fun x => absurd x (by decide), by decide, by decide⟩
 ·rintro w w' A cw ⟨⟨h', g', hm, hp⟩, hr2⟩ hk hA
  have hrA := hr2 A (fun i hi => (hA i hi).1)
  refine (do_ex hrA (by omega) hmu (fun i hi => (hA i hi).2) hh9 ho hk).mono ?_
  rw [← hT]
  rintro e w'' ⟨h1, h2, hc⟩
  obtain ⟨pm2, ph2, nm2, cm2, nh2, ch2, hr3⟩ := hrA.cells
  exact ⟨h1, ⟨⟨h', g', hm.cells hc (fun i hi _ => ⟨_, _, _, (congrArg (fun q => w'.heap[q]?) hi).trans hr3, by decide⟩), hp⟩, h2⟩, hc.mono (fun i _ x => .inr (.inr x))⟩
 ·rintro e W' ⟨rfl, ⟨A, w2, ⟨⟨h', g', hm, hp⟩, h2⟩, hc, hA⟩, hcF⟩
  refine ⟨rfl, ⟨(hcF.block b (lt_of hb) nbm).trans hb, _, h', g', hm.cells hc (fun i hi _ => ?_), ?_⟩, hcF⟩
  ·obtain ⟨cs, e⟩ := (hA i hi).2
   exact ⟨cs, _, _, e, by decide⟩
  ·rw [hp]
   refine (h2.chg hc (fun k hk cs t p e => ?_)).less (fun _ x => x.elim)
   obtain ⟨cs', e'⟩ := (hA k hk).2
   rw [e'] at e
   injection e with e
   injection e with _ e
   subst e
   exact ⟨fun _ => hk, by decide, by decide⟩
end Go.Proofs.Ytahgaghokpicgaa
/- The law of the plays: both models begun, any calls. -/
namespace Go.Proofs.Ytahgaghokpicgaa
open Go.RowKit Go.Maps
set_option linter.unusedVariables false
set_option maxHeartbeats 16000000

set_option maxRecDepth 100000 in
theorem new_gg (mu : Nat) (h1 : 1 ≤ mu) (h2 : mu ≤ 1024) (W : World) : Calls Try.prog 18 #[.int .i64 mu] W fun e W' => e = .returned (.tuple #[.pointer (some ⟨W.heap.size + 2, 0, none⟩), .int .i64 0]) ∧ MoAt W' (W.heap.size + 2) W.heap.size (W.heap.size + 1) mu (fun _ => none) (fun _ => none) (fun _ _ => none) 0 ∧ Chg (fun _ => False) W W' := by
 have hmm := @run_makeMap Try.prog
 have q1 : ¬ (mu : Int) < 1 := by omega
 have q2 : ¬ (mu : Int) > 1024 := by omega
 have q3 : ¬ (1024 : Int) < (mu : Int) := by omega
 go_enter Try.func18, Try.ntmps18
 go_wp2_with fail
 go_ret2
 refine ⟨by simp, ⟨?_, ?_, ?_, fun k b hb => by simp at hb, by omega, by omega, by omega, fun k b hb => by simp at hb⟩, (((Chg.refl _ _).alloc _).alloc _).alloc _⟩
 ·have e := heap_alloc_new ((W.alloc (.map #[] 0)).alloc (.map #[] 0)) (.cells #[.int .i64 mu, .map (some W.heap.size), .map (some (W.heap.size + 1))] 101)
  rw [World.size_alloc, World.size_alloc] at e
  simpa using e
 ·exact MapR.chg (F := fun _ => False) (MapR.made _ _ _ W) (((Chg.refl _ _).alloc _).alloc _) (fun x => x)
 ·have e := MapR.made heldM elH (fun _ => True) (W.alloc (.map #[] 0))
  rw [World.size_alloc] at e
  exact MapR.chg (F := fun _ => False) e ((Chg.refl _ _).alloc _) (fun x => x)
set_option maxRecDepth 100000 in
theorem new_no (mu : Int) (h : mu < 1 ∨ 1024 < mu) (W : World) : Calls Try.prog 18 #[.int .i64 mu] W fun e W' => e = .returned (.tuple #[.pointer none, .int .i64 2]) ∧ W' = W := by
 by_cases h1 : mu < 1
 ·go_enter Try.func18, Try.ntmps18
  go_wp2_with fail
  (try simp only [Exit.inBlock, Exit.then])
  go_ret2
  exact ⟨rfl, rfl⟩
 ·have h2 : 1024 < mu := by omega
  clear h
  go_enter Try.func18, Try.ntmps18
  go_wp2_with fail
  (try simp only [Exit.inBlock, Exit.then])
  go_ret2
  exact ⟨rfl, rfl⟩
set_option maxRecDepth 100000 in
theorem new6_no (mu : Int) (h : mu < 1 ∨ 1024 < mu) (W : World) : Calls Try.prog 22 #[.int .i64 mu] W fun e W' => e = .returned (.tuple #[.pointer none, .int .i64 2]) ∧ W' = W := by
 by_cases h1 : mu < 1
 ·go_enter Try.func22, Try.ntmps22
  go_wp2_with fail
  go_ret2
  exact ⟨by simp, rfl⟩
 ·have h2 : 1024 < mu := by omega
  have h3 : mu > 1024 := h2
  clear h
  go_enter Try.func22, Try.ntmps22
  go_wp2_with fail
  go_ret2
  exact ⟨by simp, rfl⟩
set_option maxRecDepth 100000 in
theorem begun_no (mu : Int) (h : mu < 1 ∨ 1024 < mu) (W : World) : Calls Try.prog 6 #[.int .i64 mu] W fun e W' => e = .returned (.tuple #[.pointer none, .bool true]) ∧ W' = W := by
 have H1 := keepH (new_no mu h W)
 have H2 := keepH (new6_no mu h W)
 clear h
 go_enter Try.func6, Try.ntmps6
 go_wp2_with fail
 refine H1.out.mono ?_
 rintro e w1 ⟨rfl, rfl⟩
 go_wp2_with fail
 refine H2.out.mono ?_
 rintro e w2 ⟨rfl, rfl⟩
 go_wp2_with fail
 go_ret2
 exact ⟨by simp, rfl⟩
set_option maxRecDepth 100000 in
theorem begun_yes (mu : Nat) (h1 : 1 ≤ mu) (h2 : mu ≤ 1024) (W : World) : Calls Try.prog 6 #[.int .i64 mu] W fun e W' => (∃ b m nw hd r, e = .returned (.tuple #[.pointer (some ⟨b, 0, none⟩), .bool true]) ∧ TwoAt W' b m nw hd r mu 0 ∧ W.heap.size ≤ nw ∧ W.heap.size ≤ hd ∧ W.heap.size ≤ r) ∧ Chg (fun _ => False) W W' := by
 have H1 := keepH (new_gg mu h1 h2 W)
 have H2 := keepH (fun w => r_new6 w (mu := (mu : Int)) (by omega) (by omega))
 clear h1 h2
 go_enter Try.func6, Try.ntmps6
 go_wp2_with fail
 refine H1.out.mono ?_
 rintro e w1 ⟨rfl, hM, C1⟩
 obtain ⟨m, hm⟩ : ∃ m, m = W.heap.size + 2 := ⟨_, rfl⟩
 obtain ⟨hd, hhd⟩ : ∃ m, m = W.heap.size + 1 := ⟨_, rfl⟩
 obtain ⟨nw, hnw⟩ : ∃ m, m = W.heap.size := ⟨_, rfl⟩
 rw [← hm, ← hhd, ← hnw] at hM
 rw [← hm]
 have HM := keepH hM
 have HC1 := keepH C1
 have HNM : Hid (m = W.heap.size + 2 ∧ hd = W.heap.size + 1 ∧ nw = W.heap.size) := ⟨hm, hhd, hnw⟩
 clear hM C1 hm hhd hnw H1
 go_wp2_with fail
 refine (H2.out w1).mono ?_
 rintro e w2 ⟨rfl, hR, C2⟩
 obtain ⟨r, hr⟩ : ∃ r, r = w1.heap.size := ⟨_, rfl⟩
 rw [← hr] at hR ⊢
 have HR := keepH hR
 have HC2 := keepH C2
 have HNR := keepH hr
 clear hR C2 hr H2
 go_wp2_with fail
 go_ret2
 have c3 : Chg (fun _ => False) w2 (w2.alloc (.cells #[.pointer (some ⟨m, 0, none⟩), .pointer (some ⟨r, 0, none⟩)] 70)) := (Chg.refl _ _).alloc _
 have hn := HNM.out
 have hr := HNR.out
 have hs := HC1.out.size
 refine ⟨⟨w2.heap.size, m, nw, hd, r, by simp, ⟨heap_alloc_new _ _, fun _ => none, fun _ => none, fun _ _ => none, (HM.out.quiet HC2.out).quiet c3, ⟨[], [], ⟨.slice none 0 0, .slice none 0 0, [], HR.out.quiet c3, RL.nil _, rfl, fun z hz => (by cases hz), fun b hb => (by cases hb), fun z hz => (by cases hz)⟩, .nil, fun z hz => (by cases hz), rfl, Nat.le_refl _, Nat.le_refl _⟩⟩, by omega, by omega, by omega⟩, chgF (chgF HC1.out HC2.out) c3⟩
/-- A call that comes in. -/
structure CallP where
 tk : Bool
 o : OpP
 r5 : Bool
 r6 : Int
 r7 : Int
 kp : Option Addr
 kc : Nat
 B : Ans
 lp : Option Addr
 lc : Nat
 hn : Nat
def CallP.cs (x : CallP) : List Value := [.bool x.tk, .int .u8 x.o.kd, .int .u64 x.o.k, .int .u64 x.o.v, .int .u64 x.o.od, .int .u64 x.o.hk, .bool x.r5, .int .i64 x.r6, .int .i64 x.r7, .slice x.kp x.o.ks.length x.kc, .int .u64 x.o.lo, .int .u64 x.o.hi, .int .i64 x.B.e, .bool x.B.f, .int .u64 x.B.x, .bool x.B.d, .int .u64 x.B.h, .slice x.lp x.B.l.length x.lc, .int .u64 x.B.n, .int .u64 x.hn]
structure CallP.Ok (W : World) (x : CallP) : Prop where
 o : x.o.Ok
 w6 : (Lit.int .i64 x.r6).wf = true
 w7 : (Lit.int .i64 x.r7).wf = true
 ks : KeysAt W x.kp x.o.ks
 kl : x.o.ks.length ≤ 17592186043904
 ah : x.B.h < 18446744073709551616
 ps : PairsAt W x.lp x.B.l
 pl : x.B.l.length ≤ 8796093021952
 hn : x.hn < 18446744073709551616
def CallsAtP (W : World) (p : Option Addr) (l : List CallP) : Prop := l = [] ∨ ∃ bk off, p = some ⟨bk, off, none⟩ ∧ bk < W.heap.size ∧ ∀ (i : Nat) (x : CallP), l[i]? = some x → x.Ok W ∧ ∀ (j : Nat) (u : Value), x.cs[j]? = some u → W.cell? ⟨bk, off + i * 20 + j, none⟩ = some u
theorem two_call {W0 W : World} {b m nw hd r mu n : Nat} (H : TwoAt W b m nw hd r mu n) (hmu : mu ≤ 1024) (hn : n ≤ 50000) {x : CallP} (hx : x.Ok W0) (c : Chg (FTwo nw hd r) W0 W) (hb : W0.heap.size ≤ nw ∧ W0.heap.size ≤ hd ∧ W0.heap.size ≤ r) :
    Calls Try.prog 7 #[.pointer (some ⟨b, 0, none⟩), .agg #[.bool x.tk, .int .u8 x.o.kd, .int .u64 x.o.k, .int .u64 x.o.v, .int .u64 x.o.od, .int .u64 x.o.hk, .bool x.r5, .int .i64 x.r6, .int .i64 x.r7, .slice x.kp x.o.ks.length x.kc, .int .u64 x.o.lo, .int .u64 x.o.hi, .int .i64 x.B.e, .bool x.B.f, .int .u64 x.B.x, .bool x.B.d, .int .u64 x.B.h, .slice x.lp x.B.l.length x.lc, .int .u64 x.B.n, .int .u64 x.hn]] W fun e W' => e = .returned (.bool true) ∧ TwoAt W' b m nw hd r mu (n + 1) ∧ Chg (FTwo nw hd r) W W' := by
 have nf : ∀ i, i < W0.heap.size → ¬ FTwo nw hd r i := fun i hi x => by rcases x with x | x | x <;> omega
 have nk := hx.ks.low nf
 have nl := hx.ps.low nf
 have hk := hx.ks.chgE c nk
 have hl := hx.ps.chgE c nl
 obtain ⟨tk, o, r5, r6, r7, kp, kc, B, lp, lc, h9⟩ := x
 cases tk with
 | true => exact two_take H hmu hn hx.o hx.ah hx.w6 hx.w7 hk hx.kl hl hx.pl nk nl
 | false => exact two_do H hmu hn hx.o hx.hn hx.w6 hx.w7 hk hx.kl hl hx.pl nk nl
theorem two_alike {W : World} {b m nw hd r mu n : Nat} (H : TwoAt W b m nw hd r mu n) (hn : n ≤ 60000) : Calls Try.prog 8 #[.pointer (some ⟨b, 0, none⟩)] W fun e W' => e = .returned (.bool true) ∧ Chg (fun _ => False) W W' := by
 obtain ⟨hb, f, h, g, hM, hR⟩ := H
 exact alike_ex hb hM hR hn hn
theorem TwoAt.quiet {W W' : World} {b m nw hd r mu n : Nat} (H : TwoAt W b m nw hd r mu n) (c : Chg (fun _ => False) W W') : TwoAt W' b m nw hd r mu n := by
 obtain ⟨hb, f, h, g, hM, hR⟩ := H
 exact ⟨(c.block b (lt_of hb) (fun x => x)).trans hb, f, h, g, hM.quiet c, hR.quiet c⟩
theorem rangeP {W : World} {bk o : Nat} {x : CallP} (h : ∀ (j : Nat) (u : Value), x.cs[j]? = some u → W.cell? ⟨bk, o + j, none⟩ = some u) : W.rangeAt bk o x.cs := h
end Go.Proofs.Ytahgaghokpicgaa
/- The law of the plays: it tells true. -/
namespace Go.Proofs.Ytahgaghokpicgaa
open Go.RowKit Go.Maps
set_option linter.unusedVariables false
set_option maxHeartbeats 16000000

set_option maxRecDepth 100000 in
theorem plays_walk (multi : Int) (p : Option Addr) (c : Nat) (l : List CallP) (W : World) (hO : CallsAtP W p l) (hl : l.length ≤ 50000) :
    Calls Try.prog 3 #[.int .i64 multi, .slice p l.length c] W fun e W' => e = .returned (.bool true) ∧ Chg (fun k => W.heap.size ≤ k) W W' := by
 have HL := keepH (live_06 W)
 have HO := keepH hO
 obtain ⟨N, hN⟩ : ∃ N, N = l.length := ⟨_, rfl⟩
 have hN2 : N ≤ 50000 := by omega
 have HNN := keepH hN
 rw [← hN]
 clear hO hl hN
 go_enter Try.func3, Try.ntmps3
 go_wp2_with fail
 refine HL.out.mono ?_
 rintro e w1 ⟨rfl, C1⟩
 have HC1 := keepH C1
 clear C1 HL
 go_wp2_with fail
 by_cases hm : multi < 1 ∨ 1024 < multi
 ·refine (begun_no multi hm w1).mono ?_
  rintro e w2 ⟨rfl, rfl⟩
  go_wp2_with fail
  go_ret
  exact ⟨by simp, HC1.out.mono (fun _ _ x => x.elim)⟩
 ·obtain ⟨mu, rfl⟩ : ∃ mu : Nat, multi = (mu : Int) := ⟨multi.toNat, by omega⟩
  have HMU : Hid (mu ≤ 1024) := by show _ ≤ _; omega
  refine (begun_yes mu (by omega) (by omega) w1).mono ?_
  rintro e w2 ⟨⟨b, m, nw, hd, r, rfl, hT, h1, h2, h3⟩, C2⟩
  have HT := keepH hT
  have HC2 : Hid (Chg (fun _ => False) W w2) := chgF HC1.out C2
  have HLB : Hid (W.heap.size ≤ nw ∧ W.heap.size ≤ hd ∧ W.heap.size ≤ r) := by have := HC1.out.size; exact ⟨by omega, by omega, by omega⟩
  clear hT h1 h2 h3 C2 hm
  go_wp2_with fail
  go_loopw [7] (fun s7 wr => ∃ i : Nat, i ≤ N ∧ s7 = .int .i64 i ∧ Hid (TwoAt wr b m nw hd r mu i ∧ Chg (FTwo nw hd r) W wr)) (fun s7 _ => N - (intOf s7).toNat)
  case atStart => exact ⟨0, Nat.zero_le _, rfl, HT.out, HC2.out.mono (fun _ _ x => x.elim)⟩
  case round =>
   obtain ⟨i, hil, rfl, HX⟩ := hrel
   by_cases hlt : i < N
   ·have q1 : (i : Int) < (N : Int) := by omega
    have q0 : (0 : Int) ≤ (i : Int) := by omega
    obtain ⟨x, hx⟩ : ∃ x, l[i]? = some x := ⟨l[i]'(by have := HNN.out; omega), List.getElem?_eq_getElem _⟩
    obtain ⟨bk, off, rfl, hbk, hok, hcs⟩ : ∃ bk off, p = some ⟨bk, off, none⟩ ∧ bk < W.heap.size ∧ x.Ok W ∧ ∀ (j : Nat) (u : Value), x.cs[j]? = some u → W.cell? ⟨bk, off + i * 20 + j, none⟩ = some u := by
     rcases HO.out with e | ⟨bk, off, e, hb, h⟩
     ·rw [e] at hx; cases hx
     ·exact ⟨bk, off, e, hb, h i x hx⟩
    have HK := keepH (two_call HX.out.1 HMU.out (by omega) hok HX.out.2 HLB.out)
    have HR : Hid (wr.rangeAt bk (off + i * 20) x.cs) := rangeP (fun j u hj => cell_chg HX.out.2 (hcs j u hj) (fun (e : bk = nw ∨ bk = hd ∨ bk = r) => by have := HLB.out; rcases e with e | e | e <;> omega))
    clear hx hok hcs hbk
    go_upto_region 9 with fail
    iterate 13 go_step
    skip
    refine wpList_load_mid rfl _ _ rfl bk (off + i * 20) rfl x.cs _ HR.out Try.underlying40 rfl (by kernel_rfl) ?_
    (try simp only [Act.put]); (try simp only [List.setIfInBounds_toArray]); (repeat (first | simp only [List.set_cons_succ] | simp only [List.set_cons_zero]))
    rw [show x.cs.toArray = #[.bool x.tk, .int .u8 x.o.kd, .int .u64 x.o.k, .int .u64 x.o.v, .int .u64 x.o.od, .int .u64 x.o.hk, .bool x.r5, .int .i64 x.r6, .int .i64 x.r7, .slice x.kp x.o.ks.length x.kc, .int .u64 x.o.lo, .int .u64 x.o.hi, .int .i64 x.B.e, .bool x.B.f, .int .u64 x.B.x, .bool x.B.d, .int .u64 x.B.h, .slice x.lp x.B.l.length x.lc, .int .u64 x.B.n, .int .u64 x.hn] from rfl]
    skip
    go_wp2_with fail
    skip
    refine HK.out.mono ?_
    rintro e w4 ⟨rfl, hT4, C4⟩
    have HT4 := keepH hT4
    have HC4 : Hid (Chg (FTwo nw hd r) W w4) := HX.out.2.trans C4 (fun _ _ x => x) (fun _ _ x => x)
    clear C4 HK hT4 HR
    go_wp2_with fail
    refine (two_alike HT4.out (by omega)).mono ?_
    rintro e w5 ⟨rfl, C5⟩
    have HX5 : Hid (TwoAt w5 b m nw hd r mu (i + 1) ∧ Chg (FTwo nw hd r) W w5) := ⟨HT4.out.quiet C5, HC4.out.trans (C5.mono (fun _ _ x => x.elim)) (fun _ _ x => x) (fun _ _ x => x)⟩
    clear C5
    go_wp2_with fail
    go_roundw
    case rel => exact ⟨i + 1, by omega, by first | rfl | go_num, HX5⟩
    case measure => simp [intOf]; omega
   ·obtain rfl : i = N := by omega
    have q1 : ¬ (i : Int) < (i : Int) := by omega
    clear hlt
    go_wp2_with fail
    refine (two_alike HX.out.1 (by omega)).mono ?_
    rintro e w5 ⟨rfl, C5⟩
    have HX5 : Hid (Chg (fun k => W.heap.size ≤ k) W w5) := (HX.out.2.trans (C5.mono (fun _ _ x => x.elim)) (fun _ _ x => x) (fun _ _ x => x)).mono (fun k _ x => by have := HLB.out; rcases x with x | x | x <;> omega)
    clear C5
    go_wp2_with fail
    go_ret
    exact ⟨by simp, HX5.out⟩
end Go.Proofs.Ytahgaghokpicgaa
/- Calls that come in, of a bounded bulk. -/
namespace Go.Proofs.Ytahgaghokpicgaa
open Go.RowKit Go.Joins Go.ChangeShapes Go.WideShapes Go.Deep
set_option linter.unusedVariables false
set_option maxHeartbeats 16000000

theorem cut_nextQ {cs f : List Value} {o s : Nat} (h : (cs.drop o).take s = f) : cs.drop o = f ++ cs.drop (o + s) := by
 rw [← h, ← List.drop_drop, List.take_append_drop]
/-- A list that came in: its elements' cells, each with its bulk. -/
theorem slice_rowsSQ {H : Type} {enc : TypeId × Value → H} {W : World} {sp : Nat → Bool} {held : Bool} {fuel : Nat} {cs : List Value} {x : DataW H × List MemPlace} {T E : TypeId} {s : Nat} {Q : Nat → List Value → Prop} (hT : Try.prog.underlying T = some (.slice E)) (hs : Try.prog.cellsOf E = s) (hs0 : 0 < s)
    (hQ : ∀ fuel cs y, DataW.trod enc Try.prog W 0 sp held fuel E cs = some y → Q (Rows.uptoBulk y.1) cs ∧ cs.length = s) (hf : DataW.trod enc Try.prog W 0 sp held fuel T cs = some x) :
    ∃ p n c, cs = [.slice p n c] ∧ ∃ bu : List Nat, bu.length = n ∧ bu.sum + 1 ≤ Rows.uptoBulk x.1 ∧ (n = 0 ∨ ∃ bk off, p = some ⟨bk, off, none⟩ ∧ bk < W.heap.size ∧ ∀ i, i < n → ∃ cs' : List Value, (∃ w, bu[i]? = some w ∧ Q w cs') ∧ ∀ (j : Nat) (u : Value), cs'[j]? = some u → W.cell? ⟨bk, off + (i * s + j), none⟩ = some u) := by
 rcases open_slice hT hf with ⟨hcs, hx0⟩ | ⟨a, len, cap, m, k, D, Pl, hcs, _, hl, hm, hme, hx, hi⟩
 ·exact ⟨none, 0, 0, hcs, [], rfl, by simpa using bulk_one x.1, .inl rfl⟩
 ·have hmn : len ≤ m := by rw [hme]; split <;> omega
  have hsum : ∀ (l : List (DataW H)), (l.map Rows.uptoBulk).sum = Rows.uptoBulkAll l := by
   intro l
   induction l with
   | nil => rfl
   | cons d r ih => simp [Rows.uptoBulkAll, ih]
  refine ⟨some a, len, cap, hcs, ((List.range len).map D).map Rows.uptoBulk, by simp, ?_, ?_⟩
  ·rw [hsum, hx]
   simp only [Rows.uptoBulk]
   omega
  rcases Nat.eq_zero_or_pos len with h0 | h0
  ·exact .inl h0
  ·obtain ⟨bk, off, spot⟩ := a
   have hrow : ∀ i, i < len → ∃ cs' : List Value, ((∃ w, (((List.range len).map D).map Rows.uptoBulk)[i]? = some w ∧ Q w cs') ∧ cs'.length = s) ∧ ∀ (j : Nat) (u : Value), cs'[j]? = some u → W.cell? ((⟨bk, off, spot⟩ : Addr).add (i * s + j)) = some u := fun i hin => by
    obtain ⟨cs', hc, ht⟩ := hi i (by omega)
    obtain ⟨q1, q2⟩ := hQ _ _ _ ht
    refine ⟨cs', ⟨⟨_, by simp [hin], q1⟩, q2⟩, fun j u hj => ?_⟩
    rw [hs] at hc
    have e2 := cells_each hc j u hj
    have e3 : ((⟨bk, off, spot⟩ : Addr).add (i * s)).add j = (⟨bk, off, spot⟩ : Addr).add (i * s + j) := by
     unfold Addr.add
     split <;> split <;> simp_all <;> omega
    rw [← e3]
    exact e2
   have h00 : ∃ u, W.cell? ((⟨bk, off, spot⟩ : Addr).add 0) = some u := by
    obtain ⟨cs', ⟨_, hl'⟩, ho⟩ := hrow 0 h0
    obtain ⟨u, hu⟩ : ∃ u, cs'[0]? = some u := ⟨cs'[0]'(by omega), List.getElem?_eq_getElem _⟩
    exact ⟨u, by simpa using ho 0 u hu⟩
   obtain ⟨u, hu⟩ := h00
   have hspot : spot = none := by simpa [Addr.add] using World.cell?_spot hu
   subst hspot
   have hbk : bk < W.heap.size := World.block_lt_of_cell? W _ hu
   refine .inr ⟨bk, off, rfl, hbk, fun i hin => ?_⟩
   obtain ⟨cs', ⟨hq, _⟩, ho⟩ := hrow i hin
   refine ⟨cs', hq, fun j u hj => ?_⟩
   have e := ho j u hj
   unfold Addr.add at e
   split at e
   ·rename_i z
    have z0 : i * s + j = 0 := by simpa using z
    rw [z0]
    exact e
   ·exact e
theorem co_uQ : Try.prog.cellsOf 29 = 1 := by kernel_rfl
theorem co_usQ : Try.prog.cellsOf 32 = 1 := by kernel_rfl
theorem co_iQ : Try.prog.cellsOf 3 = 1 := by kernel_rfl
theorem co_bQ : Try.prog.cellsOf 4 = 1 := by kernel_rfl
theorem list2Q {α : Type} {cs : List α} (h : cs.length = 2) : ∃ c0 c1, cs = [c0, c1] := by
 match cs, h with
 | [c0, c1], _ => exact ⟨c0, c1, rfl⟩
theorem list3Q {α : Type} {cs : List α} (h : cs.length = 3) : ∃ c0 c1 c2, cs = [c0, c1, c2] := by
 match cs, h with
 | [c0, c1, c2], _ => exact ⟨c0, c1, c2, rfl⟩
theorem list7Q {α : Type} {cs : List α} (h : cs.length = 7) : ∃ c0 c1 c2 c3 c4 c5 c6, cs = [c0, c1, c2, c3, c4, c5, c6] := by
 match cs, h with
 | [c0, c1, c2, c3, c4, c5, c6], _ => exact ⟨c0, c1, c2, c3, c4, c5, c6, rfl⟩
theorem list9Q {α : Type} {cs : List α} (h : cs.length = 9) : ∃ c0 c1 c2 c3 c4 c5 c6 c7 c8, cs = [c0, c1, c2, c3, c4, c5, c6, c7, c8] := by
 match cs, h with
 | [c0, c1, c2, c3, c4, c5, c6, c7, c8], _ => exact ⟨c0, c1, c2, c3, c4, c5, c6, c7, c8, rfl⟩
theorem list11Q {α : Type} {cs : List α} (h : cs.length = 11) : ∃ c0 c1 c2 c3 c4 c5 c6 c7 c8 c9 c10, cs = [c0, c1, c2, c3, c4, c5, c6, c7, c8, c9, c10] := by
 match cs, h with
 | [c0, c1, c2, c3, c4, c5, c6, c7, c8, c9, c10], _ => exact ⟨c0, c1, c2, c3, c4, c5, c6, c7, c8, c9, c10, rfl⟩
theorem co_oQ : Try.prog.cellsOf 28 = 1 := by kernel_rfl
theorem co_eQ : Try.prog.cellsOf 35 = 1 := by kernel_rfl
theorem co_psQ : Try.prog.cellsOf 36 = 1 := by kernel_rfl
theorem co_rQ : Try.prog.cellsOf 31 = 3 := by kernel_rfl
theorem co_opQ : Try.prog.cellsOf 34 = 11 := by kernel_rfl
theorem co_anQ : Try.prog.cellsOf 38 = 7 := by kernel_rfl
theorem co_prQ : Try.prog.cellsOf 55 = 2 := by kernel_rfl
theorem vals_openQ {H : Type} {enc : TypeId × Value → H} {W : World} {sp : Nat → Bool} {held : Bool} {fuel : Nat} {cs : List Value} {x : DataW H × List MemPlace} (h : DataW.trod enc Try.prog W 0 sp held fuel 32 cs = some x) :
    ∃ (p : Option Addr) (c : Nat) (l : List Nat), cs = [.slice p l.length c] ∧ KeysAt W p l ∧ l.length + 1 ≤ Rows.uptoBulk x.1 := by
 obtain ⟨p, n, c, hcs, bu, hbl, hbs, hr⟩ := slice_rowsSQ (s := 1) (Q := fun w cs => 1 ≤ w ∧ ∃ k : Nat, k < 18446744073709551616 ∧ cs = [.int .u64 k]) Try.underlying32 co_uQ (by decide) (fun fuel cs y hy => by
  obtain ⟨z, e, _, w⟩ := DataW.trod_int Try.underlying29 hy
  obtain ⟨k, rfl, hk⟩ := nat_u64 w
  exact ⟨⟨bulk_one _, k, hk, e⟩, by rw [e]; rfl⟩) h
 rcases hr with rfl | ⟨bk, off, rfl, hbk, hr⟩
 ·exact ⟨p, c, [], hcs, .inl rfl, by simpa using bulk_one x.1⟩
 ·obtain ⟨l, hl, hp⟩ := choose_list (P := fun i (k : Nat) => (1 ≤ bu.getD i 0) ∧ k < 18446744073709551616 ∧ W.cell? ⟨bk, off + i, none⟩ = some (.int .u64 k)) n (fun i hi => by
    obtain ⟨cs', ⟨w, hw, h1, k, hk, rfl⟩, hc⟩ := hr i hi
    refine ⟨k, by simp [List.getD, hw]; exact h1, hk, ?_⟩
    have := hc 0 _ rfl
    simpa using this)
  have hsum : ∀ (b : List Nat), (∀ i, i < b.length → 1 ≤ b.getD i 0) → b.length ≤ b.sum := by
   intro b
   induction b with
   | nil => intro _; simp
   | cons z r ih =>
    intro hb
    have h0 := hb 0 (by simp)
    have h1 := ih (fun i hi => by have := hb (i + 1) (by simp; omega); simpa using this)
    simp only [List.length_cons, List.sum_cons]
    simp at h0
    omega
  subst hl
  refine ⟨_, c, l, hcs, .inr ⟨bk, off, rfl, hbk, fun i u hu => (hp i u hu).2⟩, ?_⟩
  ·have := hsum bu (fun i hi => by
     rw [hbl] at hi
     exact (hp i l[i] (List.getElem?_eq_getElem hi)).1)
   omega
theorem pair_openQ {H : Type} {enc : TypeId × Value → H} {W : World} {sp : Nat → Bool} {held : Bool} {fuel : Nat} {cs : List Value} {x : DataW H × List MemPlace} (h : DataW.trod enc Try.prog W 0 sp held fuel 55 cs = some x) : ∃ a b : Nat, cs = [.int .u64 a, .int .u64 b] ∧ a < 18446744073709551616 ∧ b < 18446744073709551616 := by
 obtain ⟨xs, n, hn, hx, hl, hlen, hh⟩ := DataW.trod_struct Try.underlying55 h
 rw [co_prQ] at hl
 obtain ⟨c0, c1, rfl⟩ := list2Q hl
 obtain ⟨y0, y1, rfl⟩ := list2Q (show xs.length = 2 from hlen)
 have h0 : DataW.trod enc Try.prog W 0 sp held n 29 [c0] = some y0 := by have := hh 0 _ rfl; simpa [co_uQ] using this
 have h1 : DataW.trod enc Try.prog W 0 sp held n 29 [c1] = some y1 := by have := hh 1 _ rfl; simpa [co_uQ] using this
 obtain ⟨z0, e0, _, w0⟩ := DataW.trod_int Try.underlying29 h0
 obtain ⟨z1, e1, _, w1⟩ := DataW.trod_int Try.underlying29 h1
 obtain ⟨a, rfl, ha⟩ := nat_u64 w0
 obtain ⟨b, rfl, hb⟩ := nat_u64 w1
 simp at e0 e1
 subst e0 e1
 exact ⟨a, b, rfl, ha, hb⟩
theorem pairs_openQ {H : Type} {enc : TypeId × Value → H} {W : World} {sp : Nat → Bool} {held : Bool} {fuel : Nat} {cs : List Value} {x : DataW H × List MemPlace} (h : DataW.trod enc Try.prog W 0 sp held fuel 36 cs = some x) :
    ∃ (p : Option Addr) (c : Nat) (l : List (Nat × Nat)), cs = [.slice p l.length c] ∧ PairsAt W p l ∧ l.length + 1 ≤ Rows.uptoBulk x.1 := by
 obtain ⟨p, n, c, hcs, bu, hbl, hbs, hr⟩ := slice_rowsSQ (s := 2) (Q := fun w cs => 1 ≤ w ∧ ∃ a b : Nat, (a < 18446744073709551616 ∧ b < 18446744073709551616) ∧ cs = [.int .u64 a, .int .u64 b]) Try.underlying36 co_prQ (by decide) (fun fuel cs y hy => by
  obtain ⟨a, b, e, ha, hb⟩ := pair_openQ hy
  exact ⟨⟨bulk_one _, a, b, ⟨ha, hb⟩, e⟩, by rw [e]; rfl⟩) h
 rcases hr with rfl | ⟨bk, off, rfl, hbk, hr⟩
 ·exact ⟨p, c, [], hcs, .inl rfl, by simpa using bulk_one x.1⟩
 ·obtain ⟨l, hl, hp⟩ := choose_list (P := fun i (k : Nat × Nat) => (1 ≤ bu.getD i 0) ∧ (k.1 < 18446744073709551616 ∧ k.2 < 18446744073709551616) ∧ W.cell? ⟨bk, off + i * 2, none⟩ = some (.int .u64 k.1) ∧ W.cell? ⟨bk, off + i * 2 + 1, none⟩ = some (.int .u64 k.2)) n (fun i hi => by
    obtain ⟨cs', ⟨w, hw, h1, a, b, hk, rfl⟩, hc⟩ := hr i hi
    refine ⟨(a, b), by simp [List.getD, hw]; exact h1, hk, ?_, ?_⟩
    ·have := hc 0 _ rfl
     simpa using this
    ·have := hc 1 _ rfl
     rw [← Nat.add_assoc] at this
     exact this)
  have hsum : ∀ (b : List Nat), (∀ i, i < b.length → 1 ≤ b.getD i 0) → b.length ≤ b.sum := by
   intro b
   induction b with
   | nil => intro _; simp
   | cons z r ih =>
    intro hb
    have h0 := hb 0 (by simp)
    have h1 := ih (fun i hi => by have := hb (i + 1) (by simp; omega); simpa using this)
    simp only [List.length_cons, List.sum_cons]
    simp at h0
    omega
  subst hl
  refine ⟨_, c, l, hcs, .inr ⟨bk, off, rfl, hbk, fun i a b hu => ⟨(hp i (a, b) hu).2.1.1, (hp i (a, b) hu).2.1.2, (hp i (a, b) hu).2.2⟩⟩, ?_⟩
  ·have := hsum bu (fun i hi => by
     rw [hbl] at hi
     exact (hp i l[i] (List.getElem?_eq_getElem hi)).1)
   omega
theorem ref_openQ {H : Type} {enc : TypeId × Value → H} {W : World} {sp : Nat → Bool} {held : Bool} {fuel : Nat} {cs : List Value} {x : DataW H × List MemPlace} (h : DataW.trod enc Try.prog W 0 sp held fuel 31 cs = some x) : ∃ (s : Bool) (a b : Int), cs = [.bool s, .int .i64 a, .int .i64 b] ∧ (Lit.int .i64 a).wf = true ∧ (Lit.int .i64 b).wf = true := by
 obtain ⟨xs, n, hn, hx, hl, hlen, hh⟩ := DataW.trod_struct Try.underlying31 h
 rw [co_rQ] at hl
 obtain ⟨c0, c1, c2, rfl⟩ := list3Q hl
 obtain ⟨y0, y1, y2, rfl⟩ := list3Q (show xs.length = 3 from hlen)
 have h0 : DataW.trod enc Try.prog W 0 sp held n 4 [c0] = some y0 := by have := hh 0 _ rfl; simpa [co_bQ] using this
 have h1 : DataW.trod enc Try.prog W 0 sp held n 3 [c1] = some y1 := by have := hh 1 _ rfl; simpa [co_iQ] using this
 have h2 : DataW.trod enc Try.prog W 0 sp held n 3 [c2] = some y2 := by have := hh 2 _ rfl; simpa [co_iQ] using this
 obtain ⟨s, e0, _⟩ := DataW.trod_bool Try.underlying4 h0
 obtain ⟨a, e1, _, w1⟩ := DataW.trod_int Try.underlying3 h1
 obtain ⟨b, e2, _, w2⟩ := DataW.trod_int Try.underlying3 h2
 simp at e0 e1 e2
 subst e0 e1 e2
 exact ⟨s, a, b, rfl, w1, w2⟩
theorem op_openQ {H : Type} {enc : TypeId × Value → H} {W : World} {sp : Nat → Bool} {held : Bool} {fuel : Nat} {cs : List Value} {x : DataW H × List MemPlace} (h : DataW.trod enc Try.prog W 0 sp held fuel 34 cs = some x) : ∃ (o : OpP) (r5 : Bool) (r6 r7 : Int) (kp : Option Addr) (kc : Nat), cs = [.int .u8 o.kd, .int .u64 o.k, .int .u64 o.v, .int .u64 o.od, .int .u64 o.hk, .bool r5, .int .i64 r6, .int .i64 r7, .slice kp o.ks.length kc, .int .u64 o.lo, .int .u64 o.hi] ∧ o.Ok ∧ (Lit.int .i64 r6).wf = true ∧ (Lit.int .i64 r7).wf = true ∧ KeysAt W kp o.ks ∧ o.ks.length + 1 ≤ Rows.uptoBulk x.1 ∧ 10 ≤ Rows.uptoBulk x.1 := by
 obtain ⟨xs, n, hn, hx, hl, hlen, hh⟩ := DataW.trod_struct Try.underlying34 h
 rw [co_opQ] at hl
 obtain ⟨c0, c1, c2, c3, c4, c5, c6, c7, c8, c9, c10, rfl⟩ := list11Q hl
 obtain ⟨y0, y1, y2, y3, y4, y5, y6, y7, y8, rfl⟩ := list9Q (show xs.length = 9 from hlen)
 have h0 : DataW.trod enc Try.prog W 0 sp held n 28 [c0] = some y0 := by have := hh 0 _ rfl; simpa [co_oQ] using this
 have h1 : DataW.trod enc Try.prog W 0 sp held n 29 [c1] = some y1 := by have := hh 1 _ rfl; simpa [co_uQ] using this
 have h2 : DataW.trod enc Try.prog W 0 sp held n 29 [c2] = some y2 := by have := hh 2 _ rfl; simpa [co_uQ] using this
 have h3 : DataW.trod enc Try.prog W 0 sp held n 29 [c3] = some y3 := by have := hh 3 _ rfl; simpa [co_uQ] using this
 have h4 : DataW.trod enc Try.prog W 0 sp held n 29 [c4] = some y4 := by have := hh 4 _ rfl; simpa [co_uQ] using this
 have h5 : DataW.trod enc Try.prog W 0 sp held n 31 [c5, c6, c7] = some y5 := by have := hh 5 _ rfl; simpa [co_rQ] using this
 have h6 : DataW.trod enc Try.prog W 0 sp held n 32 [c8] = some y6 := by have := hh 6 _ rfl; simpa [co_usQ] using this
 have h7 : DataW.trod enc Try.prog W 0 sp held n 29 [c9] = some y7 := by have := hh 7 _ rfl; simpa [co_uQ] using this
 have h8 : DataW.trod enc Try.prog W 0 sp held n 29 [c10] = some y8 := by have := hh 8 _ rfl; simpa [co_uQ] using this
 obtain ⟨k, e0, _, w0⟩ := DataW.trod_int Try.underlying28 h0
 obtain ⟨z1, e1, _, w1⟩ := DataW.trod_int Try.underlying29 h1
 obtain ⟨z2, e2, _, w2⟩ := DataW.trod_int Try.underlying29 h2
 obtain ⟨z3, e3, _, w3⟩ := DataW.trod_int Try.underlying29 h3
 obtain ⟨z4, e4, _, w4⟩ := DataW.trod_int Try.underlying29 h4
 obtain ⟨s, a, b, e5, ha, hb⟩ := ref_openQ h5
 obtain ⟨kp, kc, keys, e6, hK, hbl⟩ := vals_openQ h6
 obtain ⟨z7, e7, _, w7⟩ := DataW.trod_int Try.underlying29 h7
 obtain ⟨z8, e8, _, w8⟩ := DataW.trod_int Try.underlying29 h8
 obtain ⟨key, rfl, hkey⟩ := nat_u64 w1
 obtain ⟨val, rfl, hval⟩ := nat_u64 w2
 obtain ⟨old, rfl, hold⟩ := nat_u64 w3
 obtain ⟨hnd, rfl, hhnd⟩ := nat_u64 w4
 obtain ⟨lo, rfl, hlo⟩ := nat_u64 w7
 obtain ⟨hi, rfl, hhi⟩ := nat_u64 w8
 simp at e0 e1 e2 e3 e4 e5 e6 e7 e8
 obtain ⟨e5, e5', e5''⟩ := e5
 subst e0 e1 e2 e3 e4 e5 e5' e5'' e6 e7 e8
 have hx2 := fun (i : Nat) => bulk_one y0.1
 refine ⟨⟨k, key, val, old, hnd, keys, lo, hi⟩, s, a, b, kp, kc, rfl, ⟨hkey, hval, hold, hhnd, hlo, hhi⟩, ha, hb, hK, ?_⟩
 have hx1 : x.1 = .agg [y0.1, y1.1, y2.1, y3.1, y4.1, y5.1, y6.1, y7.1, y8.1] := by rw [hx]; rfl
 rw [hx1]
 simp only [Rows.uptoBulk, Rows.uptoBulkAll]
 (try simp only at hbl ⊢)
 have q0 := bulk_one y0.1
 have q1 := bulk_one y1.1
 have q2 := bulk_one y2.1
 have q3 := bulk_one y3.1
 have q4 := bulk_one y4.1
 have q5 := bulk_one y5.1
 have q6 := bulk_one y6.1
 have q7 := bulk_one y7.1
 have q8 := bulk_one y8.1
 omega
theorem ans_openQ {H : Type} {enc : TypeId × Value → H} {W : World} {sp : Nat → Bool} {held : Bool} {fuel : Nat} {cs : List Value} {x : DataW H × List MemPlace} (h : DataW.trod enc Try.prog W 0 sp held fuel 38 cs = some x) : ∃ (B : Ans) (p : Option Addr) (c : Nat), cs = [.int .i64 B.e, .bool B.f, .int .u64 B.x, .bool B.d, .int .u64 B.h, .slice p B.l.length c, .int .u64 B.n] ∧ B.h < 18446744073709551616 ∧ PairsAt W p B.l ∧ B.l.length + 1 ≤ Rows.uptoBulk x.1 ∧ 8 ≤ Rows.uptoBulk x.1 := by
 obtain ⟨xs, n, hn, hx, hl, hlen, hh⟩ := DataW.trod_struct Try.underlying38 h
 rw [co_anQ] at hl
 obtain ⟨c0, c1, c2, c3, c4, c5, c6, rfl⟩ := list7Q hl
 obtain ⟨y0, y1, y2, y3, y4, y5, y6, rfl⟩ := list7Q (show xs.length = 7 from hlen)
 have h0 : DataW.trod enc Try.prog W 0 sp held n 35 [c0] = some y0 := by have := hh 0 _ rfl; simpa [co_eQ] using this
 have h1 : DataW.trod enc Try.prog W 0 sp held n 4 [c1] = some y1 := by have := hh 1 _ rfl; simpa [co_bQ] using this
 have h2 : DataW.trod enc Try.prog W 0 sp held n 29 [c2] = some y2 := by have := hh 2 _ rfl; simpa [co_uQ] using this
 have h3 : DataW.trod enc Try.prog W 0 sp held n 4 [c3] = some y3 := by have := hh 3 _ rfl; simpa [co_bQ] using this
 have h4 : DataW.trod enc Try.prog W 0 sp held n 29 [c4] = some y4 := by have := hh 4 _ rfl; simpa [co_uQ] using this
 have h5 : DataW.trod enc Try.prog W 0 sp held n 36 [c5] = some y5 := by have := hh 5 _ rfl; simpa [co_psQ] using this
 have h6 : DataW.trod enc Try.prog W 0 sp held n 29 [c6] = some y6 := by have := hh 6 _ rfl; simpa [co_uQ] using this
 obtain ⟨e, e0, _, w0⟩ := DataW.trod_int Try.underlying35 h0
 obtain ⟨f, e1, _⟩ := DataW.trod_bool Try.underlying4 h1
 obtain ⟨z2, e2, _, w2⟩ := DataW.trod_int Try.underlying29 h2
 obtain ⟨dn, e3, _⟩ := DataW.trod_bool Try.underlying4 h3
 obtain ⟨z4, e4, _, w4⟩ := DataW.trod_int Try.underlying29 h4
 obtain ⟨p, c, l, e5, hP, hbl⟩ := pairs_openQ h5
 obtain ⟨z6, e6, _, w6⟩ := DataW.trod_int Try.underlying29 h6
 obtain ⟨v, rfl, hv⟩ := nat_u64 w2
 obtain ⟨hd, rfl, hhd⟩ := nat_u64 w4
 obtain ⟨ct, rfl, hct⟩ := nat_u64 w6
 simp at e0 e1 e2 e3 e4 e5 e6
 subst e0 e1 e2 e3 e4 e5 e6
 refine ⟨⟨e, f, v, dn, hd, l, ct⟩, p, c, rfl, hhd, hP, ?_⟩
 have hx1 : x.1 = .agg [y0.1, y1.1, y2.1, y3.1, y4.1, y5.1, y6.1] := by rw [hx]; rfl
 rw [hx1]
 simp only [Rows.uptoBulk, Rows.uptoBulkAll]
 (try simp only at hbl ⊢)
 have q0 := bulk_one y0.1
 have q1 := bulk_one y1.1
 have q2 := bulk_one y2.1
 have q3 := bulk_one y3.1
 have q4 := bulk_one y4.1
 have q5 := bulk_one y5.1
 have q6 := bulk_one y6.1
 omega
theorem mem_le_sum (b : List Nat) (w : Nat) (h : w ∈ b) : w ≤ b.sum := by
 induction b with
 | nil => cases h
 | cons z r ih =>
  rcases List.mem_cons.1 h with e | e
  ·subst e; simp
  ·have := ih e; simp; omega
theorem co_call : Try.prog.cellsOf 40 = 20 := by kernel_rfl
theorem call_openQ {H : Type} {enc : TypeId × Value → H} {W : World} {sp : Nat → Bool} {held : Bool} {fuel : Nat} {cs : List Value} {x : DataW H × List MemPlace} (h : DataW.trod enc Try.prog W 0 sp held fuel 40 cs = some x) : ∃ z : CallP, cs = z.cs ∧ z.o.Ok ∧ (Lit.int .i64 z.r6).wf = true ∧ (Lit.int .i64 z.r7).wf = true ∧ KeysAt W z.kp z.o.ks ∧ z.o.ks.length + 1 ≤ Rows.uptoBulk x.1 ∧ z.B.h < 18446744073709551616 ∧ PairsAt W z.lp z.B.l ∧ z.B.l.length + 1 ≤ Rows.uptoBulk x.1 ∧ z.hn < 18446744073709551616 ∧ 21 ≤ Rows.uptoBulk x.1 := by
 obtain ⟨xs, n, hn, hx, hl, hlen, hh⟩ := DataW.trod_struct Try.underlying40 h
 rw [co_call] at hl
 obtain ⟨y0, y1, y2, y3, rfl⟩ : ∃ c0 c1 c2 c3, xs = [c0, c1, c2, c3] := by
  match xs, (show xs.length = 4 from hlen) with
  | [c0, c1, c2, c3], _ => exact ⟨c0, c1, c2, c3, rfl⟩
 have h0 : DataW.trod enc Try.prog W 0 sp held n 4 ((cs.drop 0).take 1) = some y0 := by have := hh 0 _ rfl; simpa [co_bQ] using this
 have h1 : DataW.trod enc Try.prog W 0 sp held n 34 ((cs.drop 1).take 11) = some y1 := by have := hh 1 _ rfl; simpa [co_opQ] using this
 have h2 : DataW.trod enc Try.prog W 0 sp held n 38 ((cs.drop 12).take 7) = some y2 := by have := hh 2 _ rfl; simpa [co_anQ] using this
 have h3 : DataW.trod enc Try.prog W 0 sp held n 29 ((cs.drop 19).take 1) = some y3 := by have := hh 3 _ rfl; simpa [co_uQ] using this
 obtain ⟨tk, e0, _⟩ := DataW.trod_bool Try.underlying4 h0
 obtain ⟨o, r5, r6, r7, kp, kc, e1, ho, w6, w7, hk, hkb, ob⟩ := op_openQ h1
 obtain ⟨B, lp, lc, e2, hB, hp, hpb, ab⟩ := ans_openQ h2
 obtain ⟨z3, e3, _, w3⟩ := DataW.trod_int Try.underlying29 h3
 obtain ⟨h9, rfl, hh9⟩ := nat_u64 w3
 refine ⟨⟨tk, o, r5, r6, r7, kp, kc, B, lp, lc, h9⟩, ?_, ho, w6, w7, hk, ?_, hB, hp, ?_, hh9, ?_⟩
 ·have s0 := cut_nextQ e0
  have s1 := cut_nextQ e1
  have s2 := cut_nextQ e2
  have s3 := cut_nextQ e3
  have z : cs.drop (19 + 1) = [] := List.drop_eq_nil_of_le (by omega)
  rw [z] at s3
  rw [show 12 + 7 = 19 from rfl, s3] at s2
  rw [show 1 + 11 = 12 from rfl, s2] at s1
  rw [show 0 + 1 = 1 from rfl, s1] at s0
  exact (List.drop_zero (l := cs)).symm.trans s0
 all_goals (
  have hx1 : x.1 = .agg [y0.1, y1.1, y2.1, y3.1] := by rw [hx]; rfl
  rw [hx1]
  simp only [Rows.uptoBulk, Rows.uptoBulkAll]
  have q0 := bulk_one y0.1
  have q3 := bulk_one y3.1
  (try simp only at hkb hpb ⊢)
  omega)
theorem calls_openQ {H : Type} {enc : TypeId × Value → H} {W : World} {sp : Nat → Bool} {held : Bool} {p : Option Addr} {n c : Nat} {d : DataW H} {ps : List MemPlace} (h : DataW.Trod enc Try.prog W 0 sp held 22 (.slice p n c) d ps) (hb : Rows.uptoBulk d ≤ 1048576) : ∃ l : List CallP, l.length = n ∧ CallsAtP W p l ∧ l.length ≤ 50000 := by
 obtain ⟨fuel, hf⟩ := h
 obtain ⟨p', n', c', hcs, bu, hbl, hbs, hr⟩ := slice_rowsSQ (s := 20) (Q := fun w cs => 21 ≤ w ∧ ∃ z : CallP, cs = z.cs ∧ z.o.Ok ∧ (Lit.int .i64 z.r6).wf = true ∧ (Lit.int .i64 z.r7).wf = true ∧ KeysAt W z.kp z.o.ks ∧ z.o.ks.length + 1 ≤ w ∧ z.B.h < 18446744073709551616 ∧ PairsAt W z.lp z.B.l ∧ z.B.l.length + 1 ≤ w ∧ z.hn < 18446744073709551616) Try.underlying22 co_call (by decide) (fun fuel cs y hy => by
  obtain ⟨z, e, a1, a2, a3, a4, a5, a6, a7, a8, a9, a10⟩ := call_openQ hy
  exact ⟨⟨a10, z, e, a1, a2, a3, a4, a5, a6, a7, a8, a9⟩, by rw [e]; rfl⟩) hf
 simp [Value.cells] at hcs
 obtain ⟨rfl, rfl, rfl⟩ := hcs
 have hbs : bu.sum + 1 ≤ Rows.uptoBulk d := hbs
 rcases hr with rfl | ⟨bk, off, rfl, hbk, hr⟩
 ·exact ⟨[], rfl, .inl rfl, by simp⟩
 ·have hle : ∀ (i w : Nat), bu[i]? = some w → w ≤ 1048576 := fun i w hw => by
    have := mem_le_sum bu w (List.mem_of_getElem? hw)
    omega
  obtain ⟨l, hl, hp⟩ := choose_list (P := fun i (z : CallP) => 21 ≤ bu.getD i 0 ∧ z.Ok W ∧ ∀ (j : Nat) (u : Value), z.cs[j]? = some u → W.cell? ⟨bk, off + i * 20 + j, none⟩ = some u) n (fun i hi => by
   obtain ⟨cs', ⟨w, hw, h1, z, rfl, a1, a2, a3, a4, a5, a6, a7, a8, a9⟩, hc⟩ := hr i hi
   have hw2 := hle i w hw
   exact ⟨z, by simp [List.getD, hw]; exact h1, ⟨a1, a2, a3, a4, by omega, a6, a7, by omega, a9⟩, fun j u hj => by rw [Nat.add_assoc]; exact hc j u hj⟩)
  have hsum : ∀ (b : List Nat), (∀ i, i < b.length → 21 ≤ b.getD i 0) → b.length * 21 ≤ b.sum := by
   intro b
   induction b with
   | nil => intro _; simp
   | cons z r ih =>
    intro hb
    have h0 := hb 0 (by simp)
    have h1 := ih (fun i hi => by have := hb (i + 1) (by simp; omega); simpa using this)
    simp only [List.length_cons, List.sum_cons]
    simp at h0
    omega
  have hs := hsum bu (fun i hi => (hp i (l[i]'(by omega)) (List.getElem?_eq_getElem _)).1)
  exact ⟨l, hl, .inr ⟨bk, off, rfl, hbk, fun i z hz => (hp i z hz).2⟩, by omega⟩
end Go.Proofs.Ytahgaghokpicgaa
