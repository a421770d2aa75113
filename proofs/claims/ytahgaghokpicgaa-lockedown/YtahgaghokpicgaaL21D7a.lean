/- LockedOwn: the store and the document's side by side, while lists that were told are written over. -/
import Derived.Test.YtahgaghokpicgaaL20Npg
import Derived.Deep.CutBlock
namespace Go.Proofs.Ytahgaghokpicgaa
open Go.RowKit Go.Maps
set_option linter.unusedVariables false
set_option linter.unusedSimpArgs false

structure LOs (A : Nat → Prop) (W w : World) (s sb m nw hd r rm G D i j : Nat) (f f' : Nat → Option Nat) : Prop where
  ls : LS w s sb m nw hd i f
  rf : ∃ tk l H, R25 A w r rm G D 2000 2 100 4 tk j f' l H ∧ tk ≤ 100 ∧ l.length ≤ j ∧ ∀ z ∈ H, z.2.2.length ≤ j
  lo : W.heap.size ≤ s ∧ W.heap.size ≤ sb ∧ W.heap.size ≤ m ∧ W.heap.size ≤ nw ∧ W.heap.size ≤ hd ∧ W.heap.size ≤ r ∧ W.heap.size ≤ rm ∧ W.heap.size ≤ G ∧ W.heap.size ≤ D
  ch : Chg (fun _ => False) W w
theorem LOs.quiet {A : Nat → Prop} {W w w' : World} {s sb m nw hd r rm G D i j : Nat} {f f' : Nat → Option Nat} (h : LOs A W w s sb m nw hd r rm G D i j f f') (c : Chg (fun _ => False) w w') : LOs A W w' s sb m nw hd r rm G D i j f f' := by
  obtain ⟨tk, l, H, h1, h2⟩ := h.rf
  exact ⟨h.ls.quiet c, ⟨tk, l, H, h1.quiet c, h2⟩, h.lo, h.ch.trans c (fun _ _ x => x) (fun _ _ x => x)⟩
theorem LOs.avoid {A A' : Nat → Prop} {W w : World} {s sb m nw hd r rm G D i j : Nat} {f f' : Nat → Option Nat} (h : LOs A W w s sb m nw hd r rm G D i j f f') (hA : ∀ b, A' b → w.heap.size ≤ b) : LOs A' W w s sb m nw hd r rm G D i j f f' := by
  obtain ⟨tk, l, H, h1, h2⟩ := h.rf
  exact ⟨h.ls, ⟨tk, l, H, h1.avoid hA, h2⟩, h.lo, h.ch⟩
/-- Rows of pairs that were told are written over. -/
theorem LOs.put {A F : Nat → Prop} {W w w' : World} {s sb m nw hd r rm G D i j : Nat} {f f' : Nat → Option Nat} (h : LOs A W w s sb m nw hd r rm G D i j f f') (c : Chg F w w') (hF : ∀ k, F k → W.heap.size ≤ k ∧ A k ∧ ∃ cs p, w.heap[k]? = some (.cells cs 55 p)) : LOs A W w' s sb m nw hd r rm G D i j f f' := by
  obtain ⟨tk, l, H, h1, h2⟩ := h.rf
  refine ⟨h.ls.chgT c (fun k x => ?_), ⟨tk, l, H, h1.chgT c (fun k x cs t p hk => ?_), h2⟩, h.lo, h.ch.trans c (fun _ _ x => x) (fun k hl x => by have := (hF k x).1; omega)⟩
  · obtain ⟨-, -, cs, p, hk⟩ := hF k x
    exact ⟨cs, _, p, hk, by decide, by decide, by decide⟩
  · obtain ⟨-, ha, cs', p', hk'⟩ := hF k x
    rw [hk'] at hk
    injection hk with hk
    injection hk with _ hk
    subst hk
    exact ⟨by decide, by decide, by decide, by decide, by decide, fun _ => ha⟩
/-- The store's own blocks. -/
theorem LS.ty {w : World} {s sb m nw hd i : Nat} {f : Nat → Option Nat} (h : LS w s sb m nw hd i f) : (∃ cs, w.heap[s]? = some (.cells cs 92 (0, 0))) ∧ (∃ cs, w.heap[sb]? = some (.cells cs 157 (0, 0))) ∧ (∃ es c, w.heap[nw]? = some (.map es c)) ∧ ∃ es c, w.heap[hd]? = some (.map es c) := by
  obtain ⟨hc, lf, sl, h, g, S, I, L, M⟩ := h
  exact ⟨⟨_, S.st⟩, ⟨_, S.row⟩, MapR.is M.now, MapR.is M.held⟩
theorem R25.storeF {A : Nat → Prop} {w w' : World} {s sb m nw hd i : Nat} {f : Nat → Option Nat} (h : LS w s sb m nw hd i f) {r rm G D : Nat} {c0 : Int} {N st : Nat} {mu : Int} {tk n : Nat} {g : Nat → Option Nat} {l : List (Nat × Nat)} {H : HeldL} (h1 : R25 A w r rm G D c0 N st mu tk n g l H) (c : Chg (fun k => k = s ∨ k = sb ∨ k = nw ∨ k = hd) w w') : R25 A w' r rm G D c0 N st mu tk n g l H := by
  obtain ⟨⟨c1, t1⟩, ⟨c2, t2⟩, ⟨e3, c3, t3⟩, ⟨e4, c4, t4⟩⟩ := h.ty
  refine h1.chgT c (fun k x cs t p hk => ?_)
  rcases x with rfl | rfl | rfl | rfl
  · rw [t1] at hk; injection hk with hk; injection hk with _ hk; subst hk; exact ⟨by decide, by decide, by decide, by decide, by decide, fun x => absurd x (by decide)⟩
  · rw [t2] at hk; injection hk with hk; injection hk with _ hk; subst hk; exact ⟨by decide, by decide, by decide, by decide, by decide, fun x => absurd x (by decide)⟩
  · rw [t3] at hk; cases hk
  · rw [t4] at hk; cases hk
/-- Do of the store. -/
theorem s_do {W w : World} {s sb m nw hd r rm G D i : Nat} {f : Nat → Option Nat} (h : LOs (fun _ => False) W w s sb m nw hd r rm G D i i f f) (hi : i ≤ 1400000000000) {x : OpI} (hx : x.Ok W) :
    Calls Try.prog 12 #[.pointer (some ⟨s, 0, none⟩), .agg #[.int .u8 x.o.kd, .int .u64 (x.o.k : Int), .int .u64 (x.o.v : Int), .int .u64 (x.o.od : Int), .int .u64 (x.o.hk : Int), .bool x.r5, .int .i64 x.r6, .int .i64 x.r7, .slice x.kp x.o.ks.length x.kc, .int .u64 (x.o.lo : Int), .int .u64 (x.o.hi : Int)]] w fun e w' => ∃ (A : Ans) (p : Option Addr) (c : Nat), e = .returned (.tuple #[.agg #[.int .i64 A.e, .bool A.f, .int .u64 (A.x : Int), .bool A.d, .int .u64 (A.h : Int), .slice p A.l.length c, .int .u64 (A.n : Int)], .int .i64 (i : Int)]) ∧ LOs (fun b => w.heap.size ≤ b ∧ b < w'.heap.size) W w' s sb m nw hd r rm G D (i + 1) i (stepG x.o.kd f x.o.k x.o.v (x.o.od : Int)) f ∧ OPy w' p A.l ∧ (∀ bk off, p = some ⟨bk, off, none⟩ → w.heap.size ≤ bk) ∧ A.l.length ≤ 8796093022000 ∧ w.heap.size ≤ w'.heap.size := by
  obtain ⟨hc, lf, sl, hh, g, S, I, L, M⟩ := h.ls
  have lo := h.lo
  have hkb : ∀ bk off, x.kp = some ⟨bk, off, none⟩ → x.o.ks ≠ [] → bk ≠ s ∧ bk ≠ sb := fun bk off e e2 => by
    rcases hx.ks with q | ⟨b1, o1, e3, hb1, _⟩
    · exact absurd q e2
    · rw [e] at e3
      injection e3 with e3
      injection e3 with e3
      omega
  refine (k_do hx.ok S M I (by omega) (by omega) (hx.ks.chg h.ch (fun _ _ _ x => x)) hkb (by omega) (Z := 0) (fun _ _ _ => Nat.zero_le _)).mono ?_
  rintro e w' ⟨A, p, c, rfl, ⟨hc', lf', sl', f', h', g', O⟩, cc⟩
  have z := cc.size
  have ef := step_do O.stp
  subst ef
  obtain ⟨tk, l, H, h1, h2⟩ := h.rf
  refine ⟨A, p, c, rfl, ⟨⟨hc', lf', sl', h', g', O.sa, O.inv, by rw [O.len, L], O.mo⟩, ⟨tk, l, H, (h1.avoid (fun b hb => hb.1)).storeF h.ls cc, h2⟩, lo, h.ch.trans cc (fun _ _ x => x) (fun k hk x => by omega)⟩, O.prs, fun bk off e => by have := O.pnew bk off e; omega, O.plen, z⟩
/-- Do of the document's store. -/
theorem r_do {W w : World} {A : Nat → Prop} {s sb m nw hd r rm G D i : Nat} {f f' : Nat → Option Nat} {x : OpI} (h : LOs A W w s sb m nw hd r rm G D (i + 1) i f' f) (hA : ∀ b, A b → b < w.heap.size) (hf : f' = stepG x.o.kd f x.o.k x.o.v (x.o.od : Int)) (hi : i ≤ 1400000000000) (hx : x.Ok W) :
    Calls Try.prog 13 #[.pointer (some ⟨r, 0, none⟩), .agg #[.int .u8 x.o.kd, .int .u64 (x.o.k : Int), .int .u64 (x.o.v : Int), .int .u64 (x.o.od : Int), .int .u64 (x.o.hk : Int), .bool x.r5, .int .i64 x.r6, .int .i64 x.r7, .slice x.kp x.o.ks.length x.kc, .int .u64 (x.o.lo : Int), .int .u64 (x.o.hi : Int)]] w fun e w' => (∃ v, e = .returned v) ∧ LOs A W w' s sb m nw hd r rm G D (i + 1) (i + 1) f' f' ∧ Chg (fun k => k = r ∨ k = rm ∨ k = G ∨ k = D) w w' := by
  obtain ⟨tk, l, H, h1, h2, h3, h4⟩ := h.rf
  have lo := h.lo
  have hkb : ∀ bk off, x.kp = some ⟨bk, off, none⟩ → x.o.ks ≠ [] → bk ≠ r ∧ bk ≠ rm ∧ bk ≠ G ∧ bk ≠ D := fun bk off e e2 => by
    rcases hx.ks with q | ⟨b1, o1, e3, hb1, _⟩
    · exact absurd q e2
    · rw [e] at e3
      injection e3 with e3
      injection e3 with e3
      omega
  refine (r25_any h1 (by omega) (by omega) (by omega) (by omega) (fun z hz => by have := h4 z hz; omega) hA hx.ok.k hx.ok.v (kd := x.o.kd) (od := (x.o.od : Int)) (hk9 := x.o.hk) (r5 := x.r5) (r6 := x.r6) (r7 := x.r7) (kc := x.kc) (lo := x.o.lo) (hi := x.o.hi) (hx.ks.chg h.ch (fun _ _ _ x => x)) (by omega) rfl hkb (by omega)).mono ?_
  rintro e w' ⟨hv, ⟨tk', l', H', g1, g2, g3, g4⟩, cc⟩
  obtain ⟨cm, hm⟩ := h1.mod.md
  obtain ⟨cg, hg, -⟩ := h1.gr
  obtain ⟨cd, hd', -⟩ := h1.dr
  refine ⟨hv, ⟨h.ls.chgT cc (fun k x => ?_), ⟨tk', l', H', by rw [hf]; exact g1, by omega, by omega, fun z hz => ?_⟩, lo, h.ch.trans cc (fun _ _ x => x) (fun k hk x => by omega)⟩, cc⟩
  · rcases x with rfl | rfl | rfl | rfl
    · exact ⟨_, _, _, h1.at_, by decide, by decide, by decide⟩
    · exact ⟨_, _, _, hm, by decide, by decide, by decide⟩
    · exact ⟨_, _, _, hg, by decide, by decide, by decide⟩
    · exact ⟨_, _, _, hd', by decide, by decide, by decide⟩
  · rcases g4 z hz with q | q
    · have := h4 z q; omega
    · rw [q]; omega
/-- Content of the store. -/
theorem s_cont {W w : World} {A : Nat → Prop} {s sb m nw hd r rm G D i j : Nat} {f f' : Nat → Option Nat} (h : LOs A W w s sb m nw hd r rm G D i j f f') (hi : i ≤ 1400000000001) :
    Calls Try.prog 14 #[.pointer (some ⟨s, 0, none⟩)] w fun e w' => ∃ p c l, e = .returned (.slice p l.length c) ∧ Lists f 0 18446744073709551615 l ∧ OPairs w' p c l ∧ (∀ bk off, p = some ⟨bk, off, none⟩ → w.heap.size ≤ bk) ∧ l.length ≤ i ∧ LOs (fun b => w.heap.size ≤ b) W w' s sb m nw hd r rm G D i j f f' := by
  obtain ⟨hc, lf, sl, hh, g, S, I, L, M⟩ := h.ls
  have lo := h.lo
  refine (k_content S M (by omega)).mono ?_
  rintro e w' ⟨⟨p, c, l, rfl, hL, hP, hB, hN⟩, S', M', cc⟩
  obtain ⟨tk, l9, H, h1, h2⟩ := h.rf
  exact ⟨p, c, l, rfl, hL, hP, hB, hN, ⟨⟨hc, lf, sl, hh, g, S', I, L, M'⟩, ⟨tk, l9, H, (h1.avoid (fun b hb => hb)).storeF h.ls (cc.mono (fun _ _ x => .inl x)), h2⟩, lo, h.ch.trans cc (fun _ _ x => x) (fun k hk x => by have x : k = s := x; omega)⟩⟩
/-- The block of a list that was told. -/
def BkP (p : Option Addr) (n x : Nat) : Prop := p = some ⟨x, 0, none⟩ ∧ 0 < n
/-- While a list that was told is written over. -/
def WR (p : Option Addr) (n : Nat) (w0 w : World) : Prop := Chg (BkP p n) w0 w ∧ ∀ i, i < n → ∃ bk cs, p = some ⟨bk, 0, none⟩ ∧ w.heap[bk]? = some (.cells cs 55 (0, 0)) ∧ n * 2 ≤ cs.size
theorem WR.start {w : World} {p : Option Addr} {l : List (Nat × Nat)} (h : OPy w p l) : WR p l.length w w := by
  refine ⟨Chg.refl _ _, fun i hi => ?_⟩
  rcases h with rfl | ⟨c, h⟩
  · simp at hi
  · rcases h.1.2 with ⟨_, e⟩ | ⟨g, cap, cur, e, _, hb, hn, _, hsz, _⟩
    · omega
    · injection e with e1 e2 e3
      exact ⟨g, cur, e1, hb, by rw [hsz]; omega⟩
theorem WR.blk {p : Option Addr} {n : Nat} {w0 w : World} (h : WR p n w0 w) : ∀ k, BkP p n k → ∃ cs q, w.heap[k]? = some (.cells cs 55 q) := by
  rintro k ⟨e, hn⟩
  obtain ⟨bk, cs, e2, hb, -⟩ := h.2 0 hn
  rw [e] at e2
  injection e2 with e2
  injection e2 with e2
  subst e2
  exact ⟨_, _, hb⟩
theorem WR.get {p : Option Addr} {n : Nat} {w0 w : World} (h : WR p n w0 w) {i : Nat} (hi : i < n) : ∃ bk v, p = some ⟨bk, 0, none⟩ ∧ w.cell? ⟨bk, i * 2 + 1, none⟩ = some v ∧ w.frozen? ⟨bk, i * 2 + 1, none⟩ = false := by
  obtain ⟨bk, cs, e, hb, hs⟩ := h.2 i hi
  have hl : i * 2 + 1 < cs.size := by omega
  exact ⟨bk, cs[i * 2 + 1], e, by rw [cell_of hb]; exact Array.getElem?_eq_getElem hl, free_of hb _⟩
theorem WR.set {p : Option Addr} {n : Nat} {w0 w : World} (h : WR p n w0 w) {i : Nat} (hi : i < n) {bk : Nat} (hp : p = some ⟨bk, 0, none⟩) (v : Value) : WR p n w0 (w.setCell ⟨bk, i * 2 + 1, none⟩ v) := by
  refine ⟨h.1.setCell (fun _ => ⟨hp, by omega⟩) _, fun j hj => ?_⟩
  obtain ⟨b2, cs, e, hb, hs⟩ := h.2 j hj
  rw [hp] at e
  injection e with e
  injection e with e
  subst e
  exact ⟨bk, _, hp, set_of hb _ v, by simpa using hs⟩
end Go.Proofs.Ytahgaghokpicgaa
/- LockedOwn, walked. -/
namespace Go.Proofs.Ytahgaghokpicgaa
open Go.RowKit Go.Maps
set_option linter.unusedVariables false
set_option linter.unusedSimpArgs false

set_option maxRecDepth 100000 in
set_option maxHeartbeats 16000000 in
theorem own_walk {Lp : Option Addr} {Lc : Nat} {l : List OpI} {W : World} (hO : OpsAt W Lp l) (hl : l.length ≤ 1400000000000) : Calls Try.prog 4 #[.slice Lp l.length Lc] W fun e W' => e = .returned (.bool true) ∧ Chg (fun _ => False) W W' := by
  have HOp := keepH hO
  have HL := keepH hl
  clear hO
  go_enter Try.func4, Try.ntmps4
  go_wp2_with fail
  refine (cfg_25 W).mono ?_
  rintro e w0 ⟨rfl, C0⟩
  have HC0 := keepH C0
  have HNew := keepH (k_new 2000 2 100 4 (by decide) (by omega) (by omega) w0)
  clear C0
  go_wp2_with fail
  refine HNew.out.mono ?_
  rintro e w1 ⟨s, sb, m, nw, hd, rfl, S1, M1, F1, C1⟩
  have HC1 := keepH (HC0.out.trans C1 (H := fun _ => False) (fun _ _ x => x) (fun _ _ x => x))
  have HZ0 := keepH HC0.out.size
  have HS1 : Hid (LS w1 s sb m nw hd 0 (fun _ => none)) := ⟨0, 100 - 1, List.replicate 2 (false, 0), fun _ => none, fun _ _ => none, S1, SlInv.start 2 (100 - 1) (by omega) (by omega), by simp, M1⟩
  have HF1 := keepH F1
  clear C1 S1 M1 F1 HNew
  go_wp2_with fail
  refine (cfg_25 w1).mono ?_
  rintro e w2 ⟨rfl, C2⟩
  have HC2 := keepH (HC1.out.trans C2 (H := fun _ => False) (fun _ _ x => x) (fun _ _ x => x))
  have HS2 := keepH (HS1.out.quiet C2)
  have HNew := keepH (r25_new w2)
  clear C2
  go_wp2_with fail
  refine HNew.out.mono ?_
  rintro e w3 ⟨r, rm, G, D, rfl, R3, lo3, C3⟩
  have HT : Hid (LOs (fun _ => False) W w3 s sb m nw hd r rm G D 0 0 (fun _ => none) (fun _ => none)) := keepH (by
    have z := HZ0.out
    have z2 := HC2.out.size
    have f1 := HF1.out.s
    have f2 := HF1.out.sb
    have f3 := HF1.out.m
    have f4 := HF1.out.nw
    have f5 := HF1.out.hd
    exact ⟨HS2.out.quiet C3, ⟨0, [], [], R3, by omega, by simp, fun z hz => by simp at hz⟩, by omega, HC2.out.trans C3 (fun _ _ x => x) (fun _ _ x => x)⟩)
  clear R3 lo3 C3 HNew HS1 HS2 HC0 HC1 HC2 HZ0 HF1
  go_wp2_with fail
  go_loopw [7] (fun q wr => ∃ i : Nat, i ≤ l.length ∧ q = .int .i64 (i : Int) ∧ Hid (∃ f, LOs (fun _ => False) W wr s sb m nw hd r rm G D i i f f)) (fun q _ => l.length - natOf q)
  case atStart => exact ⟨0, Nat.zero_le _, rfl, _, HT.out⟩
  case round =>
    obtain ⟨i, hi, rfl, HK⟩ := hrel
    by_cases c1 : i < l.length
    · obtain ⟨y, hy⟩ : ∃ y, l[i]? = some y := ⟨_, List.getElem?_eq_getElem c1⟩
      obtain ⟨f, T⟩ := HK.out
      obtain ⟨bk, off, hLp, hyo, hyc⟩ := HOp.out.get T.ch hy
      have HOC : Hid (∀ w, Chg (fun _ => False) W w → ∀ j v, y.cs[j]? = some v → w.cell? ⟨bk, off + i * 11 + j, none⟩ = some v) := by
        intro w cw j v hv
        obtain ⟨bk', off', e, _, hc⟩ := HOp.out.get cw hy
        rw [hLp] at e
        injection e with e
        injection e with e1 e2
        subst e1
        subst e2
        exact hc j v hv
      subst hLp
      have y0 : wr.cell? ⟨bk, off + i * 11, none⟩ = some (.int .u8 y.o.kd) := hyc 0 _ rfl
      have y1 : wr.cell? ⟨bk, off + i * 11 + 1, none⟩ = some (.int .u64 (y.o.k : Int)) := hyc 1 _ rfl
      have y2 : wr.cell? ⟨bk, off + i * 11 + 2, none⟩ = some (.int .u64 (y.o.v : Int)) := hyc 2 _ rfl
      have y3 : wr.cell? ⟨bk, off + i * 11 + 3, none⟩ = some (.int .u64 (y.o.od : Int)) := hyc 3 _ rfl
      have y4 : wr.cell? ⟨bk, off + i * 11 + 4, none⟩ = some (.int .u64 (y.o.hk : Int)) := hyc 4 _ rfl
      have y5 : wr.cell? ⟨bk, off + i * 11 + 5, none⟩ = some (.bool y.r5) := hyc 5 _ rfl
      have y6 : wr.cell? ⟨bk, off + i * 11 + 6, none⟩ = some (.int .i64 y.r6) := hyc 6 _ rfl
      have y7 : wr.cell? ⟨bk, off + i * 11 + 7, none⟩ = some (.int .i64 y.r7) := hyc 7 _ rfl
      have y8 : wr.cell? ⟨bk, off + i * 11 + 8, none⟩ = some (.slice y.kp y.o.ks.length y.kc) := hyc 8 _ rfl
      have y9 : wr.cell? ⟨bk, off + i * 11 + 9, none⟩ = some (.int .u64 (y.o.lo : Int)) := hyc 9 _ rfl
      have y10 : wr.cell? ⟨bk, off + i * 11 + 10, none⟩ = some (.int .u64 (y.o.hi : Int)) := hyc 10 _ rfl
      have q1 : (i : Int) < (l.length : Int) := by omega
      have HIL : Hid (i < l.length ∧ i ≤ 1400000000000) := ⟨c1, by omega⟩
      have HY := keepH hyo
      have HT0 := keepH T
      have HDo := keepH (s_do T HIL.out.2 hyo)
      clear T hyc hy c1 hi hyo
      go_wp2_with fail
      refine HDo.out.mono ?_
      rintro e w4 ⟨A, p, c, rfl, T4, P4, B4, L4, Z4⟩
      clear y0 y1 y2 y3 y4 y5 y6 y7 y8 y9 y10
      obtain ⟨an, hn⟩ : ∃ an, an = A.l.length := ⟨_, rfl⟩
      obtain ⟨w5, hw5⟩ : ∃ w5, w5 = w4.alloc (.cells #[.int .i64 A.e, .bool A.f, .int .u64 (A.x : Int), .bool A.d, .int .u64 (A.h : Int), .slice p an c, .int .u64 (A.n : Int)] 38) := ⟨_, rfl⟩
      have C45 : Chg (fun _ => False) w4 w5 := by rw [hw5]; exact (Chg.refl _ _).alloc _
      obtain ⟨ab, hab⟩ : ∃ ab, ab = w4.heap.size := ⟨_, rfl⟩
      have HB5 : Hid (w5.heap[ab]? = some (.cells #[.int .i64 A.e, .bool A.f, .int .u64 (A.x : Int), .bool A.d, .int .u64 (A.h : Int), .slice p an c, .int .u64 (A.n : Int)] 38 (0, 0))) := keepH (by rw [hw5, hab]; exact heap_alloc_new _ _)
      have HT5 := keepH (T4.quiet C45)
      have HP5 : Hid (OPy w5 p A.l) := keepH (P4.chgF C45 (fun _ _ _ x => x))
      have HX : Hid (an = A.l.length ∧ an ≤ 8796093022000 ∧ (∀ bk off, p = some ⟨bk, off, none⟩ → wr.heap.size ≤ bk) ∧ wr.heap.size ≤ w4.heap.size ∧ w4.heap.size ≤ w5.heap.size ∧ ab = w4.heap.size ∧ ∀ k, BkP p an k → k < w4.heap.size) := ⟨hn, by omega, B4, Z4, C45.size, hab, fun k hk => by rw [hn] at hk; obtain ⟨cs, q, hq⟩ := (WR.start P4).blk k hk; exact lt_of hq⟩
      rw [← hn]
      have HW5 := keepH hw5
      have HAB := keepH hab
      clear hn hab hw5 C45 T4 P4 B4 L4 Z4 HDo
      go_upto_region 9 with fail
      rw [show w4.alloc (.cells #[.int .i64 A.e, .bool A.f, .int .u64 (A.x : Int), .bool A.d, .int .u64 (A.h : Int), .slice p an c, .int .u64 (A.n : Int)] 38) = w5 from HW5.out.symm, ← HAB.out]
      clear HW5 HAB
      have HLB : Hid (r < wr.heap.size ∧ rm < wr.heap.size ∧ G < wr.heap.size ∧ D < wr.heap.size) := by
        obtain ⟨tk, l9, H, h1, -⟩ := HT0.out.rf
        exact h1.mono
      obtain ⟨wo, hwo⟩ : ∃ wo, wo = wr := ⟨_, rfl⟩
      subst hwo
      have hyc := HOC.out w5 HT5.out.ch
      have y0 : w5.cell? ⟨bk, off + i * 11, none⟩ = some (.int .u8 y.o.kd) := hyc 0 _ rfl
      have y1 : w5.cell? ⟨bk, off + i * 11 + 1, none⟩ = some (.int .u64 (y.o.k : Int)) := hyc 1 _ rfl
      have y2 : w5.cell? ⟨bk, off + i * 11 + 2, none⟩ = some (.int .u64 (y.o.v : Int)) := hyc 2 _ rfl
      have y3 : w5.cell? ⟨bk, off + i * 11 + 3, none⟩ = some (.int .u64 (y.o.od : Int)) := hyc 3 _ rfl
      have y4 : w5.cell? ⟨bk, off + i * 11 + 4, none⟩ = some (.int .u64 (y.o.hk : Int)) := hyc 4 _ rfl
      have y5 : w5.cell? ⟨bk, off + i * 11 + 5, none⟩ = some (.bool y.r5) := hyc 5 _ rfl
      have y6 : w5.cell? ⟨bk, off + i * 11 + 6, none⟩ = some (.int .i64 y.r6) := hyc 6 _ rfl
      have y7 : w5.cell? ⟨bk, off + i * 11 + 7, none⟩ = some (.int .i64 y.r7) := hyc 7 _ rfl
      have y8 : w5.cell? ⟨bk, off + i * 11 + 8, none⟩ = some (.slice y.kp y.o.ks.length y.kc) := hyc 8 _ rfl
      have y9 : w5.cell? ⟨bk, off + i * 11 + 9, none⟩ = some (.int .u64 (y.o.lo : Int)) := hyc 9 _ rfl
      have y10 : w5.cell? ⟨bk, off + i * 11 + 10, none⟩ = some (.int .u64 (y.o.hi : Int)) := hyc 10 _ rfl
      clear hyc
      have HDo := keepH (r_do HT5.out (fun b hb => by have := HX.out.2.2.2.2.1; omega) rfl HIL.out.2 HY.out)
      go_wp2_with fail
      refine HDo.out.mono ?_
      rintro e w6 ⟨⟨v6, rfl⟩, T6, C6⟩
      have HT6 := keepH T6
      have HB6 : Hid (w6.heap[ab]? = some (.cells #[.int .i64 A.e, .bool A.f, .int .u64 (A.x : Int), .bool A.d, .int .u64 (A.h : Int), .slice p an c, .int .u64 (A.n : Int)] 38 (0, 0))) := keepH ((C6.block ab (lt_of HB5.out) (by have := HLB.out; have := HX.out.2.2.2.1; have := HX.out.2.2.2.2.2.1; omega)).trans HB5.out)
      have HW6 : Hid (WR p an w6 w6) := keepH (by
        rw [HX.out.1]
        exact WR.start (HP5.out.chgF C6 (fun bk off e => by have := HX.out.2.2.1 bk off e; have := HLB.out; omega)))
      clear T6 C6 HT5 HB5 HP5 HDo y0 y1 y2 y3 y4 y5 y6 y7 y8 y9 y10
      go_wp2_with fail
      go_loopw [10] (fun q wr => ∃ kk : Nat, kk ≤ an ∧ q = .int .i64 (kk : Int) ∧ Hid (WR p an w6 wr)) (fun q _ => an - natOf q)
      case atStart => exact ⟨0, Nat.zero_le _, rfl, HW6.out⟩
      case round =>
        obtain ⟨kk, hk, rfl, HW⟩ := hrel
        have b5 : wr.cell? ⟨ab, 5, none⟩ = some (.slice p an c) := by
          have e := (HW.out.1.block ab (lt_of HB6.out) (fun x => by obtain ⟨cs, q, hq⟩ := HW6.out.blk ab x; exact ne_ty hq HB6.out (by decide) rfl)).trans HB6.out
          exact cell_of e 5
        by_cases c2 : kk < an
        · obtain ⟨pb, v, rfl, hv, hf⟩ := HW.out.get c2
          have q2 : (kk : Int) < (an : Int) := by omega
          have hkb : kk < 8796093022000 := by have := HX.out.2.1; omega
          have HW2 := keepH (HW.out.set c2 rfl (.int .u64 99))
          have HKK := keepH c2
          clear c2 hk
          go_wp2_with fail
          go_roundw
          case rel => exact ⟨kk + 1, HKK.out, by first | rfl | go_num, HW2.out⟩
          case measure => have := HKK.out; (simp [natOf, Go.RowKit.intOf] <;> omega)
        · have q2 : ¬ (kk : Int) < (an : Int) := by omega
          clear c2 hk
          have HT7 := keepH (HT6.out.put HW.out.1 (fun k hk => by
            obtain ⟨cs, q, hq⟩ := HW6.out.blk k hk
            have := HX.out.2.2.2.2.2.2 k hk
            have := HX.out.2.2.1 k 0 hk.1
            have := HT0.out.ch.size
            exact ⟨by omega, ⟨by omega, by omega⟩, cs, q, hq⟩))
          obtain ⟨w7, hw7⟩ : ∃ w7, w7 = wr := ⟨_, rfl⟩
          subst hw7
          have HCo := keepH (s_cont HT7.out (by have := HIL.out; omega))
          clear HW HT6 HB6 HW6
          go_wp2_with fail
          refine HCo.out.mono ?_
          rintro e w8 ⟨p8, c8, l8, rfl, -, P8, B8, L8, T8⟩
          obtain ⟨n8, hn8⟩ : ∃ n8, n8 = l8.length := ⟨_, rfl⟩
          have HW8 : Hid (WR p8 n8 w8 w8) := keepH (by rw [hn8]; exact WR.start (.inr ⟨_, P8⟩))
          have HX8 : Hid ((∀ bk off, p8 = some ⟨bk, off, none⟩ → w7.heap.size ≤ bk) ∧ n8 ≤ i + 1) := ⟨B8, by omega⟩
          have HT8 := keepH T8
          rw [← hn8]
          clear P8 B8 L8 T8 hn8 HCo
          go_wp2_with fail
          go_loopw [12] (fun q wr => ∃ kk : Nat, kk ≤ n8 ∧ q = .int .i64 (kk : Int) ∧ Hid (WR p8 n8 w8 wr)) (fun q _ => n8 - natOf q)
          case atStart => exact ⟨0, Nat.zero_le _, rfl, HW8.out⟩
          case round =>
            obtain ⟨k2, hk, rfl, HW⟩ := hrel
            by_cases c2 : k2 < n8
            · obtain ⟨pb, v, rfl, hv, hf⟩ := HW.out.get c2
              have q3 : (k2 : Int) < (n8 : Int) := by omega
              have hkb : k2 < 8796093022000 := by have := HX8.out.2; have := HIL.out; omega
              have HW2 := keepH (HW.out.set c2 rfl (.int .u64 98))
              have HKK := keepH c2
              clear c2 hk
              go_wp2_with fail
              go_roundw
              case rel => exact ⟨k2 + 1, HKK.out, by first | rfl | go_num, HW2.out⟩
              case measure => have := HKK.out; (simp [natOf, Go.RowKit.intOf] <;> omega)
            · have q3 : ¬ (k2 : Int) < (n8 : Int) := by omega
              clear c2 hk
              have HT9 := keepH ((HT8.out.put HW.out.1 (fun k hk => by
                obtain ⟨cs, q, hq⟩ := HW8.out.blk k hk
                have := HX8.out.1 k 0 hk.1
                have := HT7.out.ch.size
                exact ⟨by omega, by omega, cs, q, hq⟩)).avoid (A' := fun _ => False) (fun b hb => hb.elim))
              have hib : i < 1400000000000 := by have := HIL.out; have := HL.out; omega
              go_wp2_with fail
              go_roundw
              case rel => exact ⟨i + 1, HIL.out.1, by first | rfl | go_num, _, HT9.out⟩
              case measure => have := HIL.out; (simp [natOf, Go.RowKit.intOf] <;> omega)
    · obtain rfl : i = l.length := by omega
      obtain ⟨f, T⟩ := HK.out
      have HT9 := keepH T
      have q1 : ¬ ((l.length : Int) < (l.length : Int)) := by omega
      have HI : Hid (l.length ≤ 1400000000001) := by have := HL.out; show _ ≤ _; omega
      clear T c1 hi
      go_wp2_with fail
      refine (live_25 _).mono ?_
      rintro e w4 ⟨rfl, C4⟩
      have HT4 := keepH (HT9.out.quiet C4)
      have HCo := keepH (s_cont HT4.out HI.out)
      clear C4
      go_wp2_with fail
      refine HCo.out.mono ?_
      rintro e w5 ⟨pa, ca, la, rfl, La, Pa, Ba, Na, T5⟩
      obtain ⟨tk, lb, H, R5, h5, h6, -⟩ := T5.rf
      have HCo2 := keepH (r25_cont R5)
      have HA5 : Hid (Lists f 0 18446744073709551615 la ∧ PairsAt w5 pa la ∧ la.length ≤ l.length ∧ lb.length ≤ l.length) := ⟨La, Pa.at_, Na, h6⟩
      have HC5 := keepH T5.ch
      clear La Pa Ba Na T5 R5 h5 h6 HCo
      go_wp2_with fail
      refine HCo2.out.mono ?_
      rintro e w6 ⟨⟨pb, cb, rfl, Pb⟩, Lb, C6⟩
      have HS := keepH (r_pairs11 pa pb ca cb la lb w6 (HA5.out.2.1.chgF C6 (fun _ _ _ x => x)) Pb (by have := HA5.out; have := HI.out; omega) (by have := HA5.out; have := HI.out; omega))
      have HE : Hid (la = lb) := Lists.unique HA5.out.1 Lb
      have HC6 := keepH (HC5.out.trans C6 (H := fun _ => False) (fun _ _ x => x) (fun _ _ x => x))
      clear Pb Lb C6 HCo2
      go_wp2_with fail
      refine HS.out.mono ?_
      rintro e w7 ⟨rfl, C7⟩
      rw [show decide (la = lb) = true from decide_eq_true HE.out]
      have HC7 := keepH (HC6.out.trans C7 (H := fun _ => False) (fun _ _ x => x) (fun _ _ x => x))
      clear C7
      go_wp2_with fail
      (try simp only [Exit.inBlock, Exit.then])
      go_ret
      exact ⟨by simp, HC7.out⟩
end Go.Proofs.Ytahgaghokpicgaa
