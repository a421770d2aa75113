/- LockedModel: a round. -/
import Derived.Test.YtgaincicbgojjaaKH
import Derived.Test.YtgaincicbgojjaaNpm
namespace Go.Proofs.Ytgaincicbgojjaa
open Go.RowKit Go.Maps
set_option linter.unusedVariables false

theorem take_toldZ {o : OpP} (ho : o.Ok) {r5 : Bool} {r6 r7 : Int} {kp pb : Option Addr} {kc cb th : Nat} (hth : th < 18446744073709551616) {W : World} {m nw hd mu : Nat} {f h : Nat → Option Nat} {g : Nat → Nat → Option Nat} {n : Nat} (H : MoAt W m nw hd mu f h g n) (hmu : mu ≤ 1024) (hn : n ≤ 8796093022000) (hks : KeysAt W kp o.ks) {A : Ans} (hA : A = tellP mu f (pcs h g) o th) (hB : PairsAt W pb A.l) (hBl : A.l.length ≤ 9223372036854775807) (h5 : o.kd = 5 → th ≠ 0) {Z : Nat} (hZ : ∀ k b, h k = some b → Z ≤ b) (hZW : Z ≤ W.heap.size) :
    Calls Try.prog 12 #[.pointer (some ⟨m, 0, none⟩), .agg #[.int .u8 o.kd, .int .u64 (o.k : Int), .int .u64 (o.v : Int), .int .u64 (o.od : Int), .int .u64 (o.hk : Int), .bool r5, .int .i64 r6, .int .i64 r7, .slice kp o.ks.length kc, .int .u64 (o.lo : Int), .int .u64 (o.hi : Int)], .agg #[.int .i64 A.e, .bool A.f, .int .u64 (A.x : Int), .bool A.d, .int .u64 (A.h : Int), .slice pb A.l.length cb, .int .u64 (A.n : Int)]] W fun e W' => e = .returned (.bool true) ∧ (∃ h' g', MoAt W' m nw hd mu (doF o A f) h' g' (n + 1) ∧ pcs h' g' = doP o A f (pcs h g) ∧ ∀ k b, h' k = some b → Z ≤ b) ∧ Chg (fun i => i = nw ∨ i = hd) W W' := by
  have hAh : A.h < 18446744073709551616 := by rw [hA]; exact tellP_h mu f _ o hth
  have yes : ∀ {e : Ending} {W' : World}, (e = .returned (.bool true) ∧ (∃ cl, W.heap.size ≤ cl ∧ MoAt W' m nw hd mu (doF o A f) (doH o A cl h) (setG g cl f) (n + 1)) ∧ Chg (fun i => i = nw ∨ i = hd) W W') → (e = .returned (.bool true) ∧ (∃ h' g', MoAt W' m nw hd mu (doF o A f) h' g' (n + 1) ∧ pcs h' g' = doP o A f (pcs h g) ∧ ∀ k b, h' k = some b → Z ≤ b) ∧ Chg (fun i => i = nw ∨ i = hd) W W') := by
    rintro e W' ⟨h1, ⟨cl, hcl, hM⟩, hc⟩
    refine ⟨h1, ⟨_, _, hM, pcs_do o A (fun k b hb => by have := H.blk.2.2.2 k b hb; omega), fun k b hk => ?_⟩, hc⟩
    rcases doH_new hk with q | q
    · exact hZ k b q
    · omega
  by_cases k5 : o.kd = 5
  · have e5 := tellP_5 mu f (pcs h g) o th k5
    by_cases hh : (pcs h g th).isSome = true
    · rw [if_pos hh, ← hA] at e5
      have bb : true = decide (A = (⟨A.e, false, 0, false, 0, [], 0⟩ : Ans)) := by rw [e5]; rfl
      refine (take_fail ho hAh H hmu hn hks hB hBl (A := tellP mu f (pcs h g) o A.h) rfl (by rw [k5, e5]; rfl) bb).mono ?_
      rintro e W' ⟨rfl, c⟩
      refine ⟨rfl, ⟨h, g, ?_, ?_, hZ⟩, c.mono (fun _ _ x => x.elim)⟩
      · have e1 : doF o A f = f := by
          unfold doF
          rw [if_neg (by rw [e5]; simp [errA]), if_neg (by rw [e5]; simp [errA])]
        rw [e1]
        exact (H.quiet c).mono (Nat.le_succ n)
      · funext k
        unfold doP
        rw [if_neg (by rw [e5]; simp [errA]), if_neg (by rw [e5]; simp [errA])]
    · rw [if_neg hh, ← hA] at e5
      have eA : A = tellP mu f (pcs h g) o A.h := by
        rw [show A.h = th by rw [e5]]
        exact hA
      exact (take_yes5 ho hAh H hmu hn hks hB hBl eA (by rw [k5, e5]; rfl) k5 (by rw [e5]; exact h5 k5) rfl).mono (fun e W' => yes)
  · have eA : A = tellP mu f (pcs h g) o A.h := hA.trans (tellP_any mu f _ o th A.h k5)
    have hm : mayP o.kd A.e A.e = false := by
      have := may_told mu f (pcs h g) o th A.e k5
      rwa [← hA] at this
    by_cases k10 : o.kd = 10
    · exact (take_yes10 ho hAh H hmu hn hks hB hBl eA hm k10 rfl).mono (fun e W' => yes)
    · exact (take_yes ho hAh H hmu hn hks hB hBl eA hm k5 k10 rfl).mono (fun e W' => yes)
/-- The blocks of both. -/
structure Blks where
  s : Nat
  sb : Nat
  m : Nat
  nw : Nat
  hd : Nat
  m' : Nat
  nw' : Nat
  hd' : Nat
  C : Obj
structure Blks.Ok (k : Blks) (B Z : Nat) : Prop where
  lo : B ≤ k.s ∧ B ≤ k.sb ∧ B ≤ k.m ∧ B ≤ k.nw ∧ B ≤ k.hd ∧ B ≤ k.m' ∧ B ≤ k.nw' ∧ B ≤ k.hd'
  hi : k.s < Z ∧ k.sb < Z ∧ k.m < Z ∧ k.nw < Z ∧ k.hd < Z ∧ k.m' < Z ∧ k.nw' < Z ∧ k.hd' < Z
  ap : k.nw ≠ k.nw' ∧ k.nw ≠ k.hd' ∧ k.hd ≠ k.nw' ∧ k.hd ≠ k.hd'
/-- A store and a model beside it: the store has done i operations, the model j. -/
structure Two (W wr : World) (k : Blks) (mu N Z i j : Nat) (f h : Nat → Option Nat) (g : Nat → Nat → Option Nat) (f' h' : Nat → Option Nat) (g' : Nat → Nat → Option Nat) : Prop where
  sl : ∃ hc lf sl, SlAt wr k.s k.sb k.m 0 hc lf i sl ∧ SlInv sl hc lf (pcs h g) ∧ sl.length = N
  mo : MoAt wr k.m k.nw k.hd mu f h g i
  mo' : MoAt wr k.m' k.nw' k.hd' mu f' h' g' j
  z : ∀ x b, h x = some b → Z ≤ b
  z' : ∀ x b, h' x = some b → Z ≤ b
  ok : k.Ok (W.heap.size + 1) Z
  zw : Z ≤ wr.heap.size
  ch : Chg (fun _ => False) W wr
  cf : wr.heap[W.heap.size]? = some k.C
theorem Two.quiet {W wr w : World} {k : Blks} {mu N Z i j : Nat} {f h : Nat → Option Nat} {g : Nat → Nat → Option Nat} {f' h' : Nat → Option Nat} {g' : Nat → Nat → Option Nat} (T : Two W wr k mu N Z i j f h g f' h' g') (c : Chg (fun _ => False) wr w) : Two W w k mu N Z i j f h g f' h' g' := by
  obtain ⟨⟨hc, lf, sl, S, I, hl⟩, a1, a2, a3, a4, a5, a6, a7, a8⟩ := T
  exact ⟨⟨hc, lf, sl, S.chg c (fun x => x) (fun x => x), I, hl⟩, a1.quiet c, a2.quiet c, a3, a4, a5, Nat.le_trans a6 c.size, a7.trans c (fun _ _ x => x) (fun _ _ x => x), (c.block _ (lt_of a8) (fun x => x)).trans a8⟩
/-- What Do changes lies apart from the model. -/
theorem Two.ap {W wr : World} {k : Blks} {mu N Z i j : Nat} {f h : Nat → Option Nat} {g : Nat → Nat → Option Nat} {f' h' : Nat → Option Nat} {g' : Nat → Nat → Option Nat} (T : Two W wr k mu N Z i j f h g f' h' g') : (k.m' ≠ k.s ∧ k.m' ≠ k.sb ∧ k.m' ≠ k.nw ∧ k.m' ≠ k.hd) ∧ (k.nw' ≠ k.s ∧ k.nw' ≠ k.sb) ∧ (k.hd' ≠ k.s ∧ k.hd' ≠ k.sb) ∧ (∀ x b, h' x = some b → b ≠ k.s ∧ b ≠ k.sb ∧ b ≠ k.nw ∧ b ≠ k.hd) ∧ (k.m ≠ k.nw' ∧ k.m ≠ k.hd') ∧ (∀ x b, h x = some b → b ≠ k.nw' ∧ b ≠ k.hd') := by
  obtain ⟨hc, lf, sl, S, I, hl⟩ := T.sl
  obtain ⟨e1, c1, n1⟩ := MapR.is T.mo.now
  obtain ⟨e2, c2, n2⟩ := MapR.is T.mo.held
  obtain ⟨e3, c3, n3⟩ := MapR.is T.mo'.now
  obtain ⟨e4, c4, n4⟩ := MapR.is T.mo'.held
  have kk : ∀ {a b : Nat} {x y : Obj}, wr.heap[a]? = some x → wr.heap[b]? = some y → x ≠ y → a ≠ b := by
    rintro a b x y h1 h2 hne rfl
    rw [h1] at h2
    exact hne (Option.some.inj h2)
  have hi := T.ok.hi
  refine ⟨⟨kk T.mo'.md S.st (by simp), kk T.mo'.md S.row (by simp), kk T.mo'.md n1 (by simp), kk T.mo'.md n2 (by simp)⟩, ⟨kk n3 S.st (by simp), kk n3 S.row (by simp)⟩, ⟨kk n4 S.st (by simp), kk n4 S.row (by simp)⟩, fun x b hb => ?_, ⟨kk T.mo.md n3 (by simp), kk T.mo.md n4 (by simp)⟩, fun x b hb => ?_⟩
  · have := T.z' x b hb; omega
  · have := T.z x b hb; omega
theorem two_do {y : OpI} {W wr : World} (hy : y.Ok W) (hyb : ∀ bk off, y.kp = some ⟨bk, off, none⟩ → y.o.ks ≠ [] → bk < W.heap.size) {k : Blks} {mu N Z i : Nat} {f h : Nat → Option Nat} {g : Nat → Nat → Option Nat} {f' h' : Nat → Option Nat} {g' : Nat → Nat → Option Nat} (T : Two W wr k mu N Z i i f h g f' h' g') (hmu : mu ≤ 1024) (hi : i ≤ 8796093021999) :
    Calls Try.prog 6 #[.pointer (some ⟨k.s, 0, none⟩), .agg #[.int .u8 y.o.kd, .int .u64 (y.o.k : Int), .int .u64 (y.o.v : Int), .int .u64 (y.o.od : Int), .int .u64 (y.o.hk : Int), .bool y.r5, .int .i64 y.r6, .int .i64 y.r7, .slice y.kp y.o.ks.length y.kc, .int .u64 (y.o.lo : Int), .int .u64 (y.o.hi : Int)]] wr fun e w' => ∃ A p c, e = .returned (.tuple #[.agg #[.int .i64 A.e, .bool A.f, .int .u64 (A.x : Int), .bool A.d, .int .u64 (A.h : Int), .slice p A.l.length c, .int .u64 (A.n : Int)], .int .i64 (i : Int)]) ∧ ∃ f1 h1 g1, Two W w' k mu N Z (i + 1) i f1 h1 g1 f' h' g' ∧ LStep mu y.o f (pcs h g) A f1 (pcs h1 g1) ∧ PairsAt w' p A.l ∧ A.l.length ≤ 8796093022000 := by
  obtain ⟨hc, lf, sl, S, I, hl⟩ := T.sl
  obtain ⟨⟨a1, a2, a3, a4⟩, ⟨b1, b2⟩, ⟨c1, c2⟩, d1, _, _⟩ := T.ap
  have lo := T.ok.lo
  have hi2 := T.ok.hi
  have ap := T.ok.ap
  refine (k_do hy.ok S T.mo I hmu (by omega) (hy.ks.chg T.ch (fun _ _ _ x => x)) (fun bk off e e2 => by have := hyb bk off e e2; omega) (by omega) T.z).mono ?_
  rintro e w' ⟨A, p, c, rfl, ⟨hc', lf', sl', f1, h1, g1, O⟩, cc⟩
  refine ⟨A, p, c, rfl, f1, h1, g1, ⟨⟨hc', lf', sl', O.sa, O.inv, O.len.trans hl⟩, O.mo, ?_, fun x b hb => ?_, T.z', T.ok, Nat.le_trans T.zw cc.size, T.ch.trans cc (fun _ _ x => x) (fun j hj x => ?_), (cc.block _ (lt_of T.cf) (fun x => ?_)).trans T.cf⟩, O.stp, O.prs, O.plen⟩
  · refine T.mo'.chg cc ?_ ?_ ?_ (fun x b hb => ?_)
    · rintro (q | q | q | q); exact a1 q; exact a2 q; exact a3 q; exact a4 q
    · rintro (q | q | q | q); exact b1 q; exact b2 q; exact ap.1 q.symm; exact ap.2.2.1 q.symm
    · rintro (q | q | q | q); exact c1 q; exact c2 q; exact ap.2.1 q.symm; exact ap.2.2.2 q.symm
    · obtain ⟨d1, d2, d3, d4⟩ := d1 x b hb
      rintro (q | q | q | q); exact d1 q; exact d2 q; exact d3 q; exact d4 q
  · rcases O.new x b hb with q | q
    · exact q.1
    · have := T.zw; omega
  · clear a1 a2 a3 a4 b1 b2 c1 c2 d1 ap
    omega
  · clear a1 a2 a3 a4 b1 b2 c1 c2 d1 ap
    omega
theorem two_take {y : OpI} {W wr : World} (hy : y.Ok W) {k : Blks} {mu N Z i : Nat} {f1 h1 : Nat → Option Nat} {g1 : Nat → Nat → Option Nat} {f' h' : Nat → Option Nat} {g' : Nat → Nat → Option Nat} (T : Two W wr k mu N Z (i + 1) i f1 h1 g1 f' h' g') {A : Ans} {p : Option Addr} {c : Nat} (hS : LStep mu y.o f' (pcs h' g') A f1 (pcs h1 g1)) (hP : PairsAt wr p A.l) (hPL : A.l.length ≤ 8796093022000) (hmu : mu ≤ 1024) (hi : i ≤ 8796093021999) :
    Calls Try.prog 12 #[.pointer (some ⟨k.m', 0, none⟩), .agg #[.int .u8 y.o.kd, .int .u64 (y.o.k : Int), .int .u64 (y.o.v : Int), .int .u64 (y.o.od : Int), .int .u64 (y.o.hk : Int), .bool y.r5, .int .i64 y.r6, .int .i64 y.r7, .slice y.kp y.o.ks.length y.kc, .int .u64 (y.o.lo : Int), .int .u64 (y.o.hi : Int)], .agg #[.int .i64 A.e, .bool A.f, .int .u64 (A.x : Int), .bool A.d, .int .u64 (A.h : Int), .slice p A.l.length c, .int .u64 (A.n : Int)]] wr fun e w' => e = .returned (.bool true) ∧ (∃ h2 g2, Two W w' k mu N Z (i + 1) (i + 1) f1 h1 g1 f1 h2 g2 ∧ pcs h2 g2 = pcs h1 g1) ∧ Chg (fun j => j = k.nw' ∨ j = k.hd') wr w' := by
  have hks := hy.ks.chg T.ch (fun _ _ _ x => x)
  rcases hS with ⟨k5, hA, hf, hpc⟩ | ⟨th, hth, h5, hA, hf, hpc⟩
  · have he : A = errA A.e ∧ (A.e = 31 ∨ A.e = 32) := by
      rcases hA with rfl | rfl
      · exact ⟨rfl, .inl rfl⟩
      · exact ⟨rfl, .inr rfl⟩
    have hAh : A.h < 18446744073709551616 := by rw [he.1]; show 0 < _; omega
    have hm : mayP y.o.kd A.e (tellP mu f' (pcs h' g') y.o A.h).e = true := by
      unfold mayP
      rw [if_neg (by omega), if_pos (by omega), k5]
      rfl
    have bb : true = decide (A = (⟨A.e, false, 0, false, 0, [], 0⟩ : Ans)) := by
      symm
      exact decide_eq_true he.1
    refine (take_fail hy.ok hAh T.mo' hmu (by omega) hks hP (by omega) (A := tellP mu f' (pcs h' g') y.o A.h) rfl hm bb).mono ?_
    rintro e w' ⟨rfl, cc⟩
    have T2 := T.quiet cc
    subst hf
    exact ⟨rfl, ⟨h', g', ⟨T2.sl, T2.mo, T2.mo'.mono (Nat.le_succ i), T2.z, T2.z', T2.ok, T2.zw, T2.ch, T2.cf⟩, hpc.symm⟩, cc.mono (fun _ _ x => x.elim)⟩
  · refine (take_toldZ hy.ok hth T.mo' hmu (by omega) hks hA hP (by omega) h5 T.z' T.zw).mono ?_
    rintro e w' ⟨rfl, ⟨h2, g2, hM, hp2, hz2⟩, cc⟩
    obtain ⟨_, ⟨b1, b2⟩, ⟨c1, c2⟩, _, ⟨m1, m2⟩, d2⟩ := T.ap
    have ap := T.ok.ap
    have lo := T.ok.lo
    obtain ⟨hc, lf, sl, S, I, hl⟩ := T.sl
    subst hf
    refine ⟨rfl, ⟨h2, g2, ⟨⟨hc, lf, sl, S.chg cc ?_ ?_, I, hl⟩, T.mo.chg cc ?_ ?_ ?_ (fun x b hb => ?_), hM, T.z, hz2, T.ok, Nat.le_trans T.zw cc.size, T.ch.trans cc (fun _ _ x => x) (fun j hj x => ?_), (cc.block _ (lt_of T.cf) ?_).trans T.cf⟩, hp2.trans hpc.symm⟩, cc⟩
    · rintro (q | q); exact b1 q.symm; exact c1 q.symm
    · rintro (q | q); exact b2 q.symm; exact c2 q.symm
    · rintro (q | q); exact m1 q; exact m2 q
    · rintro (q | q); exact ap.1 q; exact ap.2.1 q
    · rintro (q | q); exact ap.2.2.1 q; exact ap.2.2.2 q
    · rintro (q | q); exact (d2 x b hb).1 q; exact (d2 x b hb).2 q
    · clear ap b1 b2 c1 c2 m1 m2 d2
      omega
    · clear ap b1 b2 c1 c2 m1 m2 d2
      omega
theorem two_kc {W wr : World} {k : Blks} {mu N Z i j : Nat} {f h : Nat → Option Nat} {g : Nat → Nat → Option Nat} {f' h' : Nat → Option Nat} {g' : Nat → Nat → Option Nat} (T : Two W wr k mu N Z i j f h g f' h' g') (hi : i ≤ 8796093022000) :
    Calls Try.prog 8 #[.pointer (some ⟨k.s, 0, none⟩)] wr fun e w' => (∃ p c l, e = .returned (.slice p l.length c) ∧ Lists f 0 18446744073709551615 l ∧ PairsAt w' p l ∧ (∀ bk off, p = some ⟨bk, off, none⟩ → wr.heap.size ≤ bk) ∧ l.length ≤ i) ∧ Two W w' k mu N Z i j f h g f' h' g' ∧ Chg (fun x => x = k.s) wr w' := by
  obtain ⟨hc, lf, sl, S, I, hl⟩ := T.sl
  obtain ⟨⟨a1, _⟩, ⟨b1, _⟩, ⟨c1, _⟩, d1, _, _⟩ := T.ap
  have lo := T.ok.lo
  refine (k_content S T.mo hi).mono ?_
  rintro e w' ⟨hx, S', M', cc⟩
  exact ⟨hx, ⟨⟨hc, lf, sl, S', I, hl⟩, M', T.mo'.chg cc a1 b1 c1 (fun x b hb => (d1 x b hb).1), T.z, T.z', T.ok, Nat.le_trans T.zw cc.size, T.ch.trans cc (fun _ _ x => x) (fun j hj x => by omega), (cc.block _ (lt_of T.cf) (fun x => by omega)).trans T.cf⟩, cc⟩
end Go.Proofs.Ytgaincicbgojjaa
