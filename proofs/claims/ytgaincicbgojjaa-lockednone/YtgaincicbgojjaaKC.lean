/- Any operation under the lock. -/
import Derived.Test.YtgaincicbgojjaaKB
namespace Go.Proofs.Ytgaincicbgojjaa
open Go.RowKit Go.Maps
set_option linter.unusedVariables false

theorem doP_else {o : OpP} (k5 : ¬ o.kd = 5) (k6 : ¬ o.kd = 6) (A : Ans) (f : Nat → Option Nat) (pc : Nat → Option (Nat → Option Nat)) : doP o A f pc = pc := by
  funext k
  unfold doP
  rw [if_neg (fun x => k5 x.2.1), if_neg (fun x => k6 x.2)]
def MD (mu : Nat) (o : OpP) (n m nw hd th : Nat) (f h : Nat → Option Nat) (g : Nat → Nat → Option Nat) (w w1 : World) (A : Ans) (p : Option Addr) : Prop := ∃ cl, w.heap.size ≤ cl ∧ MoAt w1 m nw hd mu (doF o A f) (doH o A cl h) (setG g cl f) (n + 1) ∧ A = tellP mu f (pcs h g) o th ∧ PairsAt w1 p A.l ∧ (∀ bk off, p = some ⟨bk, off, none⟩ → w.heap.size ≤ bk) ∧ A.l.length ≤ 8796093022000
theorem m_do {o : OpP} (ho : o.Ok) {r5 : Bool} {r6 r7 : Int} {kp : Option Addr} {kc th : Nat} (hth : th < 18446744073709551616) {W : World} {m nw hd mu : Nat} {f h : Nat → Option Nat} {g : Nat → Nat → Option Nat} {n : Nat} (H : MoAt W m nw hd mu f h g n) (hmu : mu ≤ 1024) (hn : n ≤ 8796093022000) (hks : KeysAt W kp o.ks) :
    Calls Try.prog 39 #[.pointer (some ⟨m, 0, none⟩), .agg #[.int .u8 o.kd, .int .u64 (o.k : Int), .int .u64 (o.v : Int), .int .u64 (o.od : Int), .int .u64 (o.hk : Int), .bool r5, .int .i64 r6, .int .i64 r7, .slice kp o.ks.length kc, .int .u64 (o.lo : Int), .int .u64 (o.hi : Int)], .int .u64 (th : Int)] W fun e W' => ∃ A p c, e = .returned (.agg #[.int .i64 A.e, .bool A.f, .int .u64 (A.x : Int), .bool A.d, .int .u64 (A.h : Int), .slice p A.l.length c, .int .u64 (A.n : Int)]) ∧ MD mu o n m nw hd th f h g W W' A p ∧ Chg (fun i => i = nw ∨ i = hd) W W' := by
  refine (Do_all ho hth H hmu hn hks rfl).mono ?_
  rintro e W' ⟨⟨p, c, rfl, h1, h2, h3⟩, ⟨cl, hcl, hM⟩, hc⟩
  exact ⟨_, p, c, rfl, ⟨cl, hcl, hM, rfl, h1, h2, h3⟩, hc⟩
theorem MD.new {mu : Nat} {o : OpP} {n m nw hd th : Nat} {f h : Nat → Option Nat} {g : Nat → Nat → Option Nat} {w w1 : World} {A : Ans} {p : Option Addr} (hb : ∀ k b, h k = some b → b < w.heap.size) (H : MD mu o n m nw hd th f h g w w1 A p) : ∃ h' g', MoAt w1 m nw hd mu (doF o A f) h' g' (n + 1) ∧ pcs h' g' = doP o A f (pcs h g) ∧ (∀ k b, h' k = some b → h k = some b ∨ w.heap.size ≤ b) ∧ A = tellP mu f (pcs h g) o th ∧ PairsAt w1 p A.l ∧ (∀ bk off, p = some ⟨bk, off, none⟩ → w.heap.size ≤ bk) ∧ A.l.length ≤ 8796093022000 := by
  obtain ⟨cl, hcl, hM, hA, h1, h2, h3⟩ := H
  refine ⟨_, _, hM, pcs_do o A (fun k b hk => by have := hb k b hk; omega), fun k b hk => ?_, hA, h1, h2, h3⟩
  rcases doH_new hk with q | q
  · exact .inl q
  · exact .inr (by omega)
theorem err_out {o : OpP} {er : Int} (k5 : o.kd = 5) (her : er = 31 ∨ er = 32) {W : World} {s sb m nw hd mu hc lf dn : Nat} {sl : List (Bool × Nat)} {f h : Nat → Option Nat} {g : Nat → Nat → Option Nat} {n : Nat} {lk : Nat} (S : SlAt W s sb m lk hc lf dn sl) (M : MoAt W m nw hd mu f h g n) (I : SlInv sl hc lf (pcs h g)) {B0 B : Nat} (hBh : ∀ k b, h k = some b → b < B0) : Out mu o n s sb m nw hd lk dn sl.length f (pcs h g) B0 B W (errA er) none := by
  refine ⟨hc, lf, sl, f, h, g, S, M.mono (Nat.le_succ n), I, .inl ⟨k5, ?_, rfl, rfl⟩, rfl, fun k b hk => .inl (hBh k b hk), .inl rfl, (fun bk off e => by cases e), (by simp [errA])⟩
  rcases her with rfl | rfl
  · exact .inl rfl
  · exact .inr rfl
theorem k_snap {o : OpP} {r5 : Bool} {r6 r7 : Int} {kp : Option Addr} {kc : Nat} (ho : o.Ok) (k5 : o.kd = 5) {W : World} {s sb m nw hd mu hc lf dn : Nat} {sl : List (Bool × Nat)} {f h : Nat → Option Nat} {g : Nat → Nat → Option Nat} {n : Nat} (S : SlAt W s sb m 1 hc lf dn sl) (M : MoAt W m nw hd mu f h g n) (I : SlInv sl hc lf (pcs h g)) (hmu : mu ≤ 1024) (hn : n ≤ 8796093022000) (hks : KeysAt W kp o.ks) (hkb : ∀ bk off, kp = some ⟨bk, off, none⟩ → bk ≠ s ∧ bk ≠ sb) {B0 : Nat} (hB : s < B0 ∧ sb < B0 ∧ m < B0 ∧ nw < B0 ∧ hd < B0) (hBh : ∀ k b, h k = some b → b < B0) (hBW : B0 ≤ W.heap.size) :
    Calls Try.prog 37 #[.pointer (some ⟨s, 0, none⟩), .agg #[.int .u8 o.kd, .int .u64 (o.k : Int), .int .u64 (o.v : Int), .int .u64 (o.od : Int), .int .u64 (o.hk : Int), .bool r5, .int .i64 r6, .int .i64 r7, .slice kp o.ks.length kc, .int .u64 (o.lo : Int), .int .u64 (o.hi : Int)]] W fun e W' => ∃ A p c, e = .returned (.agg #[.int .i64 A.e, .bool A.f, .int .u64 (A.x : Int), .bool A.d, .int .u64 (A.h : Int), .slice p A.l.length c, .int .u64 (A.n : Int)]) ∧ Out mu o n s sb m nw hd 1 dn sl.length f (pcs h g) B0 (W.heap.size + 2) W' A p ∧ Chg (fun k => k = s ∨ k = sb ∨ k = nw ∨ k = hd) W W' := by
  obtain ⟨⟨a1, a2, a3⟩, ⟨a4, a5, a6⟩, a7⟩ := st_ap S M
  have ne := S.ne
  have hG : ∀ k, k = nw ∨ k = hd → k < W.heap.size ∧ k ≠ s := by
    have b1 := M.blk.2.1
    have b2 := M.blk.2.2.1
    intro k x
    omega
  have err : ∀ er : Int, er = 31 ∨ er = 32 → (∀ w, Chg (fun _ => False) W w → Calls Try.prog 63 #[.pointer (some ⟨s, 3, none⟩)] w fun e w' => e = .returned (.tuple #[.int .u64 0, .int .i64 er]) ∧ Chg (fun _ => False) w w') → Calls Try.prog 37 #[.pointer (some ⟨s, 0, none⟩), .agg #[.int .u8 o.kd, .int .u64 (o.k : Int), .int .u64 (o.v : Int), .int .u64 (o.od : Int), .int .u64 (o.hk : Int), .bool r5, .int .i64 r6, .int .i64 r7, .slice kp o.ks.length kc, .int .u64 (o.lo : Int), .int .u64 (o.hi : Int)]] W fun e W' => ∃ A p c, e = .returned (.agg #[.int .i64 A.e, .bool A.f, .int .u64 (A.x : Int), .bool A.d, .int .u64 (A.h : Int), .slice p A.l.length c, .int .u64 (A.n : Int)]) ∧ Out mu o n s sb m nw hd 1 dn sl.length f (pcs h g) B0 (W.heap.size + 2) W' A p ∧ Chg (fun k => k = s ∨ k = sb ∨ k = nw ∨ k = hd) W W' := by
    intro er her hT
    refine (snap_err (by omega) hT).mono ?_
    rintro e W' ⟨rfl, c⟩
    exact ⟨errA er, none, 0, rfl, err_out k5 her (S.chg c (fun x => x) (fun x => x)) (M.quiet c) I hBh, c.mono (fun _ _ x => x.elim)⟩
  by_cases c1 : hc = sl.length
  · exact err 32 (.inr rfl) (fun w cw => take_full (S.chg cw (fun x => x) (fun x => x)) c1)
  by_cases c2 : lf = 0
  · exact err 31 (.inl rfl) (fun w cw => take_out (S.chg cw (fun x => x) (fun x => x)) c1 c2)
  cases hi : idxS sl with
  | none => exact err 32 (.inr rfl) (fun w cw => take_worn (S.chg cw (fun x => x) (fun x => x)) c1 c2 hi)
  | some i =>
    obtain ⟨g0, hx, hg⟩ := idxS_spec hi
    have hi256 := I.idx hx
    have hth : hdl i g0 < 18446744073709551616 := by unfold hdl; omega
    have hth0 : hdl i g0 ≠ 0 := by unfold hdl; omega
    refine (snap_go (th := hdl i g0) (sb := sb) (m := m) (lt_of S.st) (lt_of S.row) (T := fun w w' => SlAt w' s sb m 1 (hc + 1) (lf - 1) dn (sl.set i (true, g0))) (fun w cw => take_ok (S.chg cw (fun x => x) (fun x => x)) c1 I.le c2 I.lf64 hi hx hg) (fun w w' hT => ⟨_, hT.st, rfl⟩) (G := fun k => k = nw ∨ k = hd) hG (Q := MD mu o n m nw hd (hdl i g0) f h g)
      (fun w w' w2 cw hT ct c2 => m_do ho hth ((((M.quiet cw).chg ct (by omega) (by omega) (by omega) (fun k b hk => by have := a7 k b hk; omega))).quiet c2) hmu hn ((((hks.chg cw (fun _ _ _ x => x)).chg ct (fun bk off e => ?_))).chg c2 (fun _ _ _ x => x)))).mono ?_
    · have := hkb bk off e; omega
    · rintro e W' ⟨A, p, c, w, w', w2, w1, rfl, cw, hz, hT, ct, cc2, hQ, cG, c9⟩
      have z1 := cw.size
      have z2 := ct.size
      have z3 := cc2.size
      obtain ⟨h', g', hM, hpc, hnew, hA, hP, hPB, hPL⟩ := hQ.new (fun k b hk => by have := hBh k b hk; omega)
      have e5 := tellP_5 mu f (pcs h g) o (hdl i g0) k5
      rw [I.free hx] at e5
      simp only [Option.isSome_none, Bool.false_eq_true, if_false] at e5
      have eA : A = ⟨0, false, 0, false, hdl i g0, [], 0⟩ := hA.trans e5
      have hpc2 : pcs h' g' = fun k => if k = hdl i g0 then some f else pcs h g k := by
        rw [hpc, eA]
        funext k
        unfold doP
        rw [if_pos ⟨rfl, k5, hth0⟩]
      have H1 : Outs mu o n s sb m nw hd 1 dn sl.length f (pcs h g) B0 (W.heap.size + 2) w1 A p (hc + 1) (lf - 1) (sl.set i (true, g0)) (doF o A f) h' g' :=
        ⟨(SlAt.chg hT cc2 (fun x => x) (fun x => x)).chg cG (by omega) (by omega), hM, by rw [hpc2]; exact I.take hx hg f, .inr ⟨hdl i g0, hth, fun _ => hth0, hA, rfl, hpc⟩, by rw [List.length_set], fun k b hk => (hnew k b hk).imp (hBh k b) (fun q => by omega), hP, fun bk off e => by have := hPB bk off e; omega, hPL⟩
      refine ⟨A, p, c, rfl, ⟨_, _, _, _, _, _, H1.chg c9 (fun i hi => by omega) hB⟩, ?_⟩
      exact ((((cw.trans ct (H := fun k => k = s ∨ k = sb ∨ k = nw ∨ k = hd) (fun _ _ x => x.elim) (fun _ _ x => x.elim .inl (fun y => .inr (.inl y)))).trans cc2 (H := fun k => k = s ∨ k = sb ∨ k = nw ∨ k = hd) (fun _ _ x => x) (fun _ _ x => x.elim)).trans cG (H := fun k => k = s ∨ k = sb ∨ k = nw ∨ k = hd) (fun _ _ x => x) (fun _ _ x => .inr (.inr x))).trans c9 (fun _ _ x => x) (fun i hi x => by omega))
end Go.Proofs.Ytgaincicbgojjaa
