/- A release, any operation: tell, Do. -/
import Derived.Test.YtgaincicbgojjaaKC
namespace Go.Proofs.Ytgaincicbgojjaa
open Go.RowKit Go.Maps
set_option linter.unusedVariables false

theorem tellP_6 (mu : Nat) (f : Nat → Option Nat) (pc : Nat → Option (Nat → Option Nat)) (o : OpP) (th : Nat) (h : o.kd = 6) : tellP mu f pc o th = if (pc o.hk).isSome then errA 0 else errA 33 := by
  unfold tellP
  rw [if_neg (by omega), if_neg (by omega), if_neg (by omega), if_pos h]
theorem MoAt.nm {W w1 w2 : World} {m nw hd mu : Nat} {f h : Nat → Option Nat} {g : Nat → Nat → Option Nat} {n : Nat} (H : MoAt w1 m nw hd mu f h g n) (c : Chg (NM W w1) w1 w2) (h1 : m < W.heap.size) (h2 : nw < W.heap.size) (h3 : hd < W.heap.size) : MoAt w2 m nw hd mu f h g n :=
  H.chg c (fun x => by have := x.1; omega) (fun x => by have := x.1; omega) (fun x => by have := x.1; omega) (fun k b hk x => by
    obtain ⟨es, cc, e⟩ := MapR.is (H.pic k b hk)
    exact x.2 es cc e)
theorem k_rel {o : OpP} {r5 : Bool} {r6 r7 : Int} {kp : Option Addr} {kc : Nat} (ho : o.Ok) (k6 : o.kd = 6) {W : World} {s sb m nw hd mu hc lf dn : Nat} {sl : List (Bool × Nat)} {f h : Nat → Option Nat} {g : Nat → Nat → Option Nat} {n : Nat} (S : SlAt W s sb m 1 hc lf dn sl) (M : MoAt W m nw hd mu f h g n) (I : SlInv sl hc lf (pcs h g)) (hmu : mu ≤ 1024) (hn : n ≤ 8796093022000) (hks : KeysAt W kp o.ks) (hkb : ∀ bk off, kp = some ⟨bk, off, none⟩ → bk ≠ s ∧ bk ≠ sb) {B0 : Nat} (hB : s < B0 ∧ sb < B0 ∧ m < B0 ∧ nw < B0 ∧ hd < B0) (hBh : ∀ k b, h k = some b → b < B0) (hBW : B0 ≤ W.heap.size) :
    Calls Try.prog 38 #[.pointer (some ⟨s, 0, none⟩), .agg #[.int .u8 o.kd, .int .u64 (o.k : Int), .int .u64 (o.v : Int), .int .u64 (o.od : Int), .int .u64 (o.hk : Int), .bool r5, .int .i64 r6, .int .i64 r7, .slice kp o.ks.length kc, .int .u64 (o.lo : Int), .int .u64 (o.hi : Int)]] W fun e W' => ∃ A p c, e = .returned (.agg #[.int .i64 A.e, .bool A.f, .int .u64 (A.x : Int), .bool A.d, .int .u64 (A.h : Int), .slice p A.l.length c, .int .u64 (A.n : Int)]) ∧ Out mu o n s sb m nw hd 1 dn sl.length f (pcs h g) B0 (W.heap.size + 2) W' A p ∧ Chg (fun k => k = s ∨ k = sb ∨ k = nw ∨ k = hd) W W' := by
  obtain ⟨⟨a1, a2, a3⟩, ⟨a4, a5, a6⟩, a7⟩ := st_ap S M
  have ne := S.ne
  have hG : ∀ k, k = nw ∨ k = hd → k < W.heap.size ∧ k ≠ s := by
    have b1 := M.blk.2.1
    have b2 := M.blk.2.2.1
    intro k x
    omega
  have nmS : ∀ {w1 w2 : World}, SlAt w1 s sb m 1 hc lf dn sl → Chg (NM W w1) w1 w2 → SlAt w2 s sb m 1 hc lf dn sl := fun h c => h.chg c (fun x => by have := x.1; omega) (fun x => by have := x.1; omega)
  refine (rel_go S.st (lt_of S.row) hG (Q := fun w w1 A p => MD mu o n m nw hd 0 f h g w w1 A p ∧ SlAt w1 s sb m 1 hc lf dn sl) (fun w cw => ?_) (L := fun w2 w3 => ∀ i g0, sl[i]? = some (true, g0) → o.hk = hdl i g0 → SlAt w3 s sb m 1 (hc - 1) lf dn (sl.set i (false, g0 + 1))) (fun w w1 A p w2 hQ c12 he => ?_)).mono ?_
  · refine (m_do ho (th := 0) (by omega) (M.quiet cw) hmu hn (hks.chg cw (fun _ _ _ x => x))).mono ?_
    rintro e w1 ⟨A, p, c, rfl, hM, c1⟩
    exact ⟨A, p, c, rfl, ⟨hM, (S.chg cw (fun x => x) (fun x => x)).chg c1 (by omega) (by omega)⟩, c1⟩
  · obtain ⟨cl, hcl, hM, hA, _⟩ := hQ.1
    rw [tellP_6 mu f (pcs h g) o 0 k6] at hA
    have hp : (pcs h g o.hk).isSome = true := by
      cases hq : (pcs h g o.hk).isSome
      · rw [hq] at hA
        simp only [Bool.false_eq_true, if_false] at hA
        rw [hA] at he
        simp [errA] at he
      · rfl
    obtain ⟨i, g0, hx, ek⟩ := (I.pcs o.hk).1 hp
    have hg := (I.gen i true g0 hx).2 rfl
    have S2 := nmS hQ.2 c12
    rw [ek]
    refine (let_go S2 hx hg (I.go hx).1 (Nat.le_trans I.le I.len)).mono ?_
    rintro e w3 ⟨rfl, h3, c3⟩
    refine ⟨rfl, fun j g1 hj ej => ?_, c3⟩
    obtain ⟨e1, e2⟩ := hdl_inj (I.idx hx) (I.idx hj) ej
    subst e1
    subst e2
    exact h3
  · rintro e W' ⟨A, p, c, w, w1, w2, w3, rfl, cw, hz, ⟨hQ, S1⟩, cG, c12, hor, c9⟩
    have z1 := cw.size
    obtain ⟨h', g', hM, hpc, hnew, hA, hP, hPB, hPL⟩ := hQ.new (fun k b hk => by have := hBh k b hk; omega)
    have S2 := nmS S1 c12
    have M2 := hM.nm c12 (by omega) (by omega) (by omega)
    have hA6 := hA.trans (tellP_6 mu f (pcs h g) o 0 k6)
    have hl : A.l = [] := by rw [hA6]; split <;> rfl
    have nw' : ∀ k b, h' k = some b → b < B0 ∨ W.heap.size + 2 ≤ b := fun k b hk => (hnew k b hk).imp (hBh k b) (fun q => by omega)
    have pn : ∀ bk off, p = some ⟨bk, off, none⟩ → W.heap.size + 2 ≤ bk := fun bk off e => by have := hPB bk off e; omega
    have stp : LStep mu o f (pcs h g) A (doF o A f) (pcs h' g') := .inr ⟨0, by omega, fun x => by omega, hA, rfl, hpc⟩
    have chW : ∀ {w3 : World}, Chg (fun k => k = s ∨ k = sb) w2 w3 → Chg (NM W w3) w3 W' → Chg (fun k => k = s ∨ k = sb ∨ k = nw ∨ k = hd) W W' := fun {w3} c23 c9 =>
      ((((cw.trans cG (H := fun k => k = s ∨ k = sb ∨ k = nw ∨ k = hd) (fun _ _ x => x.elim) (fun _ _ x => .inr (.inr x))).trans c12 (H := fun k => k = s ∨ k = sb ∨ k = nw ∨ k = hd) (fun _ _ x => x) (fun i hi x => by have := x.1; omega)).trans c23 (H := fun k => k = s ∨ k = sb ∨ k = nw ∨ k = hd) (fun _ _ x => x) (fun _ _ x => x.elim .inl (fun y => .inr (.inl y)))).trans c9 (fun _ _ x => x) (fun i hi x => by have := x.1; omega))
    rcases hor with ⟨he, hL, c23⟩ | ⟨he, rfl⟩
    · have hp : (pcs h g o.hk).isSome = true := by
        cases hq : (pcs h g o.hk).isSome
        · rw [hq] at hA6
          simp only [Bool.false_eq_true, if_false] at hA6
          rw [hA6] at he
          simp [errA] at he
        · rfl
      obtain ⟨i, g0, hx, ek⟩ := (I.pcs o.hk).1 hp
      have S3 := hL i g0 hx ek
      obtain ⟨b1, b2, b3⟩ := st_ap S2 M2
      have M3 := M2.chg c23 (by omega) (by omega) (by omega) (fun k b hk => by have := b3 k b hk; omega)
      have M9 := M3.nm c9 (by omega) (by omega) (by omega)
      have S9 := S3.chg c9 (fun x => by have := x.1; omega) (fun x => by have := x.1; omega)
      have hpc2 : pcs h' g' = fun k => if k = hdl i g0 then none else pcs h g k := by
        rw [hpc]
        funext k
        unfold doP
        rw [if_neg (fun x => by omega), if_pos ⟨he, k6⟩, ek]
      exact ⟨A, p, c, rfl, ⟨_, _, _, _, _, _, S9, M9, by rw [hpc2]; exact (I.go hx).2, stp, by rw [List.length_set], nw', .inl hl, pn, hPL⟩, chW c23 c9⟩
    · have M9 := M2.nm c9 (by omega) (by omega) (by omega)
      have S9 := nmS S2 c9
      have hpc2 : pcs h' g' = pcs h g := by
        rw [hpc]
        funext k
        unfold doP
        rw [if_neg (fun x => by omega), if_neg (fun x => he x.1)]
      exact ⟨A, p, c, rfl, ⟨_, _, _, _, _, _, S9, M9, by rw [hpc2]; exact I, stp, rfl, nw', .inl hl, pn, hPL⟩, chW (Chg.refl _ _) c9⟩
theorem k_tell {o : OpP} {r5 : Bool} {r6 r7 : Int} {kp : Option Addr} {kc : Nat} (ho : o.Ok) {W : World} {s sb m nw hd mu hc lf dn : Nat} {sl : List (Bool × Nat)} {f h : Nat → Option Nat} {g : Nat → Nat → Option Nat} {n : Nat} (S : SlAt W s sb m 1 hc lf dn sl) (M : MoAt W m nw hd mu f h g n) (I : SlInv sl hc lf (pcs h g)) (hmu : mu ≤ 1024) (hn : n ≤ 8796093022000) (hks : KeysAt W kp o.ks) (hkb : ∀ bk off, kp = some ⟨bk, off, none⟩ → bk ≠ s ∧ bk ≠ sb) {B0 : Nat} (hB : s < B0 ∧ sb < B0 ∧ m < B0 ∧ nw < B0 ∧ hd < B0) (hBh : ∀ k b, h k = some b → b < B0) (hBW : B0 ≤ W.heap.size) :
    Calls Try.prog 21 #[.pointer (some ⟨s, 0, none⟩), .agg #[.int .u8 o.kd, .int .u64 (o.k : Int), .int .u64 (o.v : Int), .int .u64 (o.od : Int), .int .u64 (o.hk : Int), .bool r5, .int .i64 r6, .int .i64 r7, .slice kp o.ks.length kc, .int .u64 (o.lo : Int), .int .u64 (o.hi : Int)]] W fun e W' => ∃ A p c, e = .returned (.agg #[.int .i64 A.e, .bool A.f, .int .u64 (A.x : Int), .bool A.d, .int .u64 (A.h : Int), .slice p A.l.length c, .int .u64 (A.n : Int)]) ∧ Out mu o n s sb m nw hd 1 dn sl.length f (pcs h g) B0 (W.heap.size + 2) W' A p ∧ Chg (fun k => k = s ∨ k = sb ∨ k = nw ∨ k = hd) W W' := by
  obtain ⟨⟨a1, a2, a3⟩, ⟨a4, a5, a6⟩, a7⟩ := st_ap S M
  have bl := M.blk
  have hB2 : s < W.heap.size ∧ sb < W.heap.size ∧ m < W.heap.size ∧ nw < W.heap.size ∧ hd < W.heap.size := ⟨lt_of S.st, lt_of S.row, bl.1, bl.2.1, bl.2.2.1⟩
  have fin : ∀ {A : Ans} {p : Option Addr} {w w1 W' : World}, Chg (fun _ => False) W w → W.heap.size + 2 ≤ w.heap.size → Out mu o n s sb m nw hd 1 dn sl.length f (pcs h g) B0 (w.heap.size + 2) w1 A p → Chg (fun k => k = s ∨ k = sb ∨ k = nw ∨ k = hd) w w1 → Chg (fun i => i = W.heap.size + 1) w1 W' → Out mu o n s sb m nw hd 1 dn sl.length f (pcs h g) B0 (W.heap.size + 2) W' A p ∧ Chg (fun k => k = s ∨ k = sb ∨ k = nw ∨ k = hd) W W' := by
    rintro A p w w1 W' cw hz ⟨hc', lf', sl', f', h', g', H⟩ cG c9
    exact ⟨⟨hc', lf', sl', f', h', g', (H.mono (by omega)).chg c9 (fun i hi => by omega) hB⟩, (cw.trans cG (H := fun k => k = s ∨ k = sb ∨ k = nw ∨ k = hd) (fun _ _ x => x.elim) (fun _ _ x => x)).trans c9 (fun _ _ x => x) (fun i hi x => by omega)⟩
  have hG4 : ∀ k, k = s ∨ k = sb ∨ k = nw ∨ k = hd → k < W.heap.size := by intro k x; omega
  by_cases k5 : o.kd = 5
  · refine (tell_5 k5 hG4 (R := fun w w1 A p => Out mu o n s sb m nw hd 1 dn sl.length f (pcs h g) B0 (w.heap.size + 2) w1 A p) (fun w cw => ?_)).mono ?_
    · exact (k_snap ho k5 (S.chg cw (fun x => x) (fun x => x)) (M.quiet cw) I hmu hn (hks.chg cw (fun _ _ _ x => x)) hkb hB hBh (Nat.le_trans hBW cw.size))
    · rintro e W' ⟨A, p, c, w, w1, rfl, cw, hz, hO, cG, c9⟩
      exact ⟨A, p, c, rfl, fin cw hz hO cG c9⟩
  by_cases k6 : o.kd = 6
  · refine (tell_6 k6 hG4 (R := fun w w1 A p => Out mu o n s sb m nw hd 1 dn sl.length f (pcs h g) B0 (w.heap.size + 2) w1 A p) (fun w cw => ?_)).mono ?_
    · exact (k_rel ho k6 (S.chg cw (fun x => x) (fun x => x)) (M.quiet cw) I hmu hn (hks.chg cw (fun _ _ _ x => x)) hkb hB hBh (Nat.le_trans hBW cw.size))
    · rintro e W' ⟨A, p, c, w, w1, rfl, cw, hz, hO, cG, c9⟩
      exact ⟨A, p, c, rfl, fin cw hz hO cG c9⟩
  refine (tell_else k5 k6 S.st (G := fun k => k = nw ∨ k = hd) (by intro k x; omega) (Q := MD mu o n m nw hd 0 f h g) (fun w cw => m_do ho (th := 0) (by omega) (M.quiet cw) hmu hn (hks.chg cw (fun _ _ _ x => x)))).mono ?_
  rintro e W' ⟨A, p, c, w, w1, rfl, cw, hz, hQ, cG, c9⟩
  obtain ⟨h', g', hM, hpc, hnew, hA, hP, hPB, hPL⟩ := hQ.new (fun k b hk => by have := bl.2.2.2 k b hk; omega)
  have H1 : Outs mu o n s sb m nw hd 1 dn sl.length f (pcs h g) B0 (W.heap.size + 2) w1 A p hc lf sl (doF o A f) h' g' :=
    ⟨(S.chg cw (fun x => x) (fun x => x)).chg cG (by omega) (by omega), hM, by rw [hpc, doP_else k5 k6]; exact I, .inr ⟨0, by omega, fun x => absurd x k5, hA, rfl, hpc⟩, rfl, fun k b hk => (hnew k b hk).imp (hBh k b) (fun q => by omega), hP, fun bk off e => by have := hPB bk off e; omega, hPL⟩
  exact ⟨A, p, c, rfl, ⟨_, _, _, _, _, _, H1.chg c9 (fun i hi => by omega) hB⟩, (cw.trans cG (H := fun k => k = s ∨ k = sb ∨ k = nw ∨ k = hd) (fun _ _ x => x.elim) (fun _ _ x => .inr (.inr x))).trans c9 (fun _ _ x => x) (fun i hi x => by omega)⟩
/-- Do. -/
theorem k_do {o : OpP} {r5 : Bool} {r6 r7 : Int} {kp : Option Addr} {kc : Nat} (ho : o.Ok) {W : World} {s sb m nw hd mu hc lf dn : Nat} {sl : List (Bool × Nat)} {f h : Nat → Option Nat} {g : Nat → Nat → Option Nat} {n : Nat} (S : SlAt W s sb m 0 hc lf dn sl) (M : MoAt W m nw hd mu f h g n) (I : SlInv sl hc lf (pcs h g)) (hmu : mu ≤ 1024) (hn : n ≤ 8796093022000) (hks : KeysAt W kp o.ks) (hkb : ∀ bk off, kp = some ⟨bk, off, none⟩ → bk ≠ s ∧ bk ≠ sb) (hdn : dn ≤ 4000000000000000000) :
    Calls Try.prog 6 #[.pointer (some ⟨s, 0, none⟩), .agg #[.int .u8 o.kd, .int .u64 (o.k : Int), .int .u64 (o.v : Int), .int .u64 (o.od : Int), .int .u64 (o.hk : Int), .bool r5, .int .i64 r6, .int .i64 r7, .slice kp o.ks.length kc, .int .u64 (o.lo : Int), .int .u64 (o.hi : Int)]] W fun e W' => ∃ A p c, e = .returned (.tuple #[.agg #[.int .i64 A.e, .bool A.f, .int .u64 (A.x : Int), .bool A.d, .int .u64 (A.h : Int), .slice p A.l.length c, .int .u64 (A.n : Int)], .int .i64 (dn : Int)]) ∧ Out mu o n s sb m nw hd 0 (dn + 1) sl.length f (pcs h g) W.heap.size (W.heap.size + 2) W' A p ∧ Chg (fun k => k = s ∨ k = sb ∨ k = nw ∨ k = hd) W W' := by
  obtain ⟨⟨a1, a2, a3⟩, ⟨a4, a5, a6⟩, a7⟩ := st_ap S M
  have ne := S.ne
  have bl := M.blk
  have ls := lt_of S.st
  have lsb := lt_of S.row
  have hG4 : ∀ k, k = s ∨ k = sb ∨ k = nw ∨ k = hd → k < W.heap.size := by intro k x; omega
  refine (do_go S.st hdn hG4 (R := fun w w1 A p => Out mu o n s sb m nw hd 1 (dn + 1) sl.length f (pcs h g) W.heap.size (w.heap.size + 2) w1 A p) (fun w cw hs => ?_)).mono ?_
  · have S1 : SlAt w s sb m 1 hc lf (dn + 1) sl := ⟨hs, (cw.block sb lsb (Ne.symm ne)).trans S.row, S.len⟩
    have M1 := M.chg cw (Ne.symm a1) (Ne.symm a2) (Ne.symm a3) (fun k b hk => (a7 k b hk).1)
    refine (k_tell ho S1 M1 I hmu hn (hks.chg cw (fun bk off e => (hkb bk off e).1)) hkb ⟨ls, lsb, bl.1, bl.2.1, bl.2.2.1⟩ bl.2.2.2 cw.size).mono ?_
    rintro e w1 ⟨A, p, c, rfl, hO, c1⟩
    obtain ⟨hc', lf', sl', f', h', g', H⟩ := hO
    refine ⟨A, p, c, rfl, ⟨⟨hc', lf', sl', f', h', g', H⟩, hc', lf', ?_⟩, c1⟩
    have := H.sa.st
    rw [H.len] at this
    exact this
  · rintro e W' ⟨A, p, c, w, w1, hc1, lf1, rfl, cw, hz, ⟨hc', lf', sl', f', h', g', H⟩, cG, s9, s1, c9⟩
    obtain ⟨⟨b1, b2, b3⟩, ⟨b4, b5, b6⟩, b7⟩ := st_ap H.sa H.mo
    have es := H.sa.st
    rw [H.len] at es
    have eq := s1.symm.trans es
    simp [stC] at eq
    obtain ⟨e1, e2⟩ := eq
    have e1' : hc1 = hc' := by omega
    have e2' : lf1 = lf' := by omega
    subst e1'
    subst e2'
    have S9 : SlAt W' s sb m 0 hc1 lf1 (dn + 1) sl' := ⟨by rw [H.len]; exact s9, (c9.block sb (lt_of H.sa.row) (by omega)).trans H.sa.row, H.sa.len⟩
    have M9 := H.mo.chg c9 (by omega) (by omega) (by omega) (fun k b hk => by
      have q1 := b7 k b hk
      have q2 := H.new k b hk
      omega)
    refine ⟨A, p, c, rfl, ⟨hc1, lf1, sl', f', h', g', S9, M9, H.inv, H.stp, H.len, fun k b hk => (H.new k b hk).imp id (fun q => by omega), H.prs.chgF c9 (fun bk off e => by have := H.pnew bk off e; omega), fun bk off e => by have := H.pnew bk off e; omega, H.plen⟩, ?_⟩
    exact (cw.trans cG (H := fun k => k = s ∨ k = sb ∨ k = nw ∨ k = hd) (fun _ _ x => .inl x) (fun _ _ x => x)).trans c9 (fun _ _ x => x) (fun i hi x => by omega)
end Go.Proofs.Ytgaincicbgojjaa
