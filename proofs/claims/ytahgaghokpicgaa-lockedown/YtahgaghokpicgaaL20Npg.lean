/- A release, any operation: tell, Do. -/
import Derived.Test.YtahgaghokpicgaaL19KC
import Derived.Test.YtahgaghokpicgaaL12D6x
import Derived.Test.YtahgaghokpicgaaL13K6
import Derived.Test.YtahgaghokpicgaaL1Nd0
import Derived.SizedLaws
import Derived.Test.YtahgaghokpicgaaL16Nw
namespace Go.Proofs.Ytahgaghokpicgaa
open Go.RowKit Go.Maps
set_option linter.unusedVariables false

theorem tellP_6 (mu : Nat) (f : Nat → Option Nat) (pc : Nat → Option (Nat → Option Nat)) (o : OpP) (th : Nat) (h : o.kd = 6) : tellP mu f pc o th = if (pc o.hk).isSome then errA 0 else errA 33 := by
  unfold tellP
  rw [if_neg (by omega), if_neg (by omega), if_neg (by omega), if_pos h]
theorem MoAt.nm {W w1 w2 : World} {m nw hd mu : Nat} {f h : Nat → Option Nat} {g : Nat → Nat → Option Nat} {n : Nat} (H : MoAt w1 m nw hd mu f h g n) (c : Chg (NM W w1) w1 w2) (h1 : m < W.heap.size) (h2 : nw < W.heap.size) (h3 : hd < W.heap.size) : MoAt w2 m nw hd mu f h g n :=
  H.chg c (fun x => by have := x.1; omega) (fun x => by have := x.1; omega) (fun x => by have := x.1; omega) (fun k b hk x => by
    obtain ⟨es, cc, e⟩ := MapR.is (H.pic k b hk)
    exact x.2 es cc e)
theorem k_rel {o : OpP} {r5 : Bool} {r6 r7 : Int} {kp : Option Addr} {kc : Nat} (ho : o.Ok) (k6 : o.kd = 6) {W : World} {s sb m nw hd mu hc lf dn : Nat} {sl : List (Bool × Nat)} {f h : Nat → Option Nat} {g : Nat → Nat → Option Nat} {n : Nat} (S : SlAt W s sb m 1 hc lf dn sl) (M : MoAt W m nw hd mu f h g n) (I : SlInv sl hc lf (pcs h g)) (hmu : mu ≤ 1024) (hn : n ≤ 8796093022000) (hks : KeysAt W kp o.ks) (hkb : ∀ bk off, kp = some ⟨bk, off, none⟩ → o.ks ≠ [] → bk ≠ s ∧ bk ≠ sb) {Z B0 : Nat} (hB : s < B0 ∧ sb < B0 ∧ m < B0 ∧ nw < B0 ∧ hd < B0) (hBh : ∀ k b, h k = some b → Z ≤ b ∧ b < B0) (hBW : B0 ≤ W.heap.size) :
    Calls Try.prog 70 #[.pointer (some ⟨s, 0, none⟩), .agg #[.int .u8 o.kd, .int .u64 (o.k : Int), .int .u64 (o.v : Int), .int .u64 (o.od : Int), .int .u64 (o.hk : Int), .bool r5, .int .i64 r6, .int .i64 r7, .slice kp o.ks.length kc, .int .u64 (o.lo : Int), .int .u64 (o.hi : Int)]] W fun e W' => ∃ A p c, e = .returned (.agg #[.int .i64 A.e, .bool A.f, .int .u64 (A.x : Int), .bool A.d, .int .u64 (A.h : Int), .slice p A.l.length c, .int .u64 (A.n : Int)]) ∧ Out mu o n s sb m nw hd 1 dn sl.length f (pcs h g) Z B0 (W.heap.size + 2) W' A p ∧ Chg (fun k => k = s ∨ k = sb ∨ k = nw ∨ k = hd) W W' := by
  obtain ⟨⟨a1, a2, a3⟩, ⟨a4, a5, a6⟩, a7⟩ := st_ap S M
  have ne := S.ne
  have hG : ∀ k, k = nw ∨ k = hd → k < W.heap.size ∧ k ≠ s := by
    have b1 := M.blk.2.1
    have b2 := M.blk.2.2.1
    intro k x
    omega
  have nmS : ∀ {w1 w2 : World}, SlAt w1 s sb m 1 hc lf dn sl → Chg (NM W w1) w1 w2 → SlAt w2 s sb m 1 hc lf dn sl := fun h c => h.chg c (fun x => by have := x.1; omega) (fun x => by have := x.1; omega)
  refine (rel_go S.st (lt_of S.row) hG (Q := fun w w1 A p => MD mu o n m nw hd 0 f h g w w1 A p ∧ SlAt w1 s sb m 1 hc lf dn sl) (fun w cw => ?_) (L := fun w2 w3 => ∀ i g0, sl[i]? = some (true, g0) → o.hk = hdl i g0 → SlAt w3 s sb m 1 (hc - 1) lf dn (sl.set i (false, g0 + 1))) (fun w w1 A p w2 hQ c12 he => ?_)).mono ?_
  · refine (m_do ho (th := 0) (by omega) (M.quiet cw) hmu hn (hks.chg cw (fun _ _ _ x => x))).mono ?_
    rintro e w1 ⟨A, p, c, rfl, hM, c1⟩
    exact ⟨A, p, c, rfl, ⟨hM, (S.chg cw (fun x => x) (fun x => x)).chg c1 (by omega) (by omega)⟩, c1⟩
  · obtain ⟨cl, hcl, hM, hA, _⟩ := hQ.1
    rw [tellP_6 mu f (pcs h g) o 0 k6] at hA
    have hp : (pcs h g o.hk).isSome = true := by
      cases hq : (pcs h g o.hk).isSome
      · rw [hq] at hA
        simp only [Bool.false_eq_true, if_false] at hA
        rw [hA] at he
        simp [errA] at he
      · rfl
    obtain ⟨i, g0, hx, ek⟩ := (I.pcs o.hk).1 hp
    have hg := (I.gen i true g0 hx).2 rfl
    have S2 := nmS hQ.2 c12
    rw [ek]
    refine (let_go S2 hx hg (I.go hx).1 (Nat.le_trans I.le I.len)).mono ?_
    rintro e w3 ⟨rfl, h3, c3⟩
    refine ⟨rfl, fun j g1 hj ej => ?_, c3⟩
    obtain ⟨e1, e2⟩ := hdl_inj (I.idx hx) (I.idx hj) ej
    subst e1
    subst e2
    exact h3
  · rintro e W' ⟨A, p, c, w, w1, w2, w3, rfl, cw, hz, ⟨hQ, S1⟩, cG, c12, hor, c9⟩
    have z1 := cw.size
    obtain ⟨h', g', hM, hpc, hnew, hA, hP, hPB, hPL⟩ := hQ.new (fun k b hk => by have := hBh k b hk; omega)
    have S2 := nmS S1 c12
    have M2 := hM.nm c12 (by omega) (by omega) (by omega)
    have hA6 := hA.trans (tellP_6 mu f (pcs h g) o 0 k6)
    have hl : A.l = [] := by rw [hA6]; split <;> rfl
    have nw' : ∀ k b, h' k = some b → (Z ≤ b ∧ b < B0) ∨ W.heap.size + 2 ≤ b := fun k b hk => (hnew k b hk).imp (hBh k b) (fun q => by omega)
    have pn : ∀ bk off, p = some ⟨bk, off, none⟩ → W.heap.size + 2 ≤ bk := fun bk off e => by have := hPB bk off e; omega
    have stp : LStep mu o f (pcs h g) A (doF o A f) (pcs h' g') := .inr ⟨0, by omega, fun x => by omega, hA, rfl, hpc⟩
    have chW : ∀ {w3 : World}, Chg (fun k => k = s ∨ k = sb) w2 w3 → Chg (NM W w3) w3 W' → Chg (fun k => k = s ∨ k = sb ∨ k = nw ∨ k = hd) W W' := fun {w3} c23 c9 =>
      ((((cw.trans cG (H := fun k => k = s ∨ k = sb ∨ k = nw ∨ k = hd) (fun _ _ x => x.elim) (fun _ _ x => .inr (.inr x))).trans c12 (H := fun k => k = s ∨ k = sb ∨ k = nw ∨ k = hd) (fun _ _ x => x) (fun i hi x => by have := x.1; omega)).trans c23 (H := fun k => k = s ∨ k = sb ∨ k = nw ∨ k = hd) (fun _ _ x => x) (fun _ _ x => x.elim .inl (fun y => .inr (.inl y)))).trans c9 (fun _ _ x => x) (fun i hi x => by have := x.1; omega))
    rcases hor with ⟨he, hL, c23⟩ | ⟨he, rfl⟩
    · have hp : (pcs h g o.hk).isSome = true := by
        cases hq : (pcs h g o.hk).isSome
        · rw [hq] at hA6
          simp only [Bool.false_eq_true, if_false] at hA6
          rw [hA6] at he
          simp [errA] at he
        · rfl
      obtain ⟨i, g0, hx, ek⟩ := (I.pcs o.hk).1 hp
      have S3 := hL i g0 hx ek
      obtain ⟨b1, b2, b3⟩ := st_ap S2 M2
      have M3 := M2.chg c23 (by omega) (by omega) (by omega) (fun k b hk => by have := b3 k b hk; omega)
      have M9 := M3.nm c9 (by omega) (by omega) (by omega)
      have S9 := S3.chg c9 (fun x => by have := x.1; omega) (fun x => by have := x.1; omega)
      have hpc2 : pcs h' g' = fun k => if k = hdl i g0 then none else pcs h g k := by
        rw [hpc]
        funext k
        unfold doP
        rw [if_neg (fun x => by omega), if_pos ⟨he, k6⟩, ek]
      exact ⟨A, p, c, rfl, ⟨_, _, _, _, _, _, S9, M9, by rw [hpc2]; exact (I.go hx).2, stp, by rw [List.length_set], nw', .inl hl, pn, hPL⟩, chW c23 c9⟩
    · have M9 := M2.nm c9 (by omega) (by omega) (by omega)
      have S9 := nmS S2 c9
      have hpc2 : pcs h' g' = pcs h g := by
        rw [hpc]
        funext k
        unfold doP
        rw [if_neg (fun x => by omega), if_neg (fun x => he x.1)]
      exact ⟨A, p, c, rfl, ⟨_, _, _, _, _, _, S9, M9, by rw [hpc2]; exact I, stp, rfl, nw', .inl hl, pn, hPL⟩, chW (Chg.refl _ _) c9⟩
theorem k_tell {o : OpP} {r5 : Bool} {r6 r7 : Int} {kp : Option Addr} {kc : Nat} (ho : o.Ok) {W : World} {s sb m nw hd mu hc lf dn : Nat} {sl : List (Bool × Nat)} {f h : Nat → Option Nat} {g : Nat → Nat → Option Nat} {n : Nat} (S : SlAt W s sb m 1 hc lf dn sl) (M : MoAt W m nw hd mu f h g n) (I : SlInv sl hc lf (pcs h g)) (hmu : mu ≤ 1024) (hn : n ≤ 8796093022000) (hks : KeysAt W kp o.ks) (hkb : ∀ bk off, kp = some ⟨bk, off, none⟩ → o.ks ≠ [] → bk ≠ s ∧ bk ≠ sb) {Z B0 : Nat} (hB : s < B0 ∧ sb < B0 ∧ m < B0 ∧ nw < B0 ∧ hd < B0) (hBh : ∀ k b, h k = some b → Z ≤ b ∧ b < B0) (hBW : B0 ≤ W.heap.size) :
    Calls Try.prog 41 #[.pointer (some ⟨s, 0, none⟩), .agg #[.int .u8 o.kd, .int .u64 (o.k : Int), .int .u64 (o.v : Int), .int .u64 (o.od : Int), .int .u64 (o.hk : Int), .bool r5, .int .i64 r6, .int .i64 r7, .slice kp o.ks.length kc, .int .u64 (o.lo : Int), .int .u64 (o.hi : Int)]] W fun e W' => ∃ A p c, e = .returned (.agg #[.int .i64 A.e, .bool A.f, .int .u64 (A.x : Int), .bool A.d, .int .u64 (A.h : Int), .slice p A.l.length c, .int .u64 (A.n : Int)]) ∧ Out mu o n s sb m nw hd 1 dn sl.length f (pcs h g) Z B0 (W.heap.size + 2) W' A p ∧ Chg (fun k => k = s ∨ k = sb ∨ k = nw ∨ k = hd) W W' := by
  obtain ⟨⟨a1, a2, a3⟩, ⟨a4, a5, a6⟩, a7⟩ := st_ap S M
  have bl := M.blk
  have hB2 : s < W.heap.size ∧ sb < W.heap.size ∧ m < W.heap.size ∧ nw < W.heap.size ∧ hd < W.heap.size := ⟨lt_of S.st, lt_of S.row, bl.1, bl.2.1, bl.2.2.1⟩
  have fin : ∀ {A : Ans} {p : Option Addr} {w w1 W' : World}, Chg (fun _ => False) W w → W.heap.size + 2 ≤ w.heap.size → Out mu o n s sb m nw hd 1 dn sl.length f (pcs h g) Z B0 (w.heap.size + 2) w1 A p → Chg (fun k => k = s ∨ k = sb ∨ k = nw ∨ k = hd) w w1 → Chg (fun i => i = W.heap.size + 1) w1 W' → Out mu o n s sb m nw hd 1 dn sl.length f (pcs h g) Z B0 (W.heap.size + 2) W' A p ∧ Chg (fun k => k = s ∨ k = sb ∨ k = nw ∨ k = hd) W W' := by
    rintro A p w w1 W' cw hz ⟨hc', lf', sl', f', h', g', H⟩ cG c9
    exact ⟨⟨hc', lf', sl', f', h', g', (H.mono (by omega)).chg c9 (fun i hi => by omega) hB⟩, (cw.trans cG (H := fun k => k = s ∨ k = sb ∨ k = nw ∨ k = hd) (fun _ _ x => x.elim) (fun _ _ x => x)).trans c9 (fun _ _ x => x) (fun i hi x => by omega)⟩
  have hG4 : ∀ k, k = s ∨ k = sb ∨ k = nw ∨ k = hd → k < W.heap.size := by intro k x; omega
  by_cases k5 : o.kd = 5
  · refine (tell_5 k5 hG4 (R := fun w w1 A p => Out mu o n s sb m nw hd 1 dn sl.length f (pcs h g) Z B0 (w.heap.size + 2) w1 A p) (fun w cw => ?_)).mono ?_
    · exact (k_snap ho k5 (S.chg cw (fun x => x) (fun x => x)) (M.quiet cw) I hmu hn (hks.chg cw (fun _ _ _ x => x)) hkb hB hBh (Nat.le_trans hBW cw.size))
    · rintro e W' ⟨A, p, c, w, w1, rfl, cw, hz, hO, cG, c9⟩
      exact ⟨A, p, c, rfl, fin cw hz hO cG c9⟩
  by_cases k6 : o.kd = 6
  · refine (tell_6 k6 hG4 (R := fun w w1 A p => Out mu o n s sb m nw hd 1 dn sl.length f (pcs h g) Z B0 (w.heap.size + 2) w1 A p) (fun w cw => ?_)).mono ?_
    · exact (k_rel ho k6 (S.chg cw (fun x => x) (fun x => x)) (M.quiet cw) I hmu hn (hks.chg cw (fun _ _ _ x => x)) hkb hB hBh (Nat.le_trans hBW cw.size))
    · rintro e W' ⟨A, p, c, w, w1, rfl, cw, hz, hO, cG, c9⟩
      exact ⟨A, p, c, rfl, fin cw hz hO cG c9⟩
  refine (tell_else k5 k6 S.st (G := fun k => k = nw ∨ k = hd) (by intro k x; omega) (Q := MD mu o n m nw hd 0 f h g) (fun w cw => m_do ho (th := 0) (by omega) (M.quiet cw) hmu hn (hks.chg cw (fun _ _ _ x => x)))).mono ?_
  rintro e W' ⟨A, p, c, w, w1, rfl, cw, hz, hQ, cG, c9⟩
  obtain ⟨h', g', hM, hpc, hnew, hA, hP, hPB, hPL⟩ := hQ.new (fun k b hk => by have := bl.2.2.2 k b hk; omega)
  have H1 : Outs mu o n s sb m nw hd 1 dn sl.length f (pcs h g) Z B0 (W.heap.size + 2) w1 A p hc lf sl (doF o A f) h' g' :=
    ⟨(S.chg cw (fun x => x) (fun x => x)).chg cG (by omega) (by omega), hM, by rw [hpc, doP_else k5 k6]; exact I, .inr ⟨0, by omega, fun x => absurd x k5, hA, rfl, hpc⟩, rfl, fun k b hk => (hnew k b hk).imp (hBh k b) (fun q => by omega), hP, fun bk off e => by have := hPB bk off e; omega, hPL⟩
  exact ⟨A, p, c, rfl, ⟨_, _, _, _, _, _, H1.chg c9 (fun i hi => by omega) hB⟩, (cw.trans cG (H := fun k => k = s ∨ k = sb ∨ k = nw ∨ k = hd) (fun _ _ x => x.elim) (fun _ _ x => .inr (.inr x))).trans c9 (fun _ _ x => x) (fun i hi x => by omega)⟩
/-- Do. -/
theorem k_do {o : OpP} {r5 : Bool} {r6 r7 : Int} {kp : Option Addr} {kc : Nat} (ho : o.Ok) {W : World} {s sb m nw hd mu hc lf dn : Nat} {sl : List (Bool × Nat)} {f h : Nat → Option Nat} {g : Nat → Nat → Option Nat} {n : Nat} (S : SlAt W s sb m 0 hc lf dn sl) (M : MoAt W m nw hd mu f h g n) (I : SlInv sl hc lf (pcs h g)) (hmu : mu ≤ 1024) (hn : n ≤ 8796093022000) (hks : KeysAt W kp o.ks) (hkb : ∀ bk off, kp = some ⟨bk, off, none⟩ → o.ks ≠ [] → bk ≠ s ∧ bk ≠ sb) (hdn : dn ≤ 4000000000000000000) {Z : Nat} (hZ : ∀ k b, h k = some b → Z ≤ b) :
    Calls Try.prog 12 #[.pointer (some ⟨s, 0, none⟩), .agg #[.int .u8 o.kd, .int .u64 (o.k : Int), .int .u64 (o.v : Int), .int .u64 (o.od : Int), .int .u64 (o.hk : Int), .bool r5, .int .i64 r6, .int .i64 r7, .slice kp o.ks.length kc, .int .u64 (o.lo : Int), .int .u64 (o.hi : Int)]] W fun e W' => ∃ A p c, e = .returned (.tuple #[.agg #[.int .i64 A.e, .bool A.f, .int .u64 (A.x : Int), .bool A.d, .int .u64 (A.h : Int), .slice p A.l.length c, .int .u64 (A.n : Int)], .int .i64 (dn : Int)]) ∧ Out mu o n s sb m nw hd 0 (dn + 1) sl.length f (pcs h g) Z W.heap.size (W.heap.size + 2) W' A p ∧ Chg (fun k => k = s ∨ k = sb ∨ k = nw ∨ k = hd) W W' := by
  obtain ⟨⟨a1, a2, a3⟩, ⟨a4, a5, a6⟩, a7⟩ := st_ap S M
  have ne := S.ne
  have bl := M.blk
  have ls := lt_of S.st
  have lsb := lt_of S.row
  have hG4 : ∀ k, k = s ∨ k = sb ∨ k = nw ∨ k = hd → k < W.heap.size := by intro k x; omega
  refine (do_go S.st hdn hG4 (R := fun w w1 A p => Out mu o n s sb m nw hd 1 (dn + 1) sl.length f (pcs h g) Z W.heap.size (w.heap.size + 2) w1 A p) (fun w cw hs => ?_)).mono ?_
  · have S1 : SlAt w s sb m 1 hc lf (dn + 1) sl := ⟨hs, (cw.block sb lsb (Ne.symm ne)).trans S.row, S.len⟩
    have M1 := M.chg cw (Ne.symm a1) (Ne.symm a2) (Ne.symm a3) (fun k b hk => (a7 k b hk).1)
    refine (k_tell ho S1 M1 I hmu hn (hks.chgE cw (fun bk off e e2 => (hkb bk off e e2).1)) hkb ⟨ls, lsb, bl.1, bl.2.1, bl.2.2.1⟩ (fun k b hk => ⟨hZ k b hk, bl.2.2.2 k b hk⟩) cw.size).mono ?_
    rintro e w1 ⟨A, p, c, rfl, hO, c1⟩
    obtain ⟨hc', lf', sl', f', h', g', H⟩ := hO
    refine ⟨A, p, c, rfl, ⟨⟨hc', lf', sl', f', h', g', H⟩, hc', lf', ?_⟩, c1⟩
    have := H.sa.st
    rw [H.len] at this
    exact this
  · rintro e W' ⟨A, p, c, w, w1, hc1, lf1, rfl, cw, hz, ⟨hc', lf', sl', f', h', g', H⟩, cG, s9, s1, c9⟩
    obtain ⟨⟨b1, b2, b3⟩, ⟨b4, b5, b6⟩, b7⟩ := st_ap H.sa H.mo
    have es := H.sa.st
    rw [H.len] at es
    have eq := s1.symm.trans es
    simp [stC] at eq
    obtain ⟨e1, e2⟩ := eq
    have e1' : hc1 = hc' := by omega
    have e2' : lf1 = lf' := by omega
    subst e1'
    subst e2'
    have S9 : SlAt W' s sb m 0 hc1 lf1 (dn + 1) sl' := ⟨by rw [H.len]; exact s9, (c9.block sb (lt_of H.sa.row) (by omega)).trans H.sa.row, H.sa.len⟩
    have M9 := H.mo.chg c9 (by omega) (by omega) (by omega) (fun k b hk => by
      have q1 := b7 k b hk
      have q2 := H.new k b hk
      omega)
    refine ⟨A, p, c, rfl, ⟨hc1, lf1, sl', f', h', g', S9, M9, H.inv, H.stp, H.len, fun k b hk => (H.new k b hk).imp id (fun q => by omega), H.prs.chgF c9 (fun bk off e => by have := H.pnew bk off e; omega), fun bk off e => by have := H.pnew bk off e; omega, H.plen⟩, ?_⟩
    exact (cw.trans cG (H := fun k => k = s ∨ k = sb ∨ k = nw ∨ k = hd) (fun _ _ x => .inl x) (fun _ _ x => x)).trans c9 (fun _ _ x => x) (fun i hi x => by omega)
end Go.Proofs.Ytahgaghokpicgaa
/- New; Content under the lock. -/
namespace Go.Proofs.Ytahgaghokpicgaa
open Go.RowKit Go.Maps Go.MuLone
set_option linter.unusedVariables false

set_option maxRecDepth 100000 in
theorem new_gg (mu : Nat) (h1 : 1 ≤ mu) (h2 : mu ≤ 1024) (W : World) : Calls Try.prog 18 #[.int .i64 (mu : Int)] W fun e W' => e = .returned (.tuple #[.pointer (some ⟨W.heap.size + 2, 0, none⟩), .int .i64 0]) ∧ MoAt W' (W.heap.size + 2) W.heap.size (W.heap.size + 1) mu (fun _ => none) (fun _ => none) (fun _ _ => none) 0 ∧ Chg (fun _ => False) W W' := by
  have hmm := @run_makeMap Try.prog
  have q1 : ¬ (mu : Int) < 1 := by omega
  have q2 : ¬ (mu : Int) > 1024 := by omega
  have q3 : ¬ (1024 : Int) < (mu : Int) := by omega
  go_enter Try.func18, Try.ntmps18
  go_wp2_with fail
  go_ret2
  refine ⟨by simp, ⟨?_, ?_, ?_, fun k b hb => by simp at hb, by omega, by omega, by omega, fun k b hb => by simp at hb⟩, (((Chg.refl _ _).alloc _).alloc _).alloc _⟩
  · have e := heap_alloc_new ((W.alloc (.map #[] 0)).alloc (.map #[] 0)) (.cells #[.int .i64 (mu : Int), .map (some W.heap.size), .map (some (W.heap.size + 1))] 101)
    rw [World.size_alloc, World.size_alloc] at e
    simpa using e
  · exact MapR.chg (F := fun _ => False) (MapR.made _ _ _ W) (((Chg.refl _ _).alloc _).alloc _) (fun x => x)
  · have e := MapR.made heldM elH (fun _ => True) (W.alloc (.map #[] 0))
    rw [World.size_alloc] at e
    exact MapR.chg (F := fun _ => False) e ((Chg.refl _ _).alloc _) (fun x => x)
structure Fresh (B : Nat) (s sb m nw hd : Nat) : Prop where
  s : B ≤ s
  sb : B ≤ sb
  m : B ≤ m
  nw : B ≤ nw
  hd : B ≤ hd
set_option maxRecDepth 100000 in
set_option maxHeartbeats 1000000 in
theorem k_new (a : Int) (N st mu : Nat) (h : takesP a (N : Int) (st : Int) = true) (m1 : 1 ≤ mu) (m2 : mu ≤ 1024) (W : World) : Calls Try.prog 9 #[.agg #[.int .i64 a, .int .i64 (N : Int), .int .u64 (st : Int), .int .i64 (mu : Int)]] W fun e W' => ∃ s sb m nw hd, e = .returned (.tuple #[.pointer (some ⟨s, 0, none⟩), .int .i64 0]) ∧ SlAt W' s sb m 0 0 (st - 1) 0 (List.replicate N (false, 0)) ∧ MoAt W' m nw hd mu (fun _ => none) (fun _ => none) (fun _ _ => none) 0 ∧ Fresh W.heap.size s sb m nw hd ∧ Chg (fun _ => False) W W' := by
  have hb : N ≤ 256 ∧ 1 ≤ st ∧ st ≤ 1099511627776 := by
    unfold takesP at h
    simp at h
    omega
  obtain ⟨w0, hw0⟩ : ∃ w0, w0 = W.alloc (.cells #[.int .i64 a, .int .i64 (N : Int), .int .u64 (st : Int), .int .i64 (mu : Int)] 47) := ⟨_, rfl⟩
  have C0 : Chg (fun _ => False) W w0 := by rw [hw0]; exact (Chg.refl _ _).alloc _
  have o0 : w0.heap[W.heap.size]? = some (.cells #[.int .i64 a, .int .i64 (N : Int), .int .u64 (st : Int), .int .i64 (mu : Int)] 47 (0, 0)) := by rw [hw0]; exact heap_alloc_new _ _
  have c0 := cell_of o0 0
  have c1 := cell_of o0 1
  have c2 := cell_of o0 2
  have c3 := cell_of o0 3
  have HO := keepH o0
  have HC := keepH C0
  have HT := keepH (k_takes a (N : Int) (st : Int) (mu : Int) w0)
  rw [h] at HT
  have HB := keepH hb
  have HM : Hid (1 ≤ mu ∧ mu ≤ 1024) := ⟨m1, m2⟩
  clear o0 C0 h hb m1 m2
  go_enter Try.func9, Try.ntmps9
  go_upto_region 1 with fail
  rw [← hw0]
  clear hw0
  go_wp2_with fail
  refine HT.out.mono ?_
  rintro e w1 ⟨rfl, C1⟩
  have HO1 := keepH ((C1.block _ (lt_of HO.out) (fun x => x)).trans HO.out)
  have d3 : w1.cell? ⟨W.heap.size, 3, none⟩ = some (.int .i64 (mu : Int)) := by rw [cell_of HO1.out]; rfl
  have HC1 := keepH (HC.out.trans C1 (H := fun _ => False) (fun _ _ x => x) (fun _ _ x => x))
  clear C1 c0 c1 c2 c3
  go_wp2_with fail
  refine (new_gg mu HM.out.1 HM.out.2 _).mono ?_
  rintro e w2 ⟨rfl, M2, C2⟩
  have HO2 := keepH ((C2.block _ (lt_of HO1.out) (fun x => x)).trans HO1.out)
  have HC2 := keepH (HC1.out.trans C2 (H := fun _ => False) (fun _ _ x => x) (fun _ _ x => x))
  have HM2 := keepH M2
  have HZ1 : Hid (W.heap.size ≤ w1.heap.size) := HC1.out.size
  obtain ⟨m, hm⟩ : ∃ m, m = w1.heap.size + 2 := ⟨_, rfl⟩
  have HMM := keepH hm
  rw [← hm] at HM2 ⊢
  clear C2 M2 d3 hm
  have c0 := cell_of HO2.out 0
  have c1 := cell_of HO2.out 1
  have c2 := cell_of HO2.out 2
  have c3 := cell_of HO2.out 3
  go_wp2_with fail
  refine (k_slots HB.out.1 HB.out.2.1 HB.out.2.2 _).mono ?_
  rintro e w3 ⟨sb, rfl, hsb, r3, C3⟩
  obtain ⟨w4, hw4⟩ : ∃ w4, w4 = w3.alloc (.cells (stC 0 m sb N 0 (st - 1) 0) 92) := ⟨_, rfl⟩
  have HE : Hid (SlAt w4 w3.heap.size sb m 0 0 (st - 1) 0 (List.replicate N (false, 0)) ∧ MoAt w4 m w1.heap.size (w1.heap.size + 1) mu (fun _ => none) (fun _ => none) (fun _ _ => none) 0 ∧ Fresh W.heap.size w3.heap.size sb m w1.heap.size (w1.heap.size + 1) ∧ Chg (fun _ => False) W w4) := by
    have z1 := HZ1.out
    have z2 := HMM.out
    have z3 := HC2.out.size
    have z4 := C3.size
    refine ⟨⟨?_, ?_, by have := HB.out; simpa using this.1⟩, ?_, ⟨by omega, by omega, by omega, by omega, by omega⟩, ?_⟩
    · rw [hw4, List.length_replicate]; exact heap_alloc_new _ _
    · rw [hw4]; exact alloc_of r3 _
    · rw [hw4]; exact (HM2.out.quiet C3).quiet ((Chg.refl _ _).alloc _)
    · rw [hw4]; exact (HC2.out.trans C3 (H := fun _ => False) (fun _ _ x => x) (fun _ _ x => x)).alloc _
  have HW4 := keepH hw4
  clear hsb r3 C3 hw4 c0 c1 c2 c3
  go_wp2_with fail
  go_ret2
  have q := HE.out
  rw [HW4.out] at q
  exact ⟨w3.heap.size, sb, m, w1.heap.size, w1.heap.size + 1, rfl, q.1, q.2.1, q.2.2.1, q.2.2.2⟩
set_option maxRecDepth 100000 in
set_option maxHeartbeats 1000000 in
theorem k_content {W : World} {s sb m nw hd mu hc lf dn : Nat} {sl : List (Bool × Nat)} {f h : Nat → Option Nat} {g : Nat → Nat → Option Nat} {n : Nat} (S : SlAt W s sb m 0 hc lf dn sl) (M : MoAt W m nw hd mu f h g n) (hn : n ≤ 8796093022000) :
    Calls Try.prog 14 #[.pointer (some ⟨s, 0, none⟩)] W fun e W' => (∃ p c l, e = .returned (.slice p l.length c) ∧ Lists f 0 18446744073709551615 l ∧ OPairs W' p c l ∧ (∀ bk off, p = some ⟨bk, off, none⟩ → W.heap.size ≤ bk) ∧ l.length ≤ n) ∧ SlAt W' s sb m 0 hc lf dn sl ∧ MoAt W' m nw hd mu f h g n ∧ Chg (fun k => k = s) W W' := by
  obtain ⟨⟨a1, a2, a3⟩, ⟨a4, a5, a6⟩, a7⟩ := st_ap S M
  have ne := S.ne
  have ls := lt_of S.st
  obtain ⟨w1, hw1⟩ : ∃ w1, w1 = W.setCell ⟨s, 0, none⟩ (.int .i32 1) := ⟨_, rfl⟩
  have s1 : w1.heap[s]? = some (.cells (stC 1 m sb sl.length hc lf dn) 92 (0, 0)) := by rw [hw1]; exact set_of S.st 0 _
  have C1 : Chg (fun k => k = s) W w1 := by rw [hw1]; exact (Chg.refl (fun k => k = s) W).setCell (p := ⟨s, 0, none⟩) (fun _ => rfl) _
  have M1 := M.chg C1 (Ne.symm a1) (Ne.symm a2) (Ne.symm a3) (fun k b hk => (a7 k b hk).1)
  have HE : Hid (∀ z p c l, Chg (fun _ => False) w1 z → OPairs z p c l → (∀ bk off, p = some ⟨bk, off, none⟩ → w1.heap.size ≤ bk) → z.cell? ⟨s, 0, none⟩ = some (.int .i32 1) ∧ z.frozen? ⟨s, 0, none⟩ = false ∧ Hid (OPairs (z.setCell ⟨s, 0, none⟩ (.int .i32 0)) p c l ∧ (∀ bk off, p = some ⟨bk, off, none⟩ → W.heap.size ≤ bk) ∧ SlAt (z.setCell ⟨s, 0, none⟩ (.int .i32 0)) s sb m 0 hc lf dn sl ∧ MoAt (z.setCell ⟨s, 0, none⟩ (.int .i32 0)) m nw hd mu f h g n ∧ Chg (fun k => k = s) W (z.setCell ⟨s, 0, none⟩ (.int .i32 0)))) := by
    intro z p c l cz hp hpb
    have sz := (cz.block s (lt_of s1) (fun x => x)).trans s1
    have c9 : Chg (fun k => k = s) z (z.setCell ⟨s, 0, none⟩ (.int .i32 0)) := (Chg.refl (fun k => k = s) z).setCell (p := ⟨s, 0, none⟩) (fun _ => rfl) _
    have z1 := C1.size
    have ls1 := lt_of s1
    refine ⟨cell_of sz 0, free_of sz 0, hp.chgF c9 (fun bk off e => by have := hpb bk off e; omega), fun bk off e => by have := hpb bk off e; omega, ⟨set_of sz 0 _, ?_, S.len⟩, ?_, ?_⟩
    · exact other_of ((cz.block sb (Nat.lt_of_lt_of_le (lt_of S.row) z1) (fun x => x)).trans ((C1.block sb (lt_of S.row) (Ne.symm ne)).trans S.row)) (Ne.symm ne) _
    · exact (M1.quiet cz).chg c9 (Ne.symm a1) (Ne.symm a2) (Ne.symm a3) (fun k b hk => (a7 k b hk).1)
    · exact (C1.trans cz (H := fun k => k = s) (fun _ _ x => x) (fun _ _ x => x.elim)).trans c9 (fun _ _ x => x) (fun _ _ x => x)
  have HLK := keepH (lock_free muLib ⟨s, 0, none⟩ W (cell_of S.st 0) (free_of S.st 0))
  have HMC := keepH (m_content M1 hn)
  have c2 : w1.cell? ⟨s, 2, none⟩ = some (.pointer (some ⟨m, 0, none⟩)) := cell_of s1 2
  have HW1 := keepH hw1
  clear S M s1 C1 M1 hw1 ls
  go_enter_defers Try.func14, Try.ntmps14
  go_upto_region 5 with (go_at_call 39; refine HLK.out.mono ?_; rintro e w' ⟨rfl, hw'⟩; rw [← HW1.out] at hw'; subst hw')
  go_wp2_with fail
  refine HMC.out.mono ?_
  rintro e z ⟨⟨p, c, l, rfl, hL, hP, hPB, hPL⟩, cz⟩
  obtain ⟨l0, lz, HZ⟩ := HE.out z p c l cz hP hPB
  have HUL := keepH (unlock_deferred muLib ⟨s, 0, none⟩ .returning z l0 lz)
  have HL : Hid (Lists f 0 18446744073709551615 l ∧ l.length ≤ n) := ⟨hL, hPL⟩
  clear hL hP hPB hPL cz c2 l0 lz
  go_wp2_with fail
  refine leaves_cons (f := 40) (args := #[.pointer (some ⟨s, 0, none⟩)]) (by simp) (by simp [go_sem]) ?_
  refine HUL.out.mono ?_
  rintro e u' w'' ⟨rfl, rfl, rfl⟩
  exact ⟨_, results_tmp rfl _ _ _, ⟨p, c, l, rfl, HL.out.1, HZ.out.1, HZ.out.2.1, HL.out.2⟩, HZ.out.2.2.1, HZ.out.2.2.2.1, HZ.out.2.2.2.2⟩
end Go.Proofs.Ytahgaghokpicgaa
/- What must be whatever is asked (layer 25). -/
namespace Go.Proofs.Ytahgaghokpicgaa
open Go.RowKit Go.Maps
set_option linter.unusedVariables false

def oPut : OpP := ⟨2, 7, 1, 0, 0, [], 0, 0⟩
def oGet : OpP := ⟨1, 7, 0, 0, 0, [], 0, 0⟩
theorem oPut_ok : oPut.Ok := ⟨by decide, by decide, by decide, by decide, by decide, by decide⟩
theorem oGet_ok : oGet.Ok := ⟨by decide, by decide, by decide, by decide, by decide, by decide⟩
structure Live (W0 W : World) (s sb m nw hd dn : Nat) (f : Nat → Option Nat) : Prop where
  st : ∃ hc lf sl h g n, SlAt W s sb m 0 hc lf dn sl ∧ MoAt W m nw hd 4 f h g n ∧ SlInv sl hc lf (pcs h g) ∧ n ≤ dn
  fr : Fresh W0.heap.size s sb m nw hd
  ch : Chg (fun _ => False) W0 W
theorem Live.alloc {W0 W : World} {s sb m nw hd dn : Nat} {f : Nat → Option Nat} (h : Live W0 W s sb m nw hd dn f) (x : Obj) : Live W0 (W.alloc x) s sb m nw hd dn f := by
  obtain ⟨⟨hc, lf, sl, h1, g, n, a, b, c, d⟩, e, i⟩ := h
  exact ⟨⟨hc, lf, sl, h1, g, n, a.chg ((Chg.refl (fun _ => False) W).alloc _) (fun x => x) (fun x => x), b.quiet ((Chg.refl (fun _ => False) W).alloc _), c, d⟩, e, i.alloc _⟩
theorem live_put {W0 W : World} {s sb m nw hd dn : Nat} {f : Nat → Option Nat} (H : Live W0 W s sb m nw hd dn f) (hdn : dn ≤ 5) :
    Calls Try.prog 12 #[.pointer (some ⟨s, 0, none⟩), .agg #[.int .u8 2, .int .u64 7, .int .u64 1, .int .u64 0, .int .u64 0, .bool false, .int .i64 0, .int .i64 0, .slice none 0 0, .int .u64 0, .int .u64 0]] W fun e W' => (∃ (b : Bool) (x : Nat) (p : Option Addr) (c : Nat), e = .returned (.tuple #[.agg #[.int .i64 0, .bool b, .int .u64 (x : Int), .bool false, .int .u64 0, .slice p 0 c, .int .u64 0], .int .i64 (dn : Int)])) ∧ ∃ f', Live W0 W' s sb m nw hd (dn + 1) f' ∧ f' 7 = some 1 := by
  obtain ⟨⟨hc, lf, sl, h1, g, n, S, M, I, hn⟩, fr, ch⟩ := H
  refine (k_do (o := oPut) (r5 := false) (r6 := 0) (r7 := 0) (kp := none) (kc := 0) oPut_ok S M I (by omega) (by omega) (.inl rfl) (fun bk off e _ => by cases e) (by omega) (Z := 0) (fun _ _ _ => Nat.zero_le _)).mono ?_
  rintro e W' ⟨A, p, c, rfl, ⟨hc', lf', sl', f', h', g', O⟩, cc⟩
  have hA : A = ⟨0, (f 7).isSome, (f 7).getD 0, false, 0, [], 0⟩ ∧ f' = updO f 7 (some 1) := by
    rcases O.stp with ⟨k5, _⟩ | ⟨th, _, _, hA, hf, _⟩
    · exact absurd k5 (by decide)
    · have e : tellP 4 f (pcs h1 g) oPut th = ⟨0, (f 7).isSome, (f 7).getD 0, false, 0, [], 0⟩ := by simp [tellP, oPut]
      refine ⟨hA.trans e, ?_⟩
      rw [hf, hA.trans e]
      simp [doF, oPut]
  obtain ⟨eA, ef⟩ := hA
  subst eA
  refine ⟨⟨(f 7).isSome, (f 7).getD 0, p, c, rfl⟩, f', ⟨⟨hc', lf', sl', h', g', n + 1, O.sa, O.mo, O.inv, ?_⟩, fr, ch.trans cc (fun _ _ x => x) (fun i hi x => ?_)⟩, by rw [ef, updO_same]⟩
  · omega
  · have := fr.s; have := fr.sb; have := fr.nw; have := fr.hd; omega
theorem live_get {W0 W : World} {s sb m nw hd dn : Nat} {f : Nat → Option Nat} (H : Live W0 W s sb m nw hd dn f) (hf : f 7 = some 1) (hdn : dn ≤ 5) :
    Calls Try.prog 12 #[.pointer (some ⟨s, 0, none⟩), .agg #[.int .u8 1, .int .u64 7, .int .u64 0, .int .u64 0, .int .u64 0, .bool false, .int .i64 0, .int .i64 0, .slice none 0 0, .int .u64 0, .int .u64 0]] W fun e W' => (∃ (p : Option Addr) (c : Nat), e = .returned (.tuple #[.agg #[.int .i64 0, .bool true, .int .u64 1, .bool false, .int .u64 0, .slice p 0 c, .int .u64 0], .int .i64 (dn : Int)])) ∧ ∃ f', Live W0 W' s sb m nw hd (dn + 1) f' := by
  obtain ⟨⟨hc, lf, sl, h1, g, n, S, M, I, hn⟩, fr, ch⟩ := H
  refine (k_do (o := oGet) (r5 := false) (r6 := 0) (r7 := 0) (kp := none) (kc := 0) oGet_ok S M I (by omega) (by omega) (.inl rfl) (fun bk off e _ => by cases e) (by omega) (Z := 0) (fun _ _ _ => Nat.zero_le _)).mono ?_
  rintro e W' ⟨A, p, c, rfl, ⟨hc', lf', sl', f', h', g', O⟩, cc⟩
  have hA : A = ⟨0, true, 1, false, 0, [], 0⟩ := by
    rcases O.stp with ⟨k5, _⟩ | ⟨th, _, _, hA, hf', _⟩
    · exact absurd k5 (by decide)
    · rw [hA]
      simp [tellP, oGet, hf]
  subst hA
  refine ⟨⟨p, c, rfl⟩, f', ⟨⟨hc', lf', sl', h', g', n + 1, O.sa, O.mo, O.inv, ?_⟩, fr, ch.trans cc (fun _ _ x => x) (fun i hi x => ?_)⟩⟩
  · omega
  · have := fr.s; have := fr.sb; have := fr.nw; have := fr.hd; omega
set_option maxRecDepth 100000 in
theorem cfg_25 (W : World) : Calls Try.prog 10 #[] W fun e W' => e = .returned (.agg #[.int .i64 2000, .int .i64 2, .int .u64 100, .int .i64 4]) ∧ Chg (fun _ => False) W W' := by
  have h0 : (W.alloc (.cells #[.int .i64 2000, .int .i64 2, .int .u64 100, .int .i64 4] 47)).heap[W.heap.size]? = some (.cells #[.int .i64 2000, .int .i64 2, .int .u64 100, .int .i64 4] 47 (0, 0)) := heap_alloc_new _ _
  have c0 := cell_of h0 0
  have c1 := cell_of h0 1
  have c2 := cell_of h0 2
  have c3 := cell_of h0 3
  clear h0
  go_enter Try.func10, Try.ntmps10
  go_wp2_with fail
  refine bodyPost_ret (v := .agg #[.int .i64 2000, .int .i64 2, .int .u64 100, .int .i64 4]) (by simp [results, Try.results10, go_sem, c0, c1, c2, c3]) rfl ?_
  exact ⟨rfl, (Chg.refl _ _).alloc _⟩
set_option maxRecDepth 100000 in
set_option maxHeartbeats 1000000 in
theorem live_25 (W : World) : Calls Try.prog 15 #[] W fun e W' => e = .returned (.bool true) ∧ Chg (fun _ => False) W W' := by
  go_enter Try.func15, Try.ntmps15
  go_wp2_with fail
  refine (cfg_25 W).mono ?_
  rintro e w0 ⟨rfl, C0⟩
  have HC0 := keepH C0
  have HN := keepH (k_new 2000 2 100 4 (by decide) (by omega) (by omega) w0)
  clear C0
  go_wp2_with fail
  refine HN.out.mono ?_
  rintro e w1 ⟨s, sb, m, nw, hd, rfl, S, M, fr, C1⟩
  have HL1 : Hid (Live w0 w1 s sb m nw hd 0 (fun _ => none)) := ⟨⟨_, _, _, _, _, 0, S, M, SlInv.start 2 99 (by omega) (by omega), Nat.le_refl _⟩, fr, C1⟩
  clear S M fr C1 HN
  go_wp2_with fail
  refine (live_put HL1.out (by omega)).mono ?_
  rintro e w2 ⟨⟨b, x, p, c, rfl⟩, f2, L2, hf2⟩
  have HL2 := keepH L2
  have HF2 := keepH hf2
  clear L2 hf2 HL1
  go_wp2_with fail
  refine (live_get (HL2.out.alloc _) HF2.out (by omega)).mono ?_
  rintro e w3 ⟨⟨p3, c3, rfl⟩, f3, L3⟩
  have HC3 : Hid (Chg (fun _ => False) W w3) := HC0.out.trans L3.ch (fun _ _ x => x) (fun _ _ x => x)
  clear L3 HL2 HF2 HC0
  go_wp2_with fail
  go_ret
  exact ⟨by simp, HC3.out.alloc _⟩
end Go.Proofs.Ytahgaghokpicgaa
/- The store behind a lock beside the document's: New, Content, what stays. -/
namespace Go.Proofs.Ytahgaghokpicgaa
open Go.RowKit Go.Maps
set_option linter.unusedVariables false
set_option linter.unusedSimpArgs false

theorem r25_any {A : Nat → Prop} {W : World} {s m G D : Nat} {c0 : Int} {N st : Nat} {mu : Int} {tk n : Nat} {g : Nat → Option Nat} {l : List (Nat × Nat)} {H : HeldL} (R5 : R25 A W s m G D c0 N st mu tk n g l H) (hN : N ≤ 256) (hst : 1 ≤ st ∧ st ≤ 4000000) (htk : tk ≤ st) (hgl : l.length ≤ 4398046510000) (hb : ∀ z ∈ H, z.2.2.length ≤ 4398046510000) (hA : ∀ b, A b → b < W.heap.size)
    {k x hk9 : Nat} (hk : k < 18446744073709551616) (hx : x < 18446744073709551616) {kd od r6 r7 : Int} {r5 : Bool} {kp : Option Addr} {kn kc lo hi : Nat} {ks : List Nat} (hks : KeysAt W kp ks) (hkl : mu ≤ 4398046510000) (hkn : kn = ks.length) (hkb : ∀ bk off, kp = some ⟨bk, off, none⟩ → ks ≠ [] → bk ≠ s ∧ bk ≠ m ∧ bk ≠ G ∧ bk ≠ D) (hn9 : n ≤ 4000000000000000000) :
    Calls Try.prog 13 #[.pointer (some ⟨s, 0, none⟩), .agg #[.int .u8 kd, .int .u64 (k : Int), .int .u64 (x : Int), .int .u64 od, .int .u64 (hk9 : Int), .bool r5, .int .i64 r6, .int .i64 r7, .slice kp kn kc, .int .u64 (lo : Int), .int .u64 (hi : Int)]] W fun e W' => (∃ v, e = .returned v) ∧ Left25 A W s m G D c0 N st mu (n + 1) tk (stepG kd g k x od) l H W' := by
  by_cases n5 : kd = 5
  · subst n5
    rw [stepG_else (by decide) (by decide) (by decide)]
    exact r25_do5 R5 hN hst htk hgl hb hA hk hx hks hkl hkn hkb hn9
  by_cases n6 : kd = 6
  · subst n6
    exact r25_do6 R5 hN hst htk hgl hb hA hk hx hks hkl hkn hkb hn9
  · exact r25_dox R5 hN hst htk hgl hb hA hk hx hks hkl hkn hkb hn9 n5 n6
theorem r25_cont {A : Nat → Prop} {W : World} {s m G D : Nat} {c0 : Int} {N st : Nat} {mu : Int} {tk n : Nat} {g : Nat → Option Nat} {l : List (Nat × Nat)} {H : HeldL} (R5 : R25 A W s m G D c0 N st mu tk n g l H) :
    Calls Try.prog 17 #[.pointer (some ⟨s, 0, none⟩)] W fun e W' => (∃ p c, e = .returned (.slice p l.length c) ∧ PairsAt W' p l) ∧ Lists g 0 18446744073709551615 l ∧ Chg (fun _ => False) W W' := by
  obtain ⟨mv, hv, Z, h1, h2, h3, h4, h5⟩ := R5.mod.ex
  refine (r25_content R5.at_ h1 h2).mono ?_
  rintro e W' ⟨rfl, c⟩
  obtain ⟨p, cc, rfl, hP, -⟩ := (h2.quiet c).row.slice
  exact ⟨⟨p, cc, rfl, hP⟩, h2.ls, c⟩
theorem R25.avoid {A A' : Nat → Prop} {W : World} {s m G D : Nat} {c0 : Int} {N st : Nat} {mu : Int} {tk n : Nat} {g : Nat → Option Nat} {l : List (Nat × Nat)} {H : HeldL} (h : R25 A W s m G D c0 N st mu tk n g l H) (hA : ∀ b, A' b → W.heap.size ≤ b) : R25 A' W s m G D c0 N st mu tk n g l H :=
  ⟨h.at_, h.gr, h.dr, h.mod.avoid hA, h.slot, h.cnt⟩
theorem R25.chgT {A F : Nat → Prop} {W W' : World} {s m G D : Nat} {c0 : Int} {N st : Nat} {mu : Int} {tk n : Nat} {g : Nat → Option Nat} {l : List (Nat × Nat)} {H : HeldL} (h : R25 A W s m G D c0 N st mu tk n g l H) (c : Chg F W W') (hn : ∀ k, F k → ∀ cs t p, W.heap[k]? = some (.cells cs t p) → t ≠ 95 ∧ t ≠ 29 ∧ t ≠ 4 ∧ t ≠ 107 ∧ t ≠ 120 ∧ (t = 55 → A k)) : R25 A W' s m G D c0 N st mu tk n g l H := by
  have e1 : ¬ F s := fun x => (hn s x _ _ _ h.at_).1 rfl
  have e2 : ¬ F G := fun x => by obtain ⟨cg, hg, -⟩ := h.gr; exact (hn G x _ _ _ hg).2.1 rfl
  have e3 : ¬ F D := fun x => by obtain ⟨cg, hg, -⟩ := h.dr; exact (hn D x _ _ _ hg).2.2.1 rfl
  exact ⟨(c.block s (lt_of h.at_) e1).trans h.at_, h.gr.chg c e2, h.dr.chg c e3, h.mod.chg c (fun k x cs t p hk => ⟨(hn k x cs t p hk).2.2.2.2.2, (hn k x cs t p hk).2.2.2.1, (hn k x cs t p hk).2.2.2.2.1⟩), h.slot, h.cnt⟩
/-- The store: its blocks, its content f, i operations done. -/
def LS (w : World) (s sb m nw hd i : Nat) (f : Nat → Option Nat) : Prop := ∃ hc lf sl h g, SlAt w s sb m 0 hc lf i sl ∧ SlInv sl hc lf (pcs h g) ∧ sl.length = 2 ∧ MoAt w m nw hd 4 f h g i
theorem LS.chgT {F : Nat → Prop} {w w' : World} {s sb m nw hd i : Nat} {f : Nat → Option Nat} (h : LS w s sb m nw hd i f) (c : Chg F w w') (hn : ∀ k, F k → ∃ cs t p, w.heap[k]? = some (.cells cs t p) ∧ t ≠ 92 ∧ t ≠ 157 ∧ t ≠ 101) : LS w' s sb m nw hd i f := by
  obtain ⟨hc, lf, sl, h, g, S, I, L, M⟩ := h
  have nm : ∀ b es cc, w.heap[b]? = some (.map es cc) → ¬ F b := fun b es cc hb x => by
    obtain ⟨cs, t, p, hk, -⟩ := hn b x
    rw [hb] at hk
    cases hk
  have nc : ∀ b cs t p, w.heap[b]? = some (.cells cs t p) → (t = 92 ∨ t = 157 ∨ t = 101) → ¬ F b := fun b cs t p hb ht x => by
    obtain ⟨cs', t', p', hk, h1, h2, h3⟩ := hn b x
    rw [hb] at hk
    injection hk with hk
    injection hk with _ hk
    subst hk
    rcases ht with e | e | e
    · exact h1 e
    · exact h2 e
    · exact h3 e
  obtain ⟨e1, c1, n1⟩ := MapR.is M.now
  obtain ⟨e2, c2, n2⟩ := MapR.is M.held
  exact ⟨hc, lf, sl, h, g, S.chg c (nc _ _ _ _ S.st (.inl rfl)) (nc _ _ _ _ S.row (.inr (.inl rfl))), I, L, M.chg c (nc _ _ _ _ M.md (.inr (.inr rfl))) (nm _ _ _ n1) (nm _ _ _ n2) (fun k b hk => by
    obtain ⟨e3, c3, n3⟩ := MapR.is (M.pic k b hk)
    exact nm _ _ _ n3)⟩
theorem LS.quiet {w w' : World} {s sb m nw hd i : Nat} {f : Nat → Option Nat} (h : LS w s sb m nw hd i f) (c : Chg (fun _ => False) w w') : LS w' s sb m nw hd i f := h.chgT c (fun _ x => x.elim)
/-- What an operation does to the map, said twice. -/
theorem step_do {mu : Nat} {f : Nat → Option Nat} {pc : Nat → Option (Nat → Option Nat)} {o : OpP} {A : Ans} {f' : Nat → Option Nat} {pc' : Nat → Option (Nat → Option Nat)} (h : LStep mu o f pc A f' pc') : f' = stepG o.kd f o.k o.v (o.od : Int) := by
  rcases h with ⟨k5, -, e, -⟩ | ⟨th, -, -, hA, e, -⟩
  · rw [e, k5, stepG_else (by decide) (by decide) (by decide)]
  · rw [e]
    by_cases k2 : o.kd = 2
    · have e2 : A.e = 0 := by rw [hA]; unfold tellP; rw [if_neg (by omega), if_pos (by omega)]
      unfold doF stepG
      rw [if_pos ⟨e2, .inl k2⟩, if_pos k2]
    by_cases k3 : o.kd = 3
    · have e2 : A.e = 0 := by rw [hA]; unfold tellP; rw [if_neg (by omega), if_pos (by omega)]
      unfold doF stepG
      rw [if_neg (fun x => by omega), if_pos ⟨e2, k3⟩, if_neg k2, if_pos k3]
    by_cases k4 : o.kd = 4
    · have e2 : A = ⟨0, (f o.k).isSome, (f o.k).getD 0, decide (f o.k = some o.od), 0, [], 0⟩ := by rw [hA]; unfold tellP; rw [if_pos k4]
      unfold doF stepG
      rw [if_neg k2, if_neg k3]
      by_cases q : f o.k = some o.od
      · rw [if_pos ⟨by rw [e2], .inr ⟨k4, by rw [e2]; simp [q]⟩⟩, if_pos ⟨k4, by rw [q]; rfl, by rw [q]; rfl⟩]
      · rw [if_neg (by rw [e2]; simp [q, k2]), if_neg (fun x => k3 x.2), if_neg (fun x => q (by
          obtain ⟨-, y1, y2⟩ := x
          obtain ⟨z, hz⟩ := Option.isSome_iff_exists.1 y1
          rw [hz] at y2 ⊢
          have y2 : (z : Int) = (o.od : Int) := y2
          congr 1
          omega))]
    · unfold doF stepG
      rw [if_neg (fun x => by omega), if_neg (fun x => k3 x.2), if_neg k2, if_neg k3, if_neg (fun x => k4 x.1)]
theorem two_newA (W : World) (o : Obj) (xs : Array Value) {t : TypeId} : ((W.alloc o).alloc (.cells xs t)).heap[W.heap.size + 1]? = some (.cells xs t (0, 0)) := by
  have e := heap_alloc_new (W.alloc o) (.cells xs t)
  rw [World.size_alloc] at e
  exact e
theorem three_new (W : World) (o o' : Obj) (xs : Array Value) {t : TypeId} : (((W.alloc o).alloc o').alloc (.cells xs t)).heap[W.heap.size + 2]? = some (.cells xs t (0, 0)) := by
  have e := heap_alloc_new ((W.alloc o).alloc o') (.cells xs t)
  rw [World.size_alloc, World.size_alloc] at e
  exact e
theorem fresh25 {W w1 w9 : World} {s m G D : Nat} (M : RMod w1 m 4 (.slice none 0 0) (.slice none 0 0) []) (C : Chg (fun _ => False) W w1) (c : Chg (fun _ => False) w1 w9)
    (hs : w9.heap[s]? = some (.cells #[.int .i64 2000, .int .i64 2, .int .u64 100, .int .i64 4, .pointer (some ⟨m, 0, none⟩), .slice (some ⟨G, 0, none⟩) 2 2, .slice (some ⟨D, 0, none⟩) 2 2, .int .u64 0, .int .i64 0] 95 (0, 0)))
    (hG : w9.heap[G]? = some (.cells #[.int .u64 0, .int .u64 0] 29 (0, 0))) (hD : w9.heap[D]? = some (.cells #[.bool false, .bool false] 4 (0, 0)))
    (h1 : w1.heap.size ≤ s) (h2 : w1.heap.size ≤ G) (h3 : w1.heap.size ≤ D) (h4 : W.heap.size ≤ m) :
    ∃ s' m G D, Ending.returned (.tuple #[.pointer (some ⟨s, 0, none⟩), .int .i64 0]) = .returned (.tuple #[.pointer (some ⟨s', 0, none⟩), .int .i64 0]) ∧ R25 (fun _ => False) w9 s' m G D 2000 2 100 4 0 0 (fun _ => none) [] [] ∧ (W.heap.size ≤ s' ∧ W.heap.size ≤ m ∧ W.heap.size ≤ G ∧ W.heap.size ≤ D) ∧ Chg (fun _ => False) W w9 := by
  have z := C.size
  refine ⟨s, m, G, D, rfl, ⟨hs, ⟨_, hG, fun i hi => ⟨0, by omega, ?_⟩⟩, ⟨_, hD, fun i hi => ⟨false, ?_⟩⟩, ⟨⟨.slice none 0 0, .slice none 0 0, [], M.quiet c, RL.nil _, rfl, (fun z hz => by simp at hz), (fun b hb => by cases hb), (fun z hz => by simp at hz)⟩⟩, (fun z hz => by simp at hz), by simp⟩, by omega, C.trans c (fun _ _ x => x) (fun _ _ x => x)⟩
  · match i, hi with
    | 0, _ => rfl
    | 1, _ => rfl
  · match i, hi with
    | 0, _ => rfl
    | 1, _ => rfl
set_option maxRecDepth 100000 in
set_option maxHeartbeats 4000000 in
theorem r25_new (W : World) : Calls Try.prog 11 #[.agg #[.int .i64 2000, .int .i64 2, .int .u64 100, .int .i64 4]] W fun e W' => ∃ s m G D, e = .returned (.tuple #[.pointer (some ⟨s, 0, none⟩), .int .i64 0]) ∧ R25 (fun _ => False) W' s m G D 2000 2 100 4 0 0 (fun _ => none) [] [] ∧ (W.heap.size ≤ s ∧ W.heap.size ≤ m ∧ W.heap.size ≤ G ∧ W.heap.size ≤ D) ∧ Chg (fun _ => False) W W' := by
  have hmk1 : ∀ w, (Instr.makeSlice 32 (.int .i64 2) (.int .i64 2)).run Try.prog w = .ok (.slice (some ⟨w.heap.size, 0, none⟩) 2 2) (w.alloc (.cells #[.int .u64 0, .int .u64 0] 29)) := fun _ => by kernel_rfl
  have hmk2 : ∀ w, (Instr.makeSlice 93 (.int .i64 2) (.int .i64 2)).run Try.prog w = .ok (.slice (some ⟨w.heap.size, 0, none⟩) 2 2) (w.alloc (.cells #[.bool false, .bool false] 4)) := fun _ => by kernel_rfl
  obtain ⟨w0, hw0⟩ : ∃ w0, w0 = W.alloc (.cells #[.int .i64 2000, .int .i64 2, .int .u64 100, .int .i64 4] 47) := ⟨_, rfl⟩
  have HC0 : Hid (Chg (fun _ => False) W w0) := by rw [hw0]; exact (Chg.refl _ _).alloc _
  have HO : Hid (w0.heap[W.heap.size]? = some (.cells #[.int .i64 2000, .int .i64 2, .int .u64 100, .int .i64 4] 47 (0, 0))) := by rw [hw0]; exact heap_alloc_new _ _
  have HZ0 : Hid (W.heap.size + 1 = w0.heap.size) := by rw [hw0]; show _ = _; simp
  have c0 := cell_of HO.out 0
  have c1 := cell_of HO.out 1
  have c2 := cell_of HO.out 2
  have c3 := cell_of HO.out 3
  go_enter Try.func11, Try.ntmps11
  go_upto_region 1 with fail
  rw [← hw0]
  clear hw0
  go_wp2_with fail
  refine (r_new6 w0 (mu := 4) (by omega) (by omega)).mono ?_
  rintro e w1 ⟨rfl, M1, C1⟩
  have HO1 := keepH ((C1.block _ (lt_of HO.out) (fun x => x)).trans HO.out)
  have HM1 := keepH M1
  have HC1 := keepH (HC0.out.trans C1 (H := fun _ => False) (fun _ _ x => x) (fun _ _ x => x))
  have HZ1 : Hid (w0.heap.size < w1.heap.size) := lt_of M1.at_
  obtain ⟨m, hm⟩ : ∃ m, m = w0.heap.size := ⟨_, rfl⟩
  rw [← hm] at HM1 HZ1 HZ0 ⊢
  have HMM := keepH hm
  clear M1 C1 c0 c1 c2 c3 hm
  have d0 : ∀ o o', ((w1.alloc o).alloc o').cell? ⟨W.heap.size, 0, none⟩ = some (.int .i64 2000) := fun o o' => by rw [cell_of (alloc_of (alloc_of HO1.out _) _)]; rfl
  have e1 : ∀ o o', ((w1.alloc o).alloc o').cell? ⟨W.heap.size, 1, none⟩ = some (.int .i64 2) := fun o o' => by rw [cell_of (alloc_of (alloc_of HO1.out _) _)]; rfl
  have e2 : ∀ o o', ((w1.alloc o).alloc o').cell? ⟨W.heap.size, 2, none⟩ = some (.int .u64 100) := fun o o' => by rw [cell_of (alloc_of (alloc_of HO1.out _) _)]; rfl
  have e3 : ∀ o o', ((w1.alloc o).alloc o').cell? ⟨W.heap.size, 3, none⟩ = some (.int .i64 4) := fun o o' => by rw [cell_of (alloc_of (alloc_of HO1.out _) _)]; rfl
  have d1 : w1.cell? ⟨W.heap.size, 1, none⟩ = some (.int .i64 2) := cell_of HO1.out 1
  have d2 : w1.cell? ⟨W.heap.size, 0, none⟩ = some (.int .i64 2000) := cell_of HO1.out 0
  have d3 : w1.cell? ⟨W.heap.size, 2, none⟩ = some (.int .u64 100) := cell_of HO1.out 2
  have d4 : w1.cell? ⟨W.heap.size, 3, none⟩ = some (.int .i64 4) := cell_of HO1.out 3
  have d5 : ∀ o, (w1.alloc o).cell? ⟨W.heap.size, 1, none⟩ = some (.int .i64 2) := fun o => by rw [cell_of (alloc_of HO1.out _)]; rfl
  have d6 : ∀ o, (w1.alloc o).cell? ⟨W.heap.size, 0, none⟩ = some (.int .i64 2000) := fun o => by rw [cell_of (alloc_of HO1.out _)]; rfl
  have d7 : ∀ o, (w1.alloc o).cell? ⟨W.heap.size, 2, none⟩ = some (.int .u64 100) := fun o => by rw [cell_of (alloc_of HO1.out _)]; rfl
  have d8 : ∀ o, (w1.alloc o).cell? ⟨W.heap.size, 3, none⟩ = some (.int .i64 4) := fun o => by rw [cell_of (alloc_of HO1.out _)]; rfl
  go_wp2_with fail
  go_region
  all_goals (try go_wp2_with fail)
  · refine bodyPost_ret (v := .tuple #[.pointer (some ⟨w1.heap.size + 2, 0, none⟩), .int .i64 0]) (by simp [results, Try.results11, go_sem]) rfl ?_
    refine fresh25 HM1.out HC1.out (G := w1.heap.size) (D := w1.heap.size + 1) ((((Chg.refl _ _).alloc _).alloc _).alloc _ |> fun c => chg_dn c 1) ?_ ?_ ?_ (by omega) (by omega) (by omega) (by have := HZ0.out; omega)
    · exact three_new _ _ _ _
    · exact alloc_of (alloc_of (heap_alloc_new _ _) _) _
    · exact alloc_of (two_newA _ _ _) _
  · refine bodyPost_ret (v := .tuple #[.pointer (some ⟨w1.heap.size + 2, 0, none⟩), .int .i64 0]) (by simp [results, Try.results11, go_sem]) rfl ?_
    refine fresh25 HM1.out HC1.out (G := w1.heap.size + 1) (D := w1.heap.size) ((((Chg.refl _ _).alloc _).alloc _).alloc _ |> fun c => chg_dn c 1) ?_ ?_ ?_ (by omega) (by omega) (by omega) (by have := HZ0.out; omega)
    · exact three_new _ _ _ _
    · exact alloc_of (two_newA _ _ _) _
    · exact alloc_of (alloc_of (heap_alloc_new _ _) _) _
end Go.Proofs.Ytahgaghokpicgaa
/- SamePairs of another package. -/
namespace Go.Proofs.Ytahgaghokpicgaa
open Go.RowKit Go.Maps
set_option linter.unusedVariables false

set_option maxRecDepth 100000 in
set_option maxHeartbeats 4000000 in
theorem r_pairs11 (pa pb : Option Addr) (ca cb : Nat) (la lb : List (Nat × Nat)) (W : World) (hA : PairsAt W pa la) (hB : PairsAt W pb lb) (hla : la.length ≤ 17592186044416) (hlb : lb.length ≤ 17592186044416) :
    Calls Try.prog 16 #[.slice pa la.length ca, .slice pb lb.length cb] W fun e W' => e = .returned (.bool (decide (la = lb))) ∧ Chg (fun _ => False) W W' := by
  have HA := keepH hA
  have HB := keepH hB
  clear hA hB
  by_cases hl : la.length = lb.length
  · have d1 : decide (la.length = lb.length) = true := decide_eq_true hl
    have b1 : ((la.length : Int) != (lb.length : Int)) = false := by rw [hl]; simp
    go_enter Try.func16, Try.ntmps16
    go_wp2_with fail
    go_loopw [5] (fun s wr => ∃ k : Nat, k ≤ la.length ∧ s = .int .i64 (k : Int) ∧ Hid ((∀ j, j < k → la[j]? = lb[j]?) ∧ Chg (fun _ => False) W wr)) (fun s _ => la.length - (intOf s).toNat)
    case atStart => exact ⟨0, by omega, rfl, keepH ⟨fun j h => absurd h (by omega), Chg.refl _ _⟩⟩
    case round =>
      obtain ⟨k, hk, rfl, HK⟩ := hrel
      by_cases hlt : k < la.length
      · have t1 : (k : Int) < (la.length : Int) := by omega
        have t2 : (k : Int) < (lb.length : Int) := by omega
        obtain ⟨⟨a, b⟩, hx⟩ : ∃ x, la[k]? = some x := ⟨la[k], List.getElem?_eq_getElem hlt⟩
        obtain ⟨⟨c, d⟩, hy⟩ : ∃ x, lb[k]? = some x := ⟨lb[k], List.getElem?_eq_getElem (by omega)⟩
        obtain ⟨bk, off, rfl, ba, bb, c0, c1⟩ := HA.out.get HK.out.2 k a b hx
        obtain ⟨bk', off', rfl, bc, bd, d0, d1'⟩ := HB.out.get HK.out.2 k c d hy
        have hpn := pair_neq a b c d ba bb bc bd
        have HX : Hid (la[k]? = some (a, b) ∧ lb[k]? = some (c, d)) := ⟨hx, hy⟩
        clear hx hy
        by_cases e : (a, b) = (c, d)
        · have dd : decide ((a, b) = (c, d)) = true := decide_eq_true e
          rw [dd] at hpn
          have HE := keepH e
          clear dd e
          go_wp2_with fail
          go_quiet (fail)
          go_wp2_with fail
          go_roundw
          case rel => exact ⟨k + 1, by omega, by first | rfl | go_num, keepH ⟨fun j hj => by
            by_cases z : j = k
            · subst z; rw [HX.out.1, HX.out.2, HE.out]
            · exact HK.out.1 j (by omega), HK.out.2.trans (H := fun _ => False) ⟨rfl, rfl, rfl, Nat.le_refl _, fun _ _ _ => rfl⟩ (fun _ _ x => x) (fun _ _ x => x)⟩⟩
          case measure => simp [intOf]; omega
        · have dd : decide ((a, b) = (c, d)) = false := decide_eq_false e
          rw [dd] at hpn
          have HE := keepH e
          clear dd e
          go_wp2_with fail
          go_quiet (fail)
          go_wp2_with fail
          go_ret
          have hne : ¬ la = lb := fun z => HE.out (by have q1 := HX.out.1; rw [z, HX.out.2] at q1; simpa using q1.symm)
          exact ⟨by simp [hne], HK.out.2.trans (H := fun _ => False) ⟨rfl, rfl, rfl, Nat.le_refl _, fun _ _ _ => rfl⟩ (fun _ _ x => x) (fun _ _ x => x)⟩
      · obtain rfl : k = la.length := by omega
        have t1 : ¬ (la.length : Int) < (la.length : Int) := by omega
        go_wp2_with fail
        go_ret
        have he : la = lb := by
          apply List.ext_getElem?
          intro j
          by_cases z : j < la.length
          · exact HK.out.1 j z
          · rw [List.getElem?_eq_none (by omega), List.getElem?_eq_none (by omega)]
        exact ⟨by simp [he], HK.out.2⟩
  · have d1 : decide (la.length = lb.length) = false := decide_eq_false hl
    have b1 : ((la.length : Int) != (lb.length : Int)) = true := bne_iff_ne.2 (by omega)
    have hne : ¬ la = lb := fun z => hl (by rw [z])
    have HNE := keepH hne
    clear hne
    go_enter Try.func16, Try.ntmps16
    go_wp2_with fail
    go_ret
    exact ⟨by simp [HNE.out], Chg.refl _ _⟩
end Go.Proofs.Ytahgaghokpicgaa
/- What comes in: operations. -/
namespace Go.Proofs.Ytahgaghokpicgaa
open Go.RowKit Go.Joins Go.ChangeShapes Go.WideShapes Go.Deep
set_option linter.unusedVariables false

theorem cut_next {cs f : List Value} {o s : Nat} (h : (cs.drop o).take s = f) : cs.drop o = f ++ cs.drop (o + s) := by
  rw [← h, ← List.drop_drop, List.take_append_drop]
theorem keys_cells {H : Type} {enc : TypeId × Value → H} {W : World} {sp : Nat → Bool} {held : Bool} {fuel : Nat} {cs : List Value} {x : DataW H × List MemPlace} (h : DataW.trod enc Try.prog W 0 sp held fuel 32 cs = some x) :
    ∃ (p : Option Addr) (c : Nat) (l : List Nat), cs = [.slice p l.length c] ∧ KeysAt W p l := by
  obtain ⟨p, n, c, hcs, _, hr⟩ := slice_rows (s := 1) (Q := fun cs => ∃ k : Nat, k < 18446744073709551616 ∧ cs = [.int .u64 (k : Int)]) Try.underlying32 coU (by decide) (fun fuel cs y hy => by
    obtain ⟨z, e, _, w⟩ := DataW.trod_int Try.underlying29 hy
    obtain ⟨k, rfl, hk⟩ := nat_u64 w
    exact ⟨⟨k, hk, e⟩, by rw [e]; rfl⟩) h
  rcases hr with rfl | ⟨bk, off, rfl, hb, hr⟩
  · exact ⟨p, c, [], hcs, .inl rfl⟩
  · obtain ⟨l, hl, hp⟩ := choose_list (P := fun i (k : Nat) => k < 18446744073709551616 ∧ W.cell? ⟨bk, off + i, none⟩ = some (.int .u64 (k : Int))) n (fun i hi => by
      obtain ⟨cs', ⟨k, hk, rfl⟩, hc⟩ := hr i hi
      have := hc 0 _ rfl
      simp at this
      exact ⟨k, hk, this⟩)
    subst hl
    exact ⟨_, c, l, hcs, .inr ⟨bk, off, rfl, hb, hp⟩⟩
theorem co_3 : Try.prog.cellsOf 3 = 1 := by kernel_rfl
theorem co_4 : Try.prog.cellsOf 4 = 1 := by kernel_rfl
theorem co_23 : Try.prog.cellsOf 29 = 1 := by kernel_rfl
theorem co_22 : Try.prog.cellsOf 28 = 1 := by kernel_rfl
theorem co_25 : Try.prog.cellsOf 31 = 3 := by kernel_rfl
theorem co_26 : Try.prog.cellsOf 32 = 1 := by kernel_rfl
theorem co_28 : Try.prog.cellsOf 34 = 11 := by kernel_rfl
theorem open_25 {H : Type} {enc : TypeId × Value → H} {W : World} {sp : Nat → Bool} {held : Bool} {fuel : Nat} {cs : List Value} {x : DataW H × List MemPlace} (hf : DataW.trod enc Try.prog W 0 sp held fuel 31 cs = some x) : ∃ (r5 : Bool) (r6 : Int) (r7 : Int), cs = [.bool r5, .int .i64 r6, .int .i64 r7] := by
  obtain ⟨xs, n, hn, hx, hl, hlen, hh⟩ := DataW.trod_struct Try.underlying31 hf
  rw [co_25] at hl
  have h0 := (hh 0 _ rfl).trans (List.getElem?_eq_getElem (show 0 < xs.length by rw [hlen]; decide))
  obtain ⟨r5, e0, _⟩ := DataW.trod_bool Try.underlying4 h0
  have y0 : (cs.drop 0).take (Try.prog.cellsOf 4) = _ := e0
  rw [co_4] at y0
  have s0 : cs.drop 0 = _ ++ cs.drop 1 := cut_next y0
  have h1 := (hh 1 _ rfl).trans (List.getElem?_eq_getElem (show 1 < xs.length by rw [hlen]; decide))
  obtain ⟨r6, e1, _, _⟩ := DataW.trod_int Try.underlying3 h1
  have y1 : (cs.drop 1).take (Try.prog.cellsOf 3) = _ := e1
  rw [co_3] at y1
  have s1 : cs.drop 1 = _ ++ cs.drop 2 := cut_next y1
  have h2 := (hh 2 _ rfl).trans (List.getElem?_eq_getElem (show 2 < xs.length by rw [hlen]; decide))
  obtain ⟨r7, e2, _, _⟩ := DataW.trod_int Try.underlying3 h2
  have y2 : (cs.drop 2).take (Try.prog.cellsOf 3) = _ := e2
  rw [co_3] at y2
  have s2 : cs.drop 2 = _ ++ cs.drop 3 := cut_next y2
  have z : cs.drop 3 = [] := List.drop_eq_nil_of_le (by omega)
  rw [z] at s2
  rw [s2] at s1
  rw [s1] at s0
  exact ⟨r5, r6, r7, (List.drop_zero (l := cs)).symm.trans s0⟩
theorem open_28 {H : Type} {enc : TypeId × Value → H} {W : World} {sp : Nat → Bool} {held : Bool} {fuel : Nat} {cs : List Value} {x : DataW H × List MemPlace} (hf : DataW.trod enc Try.prog W 0 sp held fuel 34 cs = some x) : ∃ (kd : Int) (k : Nat) (v : Nat) (od : Nat) (hk : Nat) (r5 : Bool) (r6 : Int) (r7 : Int) (ksp : Option Addr) (ksc : Nat) (ks : List Nat) (lo : Nat) (hi : Nat), cs = [.int .u8 kd, .int .u64 (k : Int), .int .u64 (v : Int), .int .u64 (od : Int), .int .u64 (hk : Int), .bool r5, .int .i64 r6, .int .i64 r7, .slice ksp ks.length ksc, .int .u64 (lo : Int), .int .u64 (hi : Int)] ∧ k < 18446744073709551616 ∧ v < 18446744073709551616 ∧ od < 18446744073709551616 ∧ hk < 18446744073709551616 ∧ KeysAt W ksp ks ∧ lo < 18446744073709551616 ∧ hi < 18446744073709551616 := by
  obtain ⟨xs, n, hn, hx, hl, hlen, hh⟩ := DataW.trod_struct Try.underlying34 hf
  rw [co_28] at hl
  have h0 := (hh 0 _ rfl).trans (List.getElem?_eq_getElem (show 0 < xs.length by rw [hlen]; decide))
  obtain ⟨kd, e0, _, _⟩ := DataW.trod_int Try.underlying28 h0
  have y0 : (cs.drop 0).take (Try.prog.cellsOf 28) = _ := e0
  rw [co_22] at y0
  have s0 : cs.drop 0 = _ ++ cs.drop 1 := cut_next y0
  have h1 := (hh 1 _ rfl).trans (List.getElem?_eq_getElem (show 1 < xs.length by rw [hlen]; decide))
  obtain ⟨z_k, e1, _, w_k⟩ := DataW.trod_int Try.underlying29 h1
  obtain ⟨k, rfl, f_k⟩ := nat_u64 w_k
  have y1 : (cs.drop 1).take (Try.prog.cellsOf 29) = _ := e1
  rw [co_23] at y1
  have s1 : cs.drop 1 = _ ++ cs.drop 2 := cut_next y1
  have h2 := (hh 2 _ rfl).trans (List.getElem?_eq_getElem (show 2 < xs.length by rw [hlen]; decide))
  obtain ⟨z_v, e2, _, w_v⟩ := DataW.trod_int Try.underlying29 h2
  obtain ⟨v, rfl, f_v⟩ := nat_u64 w_v
  have y2 : (cs.drop 2).take (Try.prog.cellsOf 29) = _ := e2
  rw [co_23] at y2
  have s2 : cs.drop 2 = _ ++ cs.drop 3 := cut_next y2
  have h3 := (hh 3 _ rfl).trans (List.getElem?_eq_getElem (show 3 < xs.length by rw [hlen]; decide))
  obtain ⟨z_od, e3, _, w_od⟩ := DataW.trod_int Try.underlying29 h3
  obtain ⟨od, rfl, f_od⟩ := nat_u64 w_od
  have y3 : (cs.drop 3).take (Try.prog.cellsOf 29) = _ := e3
  rw [co_23] at y3
  have s3 : cs.drop 3 = _ ++ cs.drop 4 := cut_next y3
  have h4 := (hh 4 _ rfl).trans (List.getElem?_eq_getElem (show 4 < xs.length by rw [hlen]; decide))
  obtain ⟨z_hk, e4, _, w_hk⟩ := DataW.trod_int Try.underlying29 h4
  obtain ⟨hk, rfl, f_hk⟩ := nat_u64 w_hk
  have y4 : (cs.drop 4).take (Try.prog.cellsOf 29) = _ := e4
  rw [co_23] at y4
  have s4 : cs.drop 4 = _ ++ cs.drop 5 := cut_next y4
  have h5 := (hh 5 _ rfl).trans (List.getElem?_eq_getElem (show 5 < xs.length by rw [hlen]; decide))
  obtain ⟨r5, r6, r7, e5⟩ := open_25 h5
  have y5 : (cs.drop 5).take (Try.prog.cellsOf 31) = _ := e5
  rw [co_25] at y5
  have s5 : cs.drop 5 = _ ++ cs.drop 8 := cut_next y5
  have h6 := (hh 6 _ rfl).trans (List.getElem?_eq_getElem (show 6 < xs.length by rw [hlen]; decide))
  obtain ⟨ksp, ksc, ks, e6, f_ks⟩ := keys_cells h6
  have y6 : (cs.drop 8).take (Try.prog.cellsOf 32) = _ := e6
  rw [co_26] at y6
  have s6 : cs.drop 8 = _ ++ cs.drop 9 := cut_next y6
  have h7 := (hh 7 _ rfl).trans (List.getElem?_eq_getElem (show 7 < xs.length by rw [hlen]; decide))
  obtain ⟨z_lo, e7, _, w_lo⟩ := DataW.trod_int Try.underlying29 h7
  obtain ⟨lo, rfl, f_lo⟩ := nat_u64 w_lo
  have y7 : (cs.drop 9).take (Try.prog.cellsOf 29) = _ := e7
  rw [co_23] at y7
  have s7 : cs.drop 9 = _ ++ cs.drop 10 := cut_next y7
  have h8 := (hh 8 _ rfl).trans (List.getElem?_eq_getElem (show 8 < xs.length by rw [hlen]; decide))
  obtain ⟨z_hi, e8, _, w_hi⟩ := DataW.trod_int Try.underlying29 h8
  obtain ⟨hi, rfl, f_hi⟩ := nat_u64 w_hi
  have y8 : (cs.drop 10).take (Try.prog.cellsOf 29) = _ := e8
  rw [co_23] at y8
  have s8 : cs.drop 10 = _ ++ cs.drop 11 := cut_next y8
  have z : cs.drop 11 = [] := List.drop_eq_nil_of_le (by omega)
  rw [z] at s8
  rw [s8] at s7
  rw [s7] at s6
  rw [s6] at s5
  rw [s5] at s4
  rw [s4] at s3
  rw [s3] at s2
  rw [s2] at s1
  rw [s1] at s0
  exact ⟨kd, k, v, od, hk, r5, r6, r7, ksp, ksc, ks, lo, hi, (List.drop_zero (l := cs)).symm.trans s0, f_k, f_v, f_od, f_hk, f_ks, f_lo, f_hi⟩
theorem op_open {H : Type} {enc : TypeId × Value → H} {W : World} {sp : Nat → Bool} {held : Bool} {fuel : Nat} {cs : List Value} {x : DataW H × List MemPlace} (hf : DataW.trod enc Try.prog W 0 sp held fuel 34 cs = some x) : (∃ y : OpI, cs = y.cs ∧ y.Ok W) ∧ cs.length = 11 := by
  obtain ⟨kd, k, v, od, hk, r5, r6, r7, ksp, ksc, ks, lo, hi, e, f1, f2, f3, f4, f5, f6, f7⟩ := open_28 hf
  exact ⟨⟨⟨⟨kd, k, v, od, hk, ks, lo, hi⟩, r5, r6, r7, ksp, ksc⟩, e, ⟨⟨f1, f2, f3, f4, f6, f7⟩, f5⟩⟩, by rw [e]; rfl⟩
theorem ops_open {H : Type} {enc : TypeId × Value → H} {W : World} {sp : Nat → Bool} {held : Bool} {p : Option Addr} {n c : Nat} {d : DataW H} {ps : List MemPlace} (h : DataW.Trod enc Try.prog W 0 sp held 42 (.slice p n c) d ps) : ∃ l : List OpI, l.length = n ∧ OpsAt W p l := by
  obtain ⟨fuel, hf⟩ := h
  obtain ⟨p', n', c', hcs, _, hr⟩ := slice_rows (s := 11) (Q := fun cs => ∃ y : OpI, cs = y.cs ∧ y.Ok W) Try.underlying42 co_28 (by decide) (fun fuel cs y hy => op_open hy) hf
  simp [Value.cells] at hcs
  obtain ⟨rfl, rfl, rfl⟩ := hcs
  rcases hr with rfl | ⟨bk, off, rfl, hb, hr⟩
  · exact ⟨[], rfl, .inl rfl⟩
  · obtain ⟨l, hl, hp⟩ := choose_list (P := fun i y => OpI.Ok W y ∧ ∀ j v, y.cs[j]? = some v → W.cell? ⟨bk, off + i * 11 + j, none⟩ = some v) n (fun i hi => by
      obtain ⟨cs', ⟨y, rfl, hy⟩, hc⟩ := hr i hi
      exact ⟨y, hy, fun j v hj => by rw [Nat.add_assoc]; exact hc j v hj⟩)
    exact ⟨l, hl, .inr ⟨bk, off, rfl, hb, hp⟩⟩
theorem bytesOp : Try.prog.bytesOf 34 = 104 := by kernel_rfl
theorem slice_size {H : Type} {enc : TypeId × Value → H} {W : World} {sp : Nat → Bool} {held : Bool} {p : Option Addr} {n c : Nat} {d : DataW H} {ps : List MemPlace} {T E : TypeId} {ts : List TypeId} {ds : List (DataW H)} {j : Nat} (hT : Try.prog.underlying T = some (.slice E)) (h : DataW.Trod enc Try.prog W 0 sp held T (.slice p n c) d ps)
    (hsz : (DataW.weightsEach Try.prog ts ds).all (· ≤ reachBytes) = true) (ht : ts[j]? = some T) (hd : ds[j]? = some d) : n * Try.prog.bytesOf E ≤ reachBytes := by
  obtain ⟨fuel, hf⟩ := h
  rcases open_slice hT hf with ⟨hcs, _⟩ | ⟨a, len, cap, m, k, D, Pl, hcs, _, hl, hm, hme, hx, hi⟩
  · simp [Value.cells] at hcs
    obtain ⟨rfl, rfl, rfl⟩ := hcs
    simp
  · simp [Value.cells] at hcs
    obtain ⟨rfl, rfl, rfl⟩ := hcs
    simp only [Prod.mk.injEq] at hx
    rw [hx.1] at hd
    have sz := sized_slice hsz ht hd hT
    refine Nat.le_trans (Nat.mul_le_mul_right _ ?_) sz
    simp
end Go.Proofs.Ytahgaghokpicgaa
/- An operation out of a row that came in. -/
namespace Go.Proofs.Ytahgaghokpicgaa
open Go.RowKit Go.Maps
set_option linter.unusedVariables false

theorem OpsAt.get {W wr : World} {p : Option Addr} {l : List OpI} (h : OpsAt W p l) (c : Chg (fun _ => False) W wr) {i : Nat} {x : OpI} (hx : l[i]? = some x) : ∃ bk off, p = some ⟨bk, off, none⟩ ∧ x.Ok W ∧ ∀ j v, x.cs[j]? = some v → wr.cell? ⟨bk, off + i * 11 + j, none⟩ = some v := by
  rcases h with rfl | ⟨bk, off, rfl, _, h⟩
  · simp at hx
  · obtain ⟨h1, h2⟩ := h i x hx
    exact ⟨bk, off, rfl, h1, fun j v hj => cell_chg c (h2 j v hj) (fun x => x)⟩
end Go.Proofs.Ytahgaghokpicgaa
