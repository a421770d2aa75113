/- What any operation tells, and what it leaves: all kinds at once. -/
import Derived.Test.YtnhfpnhmdfgckaaNi
namespace Go.Proofs.Ytnhfpnhmdfgckaa
open Go.RowKit Go.Maps
set_option linter.unusedVariables false

open Classical in
noncomputable def theL (f : Nat → Option Nat) (lo hi : Nat) : List (Nat × Nat) := if h : ∃ l, Lists f lo hi l then h.choose else []
theorem theL_eq {f : Nat → Option Nat} {lo hi : Nat} {l : List (Nat × Nat)} (h : Lists f lo hi l) : theL f lo hi = l := by
  have e : ∃ l, Lists f lo hi l := ⟨l, h⟩
  unfold theL
  rw [dif_pos e]
  exact e.choose_spec.unique h
structure OpP where
  kd : Int
  k : Nat
  v : Nat
  od : Nat
  hk : Nat
  ks : List Nat
  lo : Nat
  hi : Nat
structure OpP.Ok (o : OpP) : Prop where
  k : o.k < 18446744073709551616
  v : o.v < 18446744073709551616
  od : o.od < 18446744073709551616
  hk : o.hk < 18446744073709551616
  lo : o.lo < 18446744073709551616
  hi : o.hi < 18446744073709551616
def errA (e : Int) : Ans := ⟨e, false, 0, false, 0, [], 0⟩
/-- What an operation tells. -/
noncomputable def tellP (mu : Nat) (f : Nat → Option Nat) (pc : Nat → Option (Nat → Option Nat)) (o : OpP) (th : Nat) : Ans :=
  if o.kd = 4 then ⟨0, (f o.k).isSome, (f o.k).getD 0, decide (f o.k = some o.od), 0, [], 0⟩
  else if o.kd = 1 ∨ o.kd = 2 ∨ o.kd = 3 then ⟨0, (f o.k).isSome, (f o.k).getD 0, false, 0, [], 0⟩
  else if o.kd = 5 then (if (pc th).isSome then errA 32 else ⟨0, false, 0, false, th, [], 0⟩)
  else if o.kd = 6 then (if (pc o.hk).isSome then errA 0 else errA 33)
  else if o.kd = 7 ∧ mu < o.ks.length then errA 6
  else if o.kd = 7 ∨ o.kd = 8 ∨ o.kd = 9 then (match pc o.hk with
    | none => errA 33
    | some c => if o.kd = 7 then ⟨0, false, 0, false, 0, pairsOf c o.ks, 0⟩ else if o.kd = 8 then ⟨0, false, 0, false, 0, theL c o.lo o.hi, 0⟩ else ⟨0, false, 0, false, 0, [], (theL c o.lo o.hi).length⟩)
  else if o.kd = 10 then errA 0
  else errA 160
def ansC (A : Ans) (p : Option Addr) (c : Nat) : Array Value := #[.int .i64 A.e, .bool A.f, .int .u64 (A.x : Int), .bool A.d, .int .u64 (A.h : Int), .slice p A.l.length c, .int .u64 (A.n : Int)]
def opC (o : OpP) (r5 : Bool) (r6 r7 : Int) (kp : Option Addr) (kc : Nat) : Array Value := #[.int .u8 o.kd, .int .u64 (o.k : Int), .int .u64 (o.v : Int), .int .u64 (o.od : Int), .int .u64 (o.hk : Int), .bool r5, .int .i64 r6, .int .i64 r7, .slice kp o.ks.length kc, .int .u64 (o.lo : Int), .int .u64 (o.hi : Int)]
/-- An answer that was told: its list is new. -/
def Told (W0 W' : World) (A : Ans) (e : Ending) : Prop := ∃ p c, e = .returned (.agg (ansC A p c)) ∧ PairsAt W' p A.l ∧ (∀ bk off, p = some ⟨bk, off, none⟩ → W0.heap.size ≤ bk) ∧ A.l.length ≤ 8796093022000
def pcs (h : Nat → Option Nat) (g : Nat → Nat → Option Nat) : Nat → Option (Nat → Option Nat) := fun k => (h k).map g
theorem told_plain {W0 W' : World} {A : Ans} (hl : A.l = []) {e : Ending} (he : e = .returned (.agg (ansC A none 0))) : Told W0 W' A e := ⟨none, 0, he, .inl hl, fun bk off e => (by cases e), by rw [hl]; simp⟩
theorem tells_all {o : OpP} (ho : o.Ok) {r5 : Bool} {r6 r7 : Int} {kp : Option Addr} {kc th : Nat} (hth : th < 18446744073709551616) {W : World} {m nw hd mu : Nat} {f h : Nat → Option Nat} {g : Nat → Nat → Option Nat} {n : Nat} (H : MoAt W m nw hd mu f h g n) (hmu : mu ≤ 1024) (hn : n ≤ 8796093022000) (hks : KeysAt W kp o.ks) :
    Calls Try.prog 57 #[.pointer (some ⟨m, 0, none⟩), .agg (opC o r5 r6 r7 kp kc), .int .u64 (th : Int)] W fun e W' => Told W W' (tellP mu f (pcs h g) o th) e ∧ Chg (fun _ => False) W W' := by
  obtain ⟨kd, k, v, od, hk, ks, lo, hi⟩ := o
  unfold tellP opC
  simp only
  by_cases k4 : kd = 4
  · subst k4
    rw [if_pos rfl]
    cases hf : f k with
    | none =>
      refine (tells_s0 H ho.k hf).mono ?_
      rintro e W' ⟨rfl, c⟩
      exact ⟨told_plain rfl (by simp [ansC]), c⟩
    | some x =>
      by_cases hx : x = od
      · refine (tells_s1 H ho.k hf hx).mono ?_
        rintro e W' ⟨rfl, c⟩
        exact ⟨told_plain rfl (by simp [ansC, hx]), c⟩
      · refine (tells_s2 H ho.k hf hx).mono ?_
        rintro e W' ⟨rfl, c⟩
        exact ⟨told_plain rfl (by simp [ansC, hx]), c⟩
  rw [if_neg k4]
  by_cases k1 : kd = 1
  · subst k1
    rw [if_pos (by simp)]
    refine (tells_r1 H ho.k).mono ?_
    rintro e W' ⟨rfl, c⟩
    exact ⟨told_plain rfl (by simp [ansC]), c⟩
  by_cases k2 : kd = 2
  · subst k2
    rw [if_pos (by simp)]
    refine (tells_r2 H ho.k).mono ?_
    rintro e W' ⟨rfl, c⟩
    exact ⟨told_plain rfl (by simp [ansC]), c⟩
  by_cases k3 : kd = 3
  · subst k3
    rw [if_pos (by simp)]
    refine (tells_r3 H ho.k).mono ?_
    rintro e W' ⟨rfl, c⟩
    exact ⟨told_plain rfl (by simp [ansC]), c⟩
  rw [if_neg (by simp [k1, k2, k3])]
  by_cases k5 : kd = 5
  · subst k5
    rw [if_pos rfl]
    cases hh : h th with
    | none =>
      refine (tells_5F H hth hh).mono ?_
      rintro e W' ⟨rfl, c⟩
      exact ⟨told_plain (by simp [pcs, hh]) (by simp [ansC, pcs, hh]), c⟩
    | some b =>
      refine (tells_5T H hth hh).mono ?_
      rintro e W' ⟨rfl, c⟩
      exact ⟨told_plain (by simp [pcs, hh, errA]) (by simp [ansC, pcs, hh, errA]), c⟩
  rw [if_neg k5]
  by_cases k6 : kd = 6
  · subst k6
    rw [if_pos rfl]
    cases hh : h hk with
    | none =>
      refine (tells_6F H ho.hk hh).mono ?_
      rintro e W' ⟨rfl, c⟩
      exact ⟨told_plain (by simp [pcs, hh, errA]) (by simp [ansC, pcs, hh, errA]), c⟩
    | some b =>
      refine (tells_6T H ho.hk hh).mono ?_
      rintro e W' ⟨rfl, c⟩
      exact ⟨told_plain (by simp [pcs, hh, errA]) (by simp [ansC, pcs, hh, errA]), c⟩
  rw [if_neg k6]
  by_cases k7 : kd = 7
  · subst k7
    by_cases hl : mu < ks.length
    · rw [if_pos ⟨rfl, hl⟩]
      refine (tells_7L H hl).mono ?_
      rintro e W' ⟨rfl, c⟩
      exact ⟨told_plain rfl (by simp [ansC, errA]), c⟩
    · rw [if_neg (fun x => hl x.2), if_pos (.inl rfl)]
      cases hh : h hk with
      | none =>
        refine (tells_q7 H (by omega) hmu (Q := fun w w' er p nl c co => er = 33 ∧ p = none ∧ nl = 0 ∧ c = 0 ∧ co = 0) (fun w cw => ?_)).mono ?_
        · refine (asks_no (H.quiet cw) ho.hk hh).mono ?_
          rintro e w' ⟨rfl, c⟩
          exact ⟨33, none, 0, 0, 0, rfl, ⟨rfl, rfl, rfl, rfl, rfl⟩, c⟩
        · rintro e W' ⟨er, p, nl, c, co, w, w1, rfl, _, _, ⟨rfl, rfl, rfl, rfl, rfl⟩, _, c9⟩
          exact ⟨told_plain (by simp [pcs, hh, errA]) (by simp [ansC, pcs, hh, errA]), c9⟩
      | some b =>
        refine (tells_q7 H (by omega) hmu (Q := fun w w' er p nl c co => er = 0 ∧ nl = (pairsOf (g b) ks).length ∧ co = 0 ∧ PairsAt w' p (pairsOf (g b) ks) ∧ ∀ bk off, p = some ⟨bk, off, none⟩ → w.heap.size ≤ bk) (fun w cw => ?_)).mono ?_
        · refine (asks_7 (H.quiet cw) ho.hk hh hn (hks.chg cw (fun _ _ _ x => x)) rfl (show ks.length ≤ 8796093022000 by omega)).mono ?_
          rintro e w' ⟨⟨p, c, l, rfl, rfl, h1, h2⟩, c9⟩
          exact ⟨0, p, _, c, 0, rfl, ⟨rfl, rfl, rfl, h1, h2⟩, c9⟩
        · rintro e W' ⟨er, p, nl, c, co, w, w1, rfl, _, hs, ⟨rfl, rfl, rfl, h1, h2⟩, k9, c9⟩
          have e1 : pcs h g hk = some (g b) := by simp [pcs, hh]
          rw [e1]
          simp only [if_true]
          exact ⟨⟨p, c, rfl, h1.chgF k9 (fun bk off e => by have := h2 bk off e; omega), fun bk off e => by have := h2 bk off e; omega, Nat.le_trans (pairsOf_len _ _) (show ks.length ≤ 8796093022000 by omega)⟩, c9⟩
  rw [if_neg (fun x => k7 x.1)]
  by_cases k8 : kd = 8
  · subst k8
    rw [if_pos (.inr (.inl rfl))]
    cases hh : h hk with
    | none =>
      refine (tells_q8 H (Q := fun w w' er p nl c co => er = 33 ∧ p = none ∧ nl = 0 ∧ c = 0 ∧ co = 0) (fun w cw => ?_)).mono ?_
      · refine (asks_no (H.quiet cw) ho.hk hh).mono ?_
        rintro e w' ⟨rfl, c⟩
        exact ⟨33, none, 0, 0, 0, rfl, ⟨rfl, rfl, rfl, rfl, rfl⟩, c⟩
      · rintro e W' ⟨er, p, nl, c, co, w, w1, rfl, _, _, ⟨rfl, rfl, rfl, rfl, rfl⟩, _, c9⟩
        exact ⟨told_plain (by simp [pcs, hh, errA]) (by simp [ansC, pcs, hh, errA]), c9⟩
    | some b =>
      refine (tells_q8 H (Q := fun w w' er p nl c co => er = 0 ∧ nl = (theL (g b) lo hi).length ∧ co = 0 ∧ PairsAt w' p (theL (g b) lo hi) ∧ (∀ bk off, p = some ⟨bk, off, none⟩ → w.heap.size ≤ bk) ∧ (theL (g b) lo hi).length ≤ n) (fun w cw => ?_)).mono ?_
      · refine (asks_8 (H.quiet cw) ho.hk hh hn ho.lo ho.hi).mono ?_
        rintro e w' ⟨⟨p, c, l, rfl, ⟨h0, h00⟩, h1, h2⟩, c9⟩
        rw [theL_eq h0]
        exact ⟨0, p, _, c, 0, rfl, ⟨rfl, rfl, rfl, h1, h2, h00⟩, c9⟩
      · rintro e W' ⟨er, p, nl, c, co, w, w1, rfl, _, hs, ⟨rfl, rfl, rfl, h1, h2, h3⟩, k9, c9⟩
        have e1 : pcs h g hk = some (g b) := by simp [pcs, hh]
        rw [e1]
        have n87 : ¬ (8 : Int) = 7 := by omega
        simp only [if_neg n87, if_true]
        exact ⟨⟨p, c, rfl, h1.chgF k9 (fun bk off e => by have := h2 bk off e; omega), fun bk off e => by have := h2 bk off e; omega, Nat.le_trans h3 hn⟩, c9⟩
  by_cases k9 : kd = 9
  · subst k9
    rw [if_pos (.inr (.inr rfl))]
    cases hh : h hk with
    | none =>
      refine (tells_q9 H (Q := fun w w' er p nl c co => er = 33 ∧ p = none ∧ nl = 0 ∧ c = 0 ∧ co = 0) (fun w cw => ?_)).mono ?_
      · refine (asks_no (H.quiet cw) ho.hk hh).mono ?_
        rintro e w' ⟨rfl, c⟩
        exact ⟨33, none, 0, 0, 0, rfl, ⟨rfl, rfl, rfl, rfl, rfl⟩, c⟩
      · rintro e W' ⟨er, p, nl, c, co, w, w1, rfl, _, _, ⟨rfl, rfl, rfl, rfl, rfl⟩, _, c9⟩
        exact ⟨told_plain (by simp [pcs, hh, errA]) (by simp [ansC, pcs, hh, errA]), c9⟩
    | some b =>
      refine (tells_q9 H (Q := fun w w' er p nl c co => er = 0 ∧ p = none ∧ nl = 0 ∧ c = 0 ∧ co = (theL (g b) lo hi).length) (fun w cw => ?_)).mono ?_
      · refine (asks_9 (H.quiet cw) ho.hk hh hn ho.lo ho.hi (by omega) (by omega)).mono ?_
        rintro e w' ⟨⟨l, rfl, h0, h00⟩, c9⟩
        rw [theL_eq h0]
        exact ⟨0, none, 0, 0, _, rfl, ⟨rfl, rfl, rfl, rfl, rfl⟩, c9⟩
      · rintro e W' ⟨er, p, nl, c, co, w, w1, rfl, _, _, ⟨rfl, rfl, rfl, rfl, rfl⟩, _, c9⟩
        have e1 : pcs h g hk = some (g b) := by simp [pcs, hh]
        rw [e1]
        have n97 : ¬ (9 : Int) = 7 := by omega
        have n98 : ¬ (9 : Int) = 8 := by omega
        simp only [if_neg n97, if_neg n98]
        exact ⟨told_plain rfl rfl, c9⟩
  rw [if_neg (by simp [k7, k8, k9])]
  by_cases k10 : kd = 10
  · subst k10
    rw [if_pos rfl]
    refine (tells_10 H).mono ?_
    rintro e W' ⟨rfl, c⟩
    exact ⟨told_plain rfl (by simp [ansC, errA]), c⟩
  rw [if_neg k10]
  refine (tells_no H k1 k2 k3 k4 k5 k6 k7 k8 k9 k10).mono ?_
  rintro e W' ⟨rfl, c⟩
  exact ⟨told_plain rfl (by simp [ansC, errA]), c⟩
/-- What an operation that tells A leaves. -/
def doF (o : OpP) (A : Ans) (f : Nat → Option Nat) : Nat → Option Nat :=
  if A.e = 0 ∧ (o.kd = 2 ∨ o.kd = 4 ∧ A.d = true) then updO f o.k (some o.v) else if A.e = 0 ∧ o.kd = 3 then updO f o.k none else f
def doH (o : OpP) (A : Ans) (cl : Nat) (h : Nat → Option Nat) : Nat → Option Nat :=
  if A.e = 0 ∧ o.kd = 5 ∧ A.h ≠ 0 then updO h A.h (some cl) else if A.e = 0 ∧ o.kd = 6 then updO h o.hk none else h
theorem MoAt.idle {W W' : World} {m nw hd mu : Nat} {f h : Nat → Option Nat} {g : Nat → Nat → Option Nat} {n : Nat} (H : MoAt W m nw hd mu f h g n) (c : Chg (fun _ => False) W W') (cl : Nat) (hcl : W.heap.size ≤ cl) : MoAt W' m nw hd mu f h (setG g cl f) (n + 1) :=
  ((H.quiet c).fresh (fun k b hb => by have := H.blk.2.2.2 k b hb; omega) f).mono (Nat.le_succ n)
theorem do_all {o : OpP} (ho : o.Ok) {r5 : Bool} {r6 r7 : Int} {kp p : Option Addr} {kc c : Nat} {A : Ans} (hth : A.h < 18446744073709551616) {W : World} {m nw hd mu : Nat} {f h : Nat → Option Nat} {g : Nat → Nat → Option Nat} {n : Nat} (H : MoAt W m nw hd mu f h g n) (hn : n ≤ 8796093022000) :
    Calls Try.prog 58 #[.pointer (some ⟨m, 0, none⟩), .agg (opC o r5 r6 r7 kp kc), .agg (ansC A p c)] W fun e W' => e = .returned (.tuple #[]) ∧ (∃ cl, W.heap.size ≤ cl ∧ MoAt W' m nw hd mu (doF o A f) (doH o A cl h) (setG g cl f) (n + 1)) ∧ Chg (fun i => i = nw ∨ i = hd) W W' := by
  have hmx : n < maxLen := by unfold maxLen; omega
  have fr : ∀ k b, h k = some b → b ≠ W.heap.size := fun k b hb => by have := H.blk.2.2.2 k b hb; omega
  obtain ⟨kd, k, v, od, hk, ks, lo, hi⟩ := o
  obtain ⟨ae, af, ax, ad, ah, al, an⟩ := A
  unfold doF doH opC ansC
  simp only at hth ⊢
  by_cases e0 : ae = 0
  · subst e0
    by_cases k2 : kd = 2
    · subst k2
      refine (do_putG H hmx ho.k ho.v).mono ?_
      rintro e W' ⟨rfl, hM, hC⟩
      refine ⟨rfl, ⟨W.heap.size, Nat.le_refl _, ?_⟩, hC.mono (fun i _ x => .inl x)⟩
      simpa using hM.fresh fr f
    by_cases k3 : kd = 3
    · subst k3
      refine (do_delG H ho.k).mono ?_
      rintro e W' ⟨rfl, hM, hC⟩
      refine ⟨rfl, ⟨W.heap.size, Nat.le_refl _, ?_⟩, hC.mono (fun i _ x => .inl x)⟩
      simpa using (hM.fresh fr f).mono (Nat.le_succ n)
    by_cases k4 : kd = 4
    · subst k4
      cases ad
      · refine (do_swapF H).mono ?_
        rintro e W' ⟨rfl, hC⟩
        refine ⟨rfl, ⟨W.heap.size, Nat.le_refl _, ?_⟩, hC.mono (fun i _ x => x.elim)⟩
        simpa using H.idle hC W.heap.size (Nat.le_refl _)
      · refine (do_swapT H hmx ho.k ho.v).mono ?_
        rintro e W' ⟨rfl, hM, hC⟩
        refine ⟨rfl, ⟨W.heap.size, Nat.le_refl _, ?_⟩, hC.mono (fun i _ x => .inl x)⟩
        simpa using hM.fresh fr f
    by_cases k5 : kd = 5
    · subst k5
      by_cases t0 : ah = 0
      · subst t0
        refine (do_snap0 H).mono ?_
        rintro e W' ⟨rfl, hC⟩
        refine ⟨rfl, ⟨W.heap.size, Nat.le_refl _, ?_⟩, hC.mono (fun i _ x => x.elim)⟩
        simpa using H.idle hC W.heap.size (Nat.le_refl _)
      · refine (do_snapG H hn hth t0).mono ?_
        rintro e W' ⟨rfl, cl, hcl, hM, hC⟩
        refine ⟨rfl, ⟨cl, hcl, ?_⟩, hC.mono (fun i _ x => .inr x)⟩
        simpa [t0] using hM
    by_cases k6 : kd = 6
    · subst k6
      refine (do_relG H ho.hk).mono ?_
      rintro e W' ⟨rfl, hM, hC⟩
      refine ⟨rfl, ⟨W.heap.size, Nat.le_refl _, ?_⟩, hC.mono (fun i _ x => .inr x)⟩
      have := (hM.fresh (cl := W.heap.size) (fun k b hb => by
        by_cases q : k = hk
        · subst q; rw [updO_same] at hb; cases hb
        · rw [updO_other _ _ q] at hb; exact fr k b hb) f).mono (Nat.le_succ n)
      simpa using this
    refine (do_else H k2 k3 k4 k5 k6).mono ?_
    rintro e W' ⟨rfl, hC⟩
    refine ⟨rfl, ⟨W.heap.size, Nat.le_refl _, ?_⟩, hC.mono (fun i _ x => x.elim)⟩
    simpa [k2, k3, k4, k5, k6] using H.idle hC W.heap.size (Nat.le_refl _)
  · refine (do_err H e0).mono ?_
    rintro e W' ⟨rfl, hC⟩
    refine ⟨rfl, ⟨W.heap.size, Nat.le_refl _, ?_⟩, hC.mono (fun i _ x => x.elim)⟩
    simpa [e0] using H.idle hC W.heap.size (Nat.le_refl _)
end Go.Proofs.Ytnhfpnhmdfgckaa
