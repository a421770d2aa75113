/- What Do tells, Take lets be told, and both leave the same. -/
import Derived.Test.YtgaincicbgojjaaNt
import Derived.Test.YtgaincicbgojjaaNp
namespace Go.Proofs.Ytgaincicbgojjaa
open Go.RowKit Go.Maps
set_option linter.unusedVariables false

def doP (o : OpP) (A : Ans) (f : Nat → Option Nat) (pc : Nat → Option (Nat → Option Nat)) : Nat → Option (Nat → Option Nat) := fun k =>
  if A.e = 0 ∧ o.kd = 5 ∧ A.h ≠ 0 then (if k = A.h then some f else pc k) else if A.e = 0 ∧ o.kd = 6 then (if k = o.hk then none else pc k) else pc k
theorem pcs_set {h : Nat → Option Nat} {g : Nat → Nat → Option Nat} {cl : Nat} (hc : ∀ k b, h k = some b → b ≠ cl) (f : Nat → Option Nat) (k : Nat) : pcs h (setG g cl f) k = pcs h g k := by
  unfold pcs
  cases hk : h k with
  | none => rfl
  | some b => simp [setG_other g f (hc k b hk)]
theorem pcs_do (o : OpP) (A : Ans) {f h : Nat → Option Nat} {g : Nat → Nat → Option Nat} {cl : Nat} (hc : ∀ k b, h k = some b → b ≠ cl) : pcs (doH o A cl h) (setG g cl f) = doP o A f (pcs h g) := by
  funext k
  unfold doH doP
  split
  · by_cases e : k = A.h
    · subst e
      rw [if_pos rfl]
      simp [pcs, updO_same, setG_same]
    · rw [if_neg e, ← pcs_set hc f k]
      unfold pcs
      rw [updO_other _ _ e]
  · split
    · by_cases e : k = o.hk
      · subst e
        rw [if_pos rfl]
        simp [pcs, updO_same]
      · rw [if_neg e, ← pcs_set hc f k]
        unfold pcs
        rw [updO_other _ _ e]
    · exact pcs_set hc f k
theorem do_told {o : OpP} (ho : o.Ok) {r5 : Bool} {r6 r7 : Int} {kp : Option Addr} {kc th : Nat} (hth : th < 18446744073709551616) {W : World} {m nw hd mu : Nat} {f h : Nat → Option Nat} {g : Nat → Nat → Option Nat} {n : Nat} (H : MoAt W m nw hd mu f h g n) (hmu : mu ≤ 1024) (hn : n ≤ 8796093022000) (hks : KeysAt W kp o.ks) {A : Ans} (hA : A = tellP mu f (pcs h g) o th) :
    Calls Try.prog 39 #[.pointer (some ⟨m, 0, none⟩), .agg #[.int .u8 o.kd, .int .u64 (o.k : Int), .int .u64 (o.v : Int), .int .u64 (o.od : Int), .int .u64 (o.hk : Int), .bool r5, .int .i64 r6, .int .i64 r7, .slice kp o.ks.length kc, .int .u64 (o.lo : Int), .int .u64 (o.hi : Int)], .int .u64 (th : Int)] W fun e W' => Told W W' A e ∧ (∃ h' g', MoAt W' m nw hd mu (doF o A f) h' g' (n + 1) ∧ pcs h' g' = doP o A f (pcs h g)) ∧ Chg (fun i => i = nw ∨ i = hd) W W' := by
  refine (Do_all ho hth H hmu hn hks hA).mono ?_
  rintro e W' ⟨h1, ⟨cl, hcl, hM⟩, hc⟩
  exact ⟨h1, ⟨_, _, hM, pcs_do o A (fun k b hb => by have := H.blk.2.2.2 k b hb; omega)⟩, hc⟩
theorem tellP_any (mu : Nat) (f : Nat → Option Nat) (pc : Nat → Option (Nat → Option Nat)) (o : OpP) (th th' : Nat) (h : ¬ o.kd = 5) : tellP mu f pc o th = tellP mu f pc o th' := by
  unfold tellP
  rw [if_neg h, if_neg h]
theorem tellP_e (mu : Nat) (f : Nat → Option Nat) (pc : Nat → Option (Nat → Option Nat)) (o : OpP) (th : Nat) : (tellP mu f pc o th).e = 0 ∨ ((tellP mu f pc o th).e = 32 ∧ o.kd = 5) ∨ (tellP mu f pc o th).e = 33 ∨ (tellP mu f pc o th).e = 6 ∨ (tellP mu f pc o th).e = 160 := by
  unfold tellP
  split
  · simp
  split
  · simp
  split
  · split
    · simp [errA, *]
    · simp
  split
  · split <;> simp [errA]
  split
  · simp [errA]
  split
  · split
    · simp [errA]
    · split
      · simp
      · split <;> simp
  split <;> simp [errA]
theorem may_told (mu : Nat) (f : Nat → Option Nat) (pc : Nat → Option (Nat → Option Nat)) (o : OpP) (th : Nat) (a : Int) (h : ¬ o.kd = 5) : mayP o.kd (tellP mu f pc o th).e a = false := by
  unfold mayP
  rcases tellP_e mu f pc o th with e | ⟨e, e2⟩ | e | e | e
  · rw [e]; rfl
  · exact absurd e2 h
  · rw [e]; rfl
  · rw [e]; rfl
  · rw [e]; rfl
theorem tellP_5 (mu : Nat) (f : Nat → Option Nat) (pc : Nat → Option (Nat → Option Nat)) (o : OpP) (th : Nat) (h : o.kd = 5) : tellP mu f pc o th = if (pc th).isSome then errA 32 else ⟨0, false, 0, false, th, [], 0⟩ := by
  unfold tellP
  rw [if_neg (by omega), if_neg (by omega), if_pos h]
theorem take_told {o : OpP} (ho : o.Ok) {r5 : Bool} {r6 r7 : Int} {kp pb : Option Addr} {kc cb th : Nat} (hth : th < 18446744073709551616) {W : World} {m nw hd mu : Nat} {f h : Nat → Option Nat} {g : Nat → Nat → Option Nat} {n : Nat} (H : MoAt W m nw hd mu f h g n) (hmu : mu ≤ 1024) (hn : n ≤ 8796093022000) (hks : KeysAt W kp o.ks) {A : Ans} (hA : A = tellP mu f (pcs h g) o th) (hB : PairsAt W pb A.l) (hBl : A.l.length ≤ 9223372036854775807) (h5 : o.kd = 5 → th ≠ 0) :
    Calls Try.prog 12 #[.pointer (some ⟨m, 0, none⟩), .agg #[.int .u8 o.kd, .int .u64 (o.k : Int), .int .u64 (o.v : Int), .int .u64 (o.od : Int), .int .u64 (o.hk : Int), .bool r5, .int .i64 r6, .int .i64 r7, .slice kp o.ks.length kc, .int .u64 (o.lo : Int), .int .u64 (o.hi : Int)], .agg #[.int .i64 A.e, .bool A.f, .int .u64 (A.x : Int), .bool A.d, .int .u64 (A.h : Int), .slice pb A.l.length cb, .int .u64 (A.n : Int)]] W fun e W' => e = .returned (.bool true) ∧ (∃ h' g', MoAt W' m nw hd mu (doF o A f) h' g' (n + 1) ∧ pcs h' g' = doP o A f (pcs h g)) ∧ Chg (fun i => i = nw ∨ i = hd) W W' := by
  have hAh : A.h < 18446744073709551616 := by rw [hA]; exact tellP_h mu f _ o hth
  have yes : ∀ {e : Ending} {W' : World}, (e = .returned (.bool true) ∧ (∃ cl, W.heap.size ≤ cl ∧ MoAt W' m nw hd mu (doF o A f) (doH o A cl h) (setG g cl f) (n + 1)) ∧ Chg (fun i => i = nw ∨ i = hd) W W') → (e = .returned (.bool true) ∧ (∃ h' g', MoAt W' m nw hd mu (doF o A f) h' g' (n + 1) ∧ pcs h' g' = doP o A f (pcs h g)) ∧ Chg (fun i => i = nw ∨ i = hd) W W') := by
    rintro e W' ⟨h1, ⟨cl, hcl, hM⟩, hc⟩
    exact ⟨h1, ⟨_, _, hM, pcs_do o A (fun k b hb => by have := H.blk.2.2.2 k b hb; omega)⟩, hc⟩
  by_cases k5 : o.kd = 5
  · have e5 := tellP_5 mu f (pcs h g) o th k5
    by_cases hh : (pcs h g th).isSome = true
    · rw [if_pos hh, ← hA] at e5
      have bb : true = decide (A = (⟨A.e, false, 0, false, 0, [], 0⟩ : Ans)) := by rw [e5]; rfl
      refine (take_fail ho hAh H hmu hn hks hB hBl (A := tellP mu f (pcs h g) o A.h) rfl (by rw [k5, e5]; rfl) bb).mono ?_
      rintro e W' ⟨rfl, c⟩
      refine ⟨rfl, ⟨h, g, ?_, ?_⟩, c.mono (fun _ _ x => x.elim)⟩
      · have e1 : doF o A f = f := by
          unfold doF
          rw [if_neg (by rw [e5]; simp [errA]), if_neg (by rw [e5]; simp [errA])]
        rw [e1]
        exact (H.quiet c).mono (Nat.le_succ n)
      · funext k
        unfold doP
        rw [if_neg (by rw [e5]; simp [errA]), if_neg (by rw [e5]; simp [errA])]
    · rw [if_neg hh, ← hA] at e5
      have eA : A = tellP mu f (pcs h g) o A.h := by
        rw [show A.h = th by rw [e5]]
        exact hA
      exact (take_yes5 ho hAh H hmu hn hks hB hBl eA (by rw [k5, e5]; rfl) k5 (by rw [e5]; exact h5 k5) rfl).mono (fun e W' => yes)
  · have eA : A = tellP mu f (pcs h g) o A.h := hA.trans (tellP_any mu f _ o th A.h k5)
    have hm : mayP o.kd A.e A.e = false := by
      have := may_told mu f (pcs h g) o th A.e k5
      rwa [← hA] at this
    by_cases k10 : o.kd = 10
    · exact (take_yes10 ho hAh H hmu hn hks hB hBl eA hm k10 rfl).mono (fun e W' => yes)
    · exact (take_yes ho hAh H hmu hn hks hB hBl eA hm k5 k10 rfl).mono (fun e W' => yes)
end Go.Proofs.Ytgaincicbgojjaa
