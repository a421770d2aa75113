/- Procs alone; what must be whatever is asked (layer 9). -/
import Derived.Test.YtlgkioaomcobdaaGreatVt
import Derived.Defers
import Derived.Recover
namespace Go.Proofs.YtlgkioaomcobdaaGreat
open Go.RowKit Go.Shelf
set_option linter.unusedVariables false

theorem s_catch (p : Addr) (w : World) :
    CallsD Tryz.prog 46 #[.pointer (some p)] .returning w fun e u' w' => e = .returned (.tuple #[]) ∧ u' = .returning ∧ w' = w := by
  refine callsD_of_wpS Tryz.func46 rfl fun c₀ cs hu => ?_
  apply wpS_seq
  apply wpS_region
  simp [wpOpsS, go_sem, recoverD, hu, Tryz.ntmps46, Exit.thenS]
  refine wpS_cond (t := false) (by simp [Act.eval, Array.replicate]) ?_
  simp only [Bool.false_eq_true, if_false]
  refine wpS_of_wp (wp_skip ?_)
  cases c₀
  simp_all [bodyPostS, results, Tryz.results46]
set_option maxRecDepth 100000 in
set_option maxHeartbeats 1000000 in
theorem alone_any (P V : Value) (Inv : Nat → World → Prop) (n most : Nat) (hn : n < most) (hm : most < 4611686018427387904) (W : World) (h0 : Inv 0 W) (hst : ∀ i w, i ≤ n → Inv i w → Calls Tryz.prog 36 #[P, V] w fun e w' => e = .returned (.bool (decide (i = n))) ∧ Inv (i + 1) w') :
    Calls Tryz.prog 21 #[V, P, .int .i64 (most : Int)] W fun e W' => e = .returned (.bool true) ∧ Inv (n + 1) W' := by
  have H0 := keepH h0
  have HS := keepH hst
  clear h0 hst
  go_enter Tryz.func21, Tryz.ntmps21
  go_wp2_with fail
  go_loopw [8] (fun s wr => ∃ k : Nat, k ≤ n ∧ s = .int .i64 (k : Int) ∧ Hid (Inv k wr)) (fun s _ => n + 1 - (intOf s).toNat)
  case atStart => exact ⟨0, by omega, rfl, H0⟩
  case round =>
    obtain ⟨k, hk, rfl, HI⟩ := hrel
    have i1 : (k : Int) < (most : Int) := by omega
    by_cases e : k = n
    · subst e
      go_wp2_with fail
      refine (HS.out k _ (Nat.le_refl _) HI.out).mono ?_
      rintro e w ⟨rfl, hI⟩
      have HI2 := keepH hI
      have dd : decide (k = k) = true := by simp
      clear hI
      go_wp2_with fail
      go_ret
      exact ⟨by simp, HI2.out⟩
    · go_wp2_with fail
      refine (HS.out k _ hk HI.out).mono ?_
      rintro e' w ⟨rfl, hI⟩
      have HI2 := keepH hI
      have dd : decide (k = n) = false := decide_eq_false e
      clear hI
      go_wp2_with fail
      go_roundw
      case rel => exact ⟨k + 1, by omega, by first | rfl | go_num, HI2⟩
      case measure => simp [intOf]; omega

theorem CS.alloc {W : World} {m b v most : Nat} {w : World} {next made : Nat} {cs : List Nat} {n : Nat} {D : Nat → Prop} {p : Nat} {t : TypeId} {l : List Value} {q : Option Nat} {cam pos st : Nat} (h : CS W m b v most w next made cs n D p t l q cam pos st) (o : Obj) : CS W m b v most (w.alloc o) next made cs n (fun k => D k ∨ k = w.heap.size) p t l q cam pos st := by
  refine ⟨(h.sr.alloc o).mono (fun k e => ?_), fun e => e.elim h.np (fun z => by have := lt_of h.blk; omega), fun k e => ⟨fun z => z.elim (h.nq k e).1 (fun z => by have := lt_of (h.nq k e).2.2; omega), (h.nq k e).2.1, alloc_of (h.nq k e).2.2 _⟩, alloc_of h.blk _⟩
  rcases e with (e | e) | e
  · exact .inl (.inl e)
  · exact .inr e
  · exact .inl (.inr e)
theorem CS.drop {W : World} {m b v most : Nat} {w : World} {next made : Nat} {cs : List Nat} {n : Nat} {D : Nat → Prop} {p : Nat} {t : TypeId} {l : List Value} {q : Option Nat} {cam pos st g : Nat} (h : CS W m b v most w next made cs n (fun k => D k ∨ k = g) p t l q cam pos st) (u : Value) : CS W m b v most (w.setCell ⟨g, 0, none⟩ u) next made cs n D p t l q cam pos st := by
  have hp : p ≠ g := fun e => h.np (.inr e)
  refine ⟨(h.sr.put (setP (p := g) (i := 0) u) (fun k e => .inl (.inr e))).mono (fun k e => ?_), fun e => h.np (.inl e), fun k e => ⟨fun z => (h.nq k e).1 (.inl z), (h.nq k e).2.1, (Below.heap_setCell _ _ _ _ (fun z => (h.nq k e).1 (.inr z))).trans (h.nq k e).2.2⟩, (Below.heap_setCell _ _ _ _ hp).trans h.blk⟩
  rcases e with e | e
  · exact .inl (.inl e)
  · exact .inr e

end Go.Proofs.YtlgkioaomcobdaaGreat
