/- What must be whatever is asked (layer 9). -/
import Derived.Test.YtokooplfjibneaaGreatVu
namespace Go.Proofs.YtokooplfjibneaaGreat
open Go.RowKit Go.Shelf
set_option linter.unusedVariables false

def D1 (pr : Nat) : Nat → Prop := fun k => k = pr
def LC (W : World) (m b v pr p : Nat) (next made : Nat) (cs : List Nat) (l : List Value) (q : Option Nat) (pos st : Nat) (w : World) : Prop := CS W m b v 128 w next made cs (made + 1) (D1 pr) p 172 l q 1 pos st ∧ Blk w pr 150 (r0L 1 2)
theorem lc_step {W : World} {m b v pr p next made : Nat} {cs : List Nat} {l : List Value} {q : Option Nat} {pos st : Nat} {w : World} (h : LC W m b v pr p next made cs l q pos st w) (d : Bool) (Q T : World → Prop)
    (hs : ∀ w0 D, CS W m b v 128 w0 next made cs (made + 1) D p 172 l q 1 pos st → (D = fun k => D1 pr k ∨ k = w.heap.size) → Calls Tryz.prog 95 #[.pointer (some ⟨p, 0, none⟩), .pointer (some ⟨v, 0, none⟩)] w0 fun e w' => e = .returned (.bool d) ∧ Q w' ∧ ∀ k, D k → w'.heap[k]? = w0.heap[k]?)
    (hT : ∀ w1, Q w1 → Blk w1 pr 150 (r0L 1 2) → pr ≠ w.heap.size → T (w1.setCell ⟨w.heap.size, 0, none⟩ (.bool d))) :
    Calls Tryz.prog 39 #[.iface 62 (.pointer (some ⟨p, 0, none⟩)), .pointer (some ⟨v, 0, none⟩)] w fun e w' => e = .returned (.bool d) ∧ T w' := by
  have c0 := h.1.alloc (.cells #[.bool false] 4)
  have hz : pr < w.heap.size := lt_of h.2
  have b0 : Blk (w.alloc (.cells #[.bool false] 4)) pr 150 (r0L 1 2) := alloc_of h.2 _
  refine (so_cas p _ d (fun w1 => Q w1 ∧ Blk w1 pr 150 (r0L 1 2)) w ((hs _ _ c0 rfl).mono ?_)).mono ?_
  · rintro e w1 ⟨rfl, hq, hk⟩
    exact ⟨rfl, ⟨hq, (hk pr (.inl rfl)).trans b0⟩, hk _ (.inr rfl)⟩
  · rintro e w' ⟨rfl, w1, ⟨hq, hb⟩, rfl⟩
    exact ⟨rfl, hT w1 hq hb (by omega)⟩

def LInv (W : World) (m b v pr p : Nat) : Nat → World → Prop
  | 0, w => LC W m b v pr p 5 0 [0, 1, 0, 0, 0] (c0L 1 2 5) none 0 0 w
  | 1, w => LC W m b v pr p 5 1 [0, 1, 0, 0, 0] (c1L 1 2 5) none 0 0 w
  | 2, w => LC W m b v pr p 8 2 [0, 1, 0, 0, 0, 5, 0, 0] (c2L 1 2 5 5) none 0 0 w
  | 3, w => LC W m b v pr p 8 3 [0, 1, 5, 0, 0, 5, 0, 0] (c3L 1 2 5 5 0 (.pointer none) 4 false) none 0 0 w
  | 4, w => ∃ q, LC W m b v pr p 8 4 [0, 1, 5, 0, 0, 5, 0, 0] (c3L 1 2 5 5 1 (.pointer (some ⟨q, 0, none⟩)) 4 true) (some q) 0 0 w
  | 5, w => ∃ q, LC W m b v pr p 8 5 [0, 1, 5, 0, 0, 5, 0, 0] (c3L 1 2 5 5 2 (.pointer (some ⟨q, 0, none⟩)) 4 true) (some q) 2 1 w
  | _, w => ∃ q, LC W m b v pr p 8 6 [0, 1, 5, 0, 0, 5, 1, 0] (c3L 1 2 5 5 3 (.pointer (some ⟨q, 0, none⟩)) 6 true) (some q) 2 1 w
theorem LC.put {W : World} {m b v pr p next made : Nat} {cs : List Nat} {l : List Value} {q : Option Nat} {pos st g : Nat} {w : World} (h : CS W m b v 128 w next made cs (made + 1) (fun k => D1 pr k ∨ k = g) p 172 l q 1 pos st) (hb : Blk w pr 150 (r0L 1 2)) (hne : pr ≠ g) (u : Value) : LC W m b v pr p next made cs l q pos st (w.setCell ⟨g, 0, none⟩ u) :=
  ⟨h.drop u, (Below.heap_setCell _ _ _ _ hne).trans hb⟩
theorem linv_step (W : World) (m b v pr p : Nat) (i : Nat) (w : World) (hi : i ≤ 5) (h : LInv W m b v pr p i w) : Calls Tryz.prog 39 #[.iface 62 (.pointer (some ⟨p, 0, none⟩)), .pointer (some ⟨v, 0, none⟩)] w fun e w' => e = .returned (.bool (decide (i = 5))) ∧ LInv W m b v pr p (i + 1) w' := by
  match i, hi, h with
  | 0, _, h =>
    refine lc_step h false (fun w1 => CS W m b v 128 w1 5 1 [0, 1, 0, 0, 0] (1 + 1) (fun k => D1 pr k ∨ k = w.heap.size) p 172 (c1L 1 2 5) none 1 0 0) _ (fun w0 D hc hD => ?_) (fun w1 hq hb hne => LC.put hq hb hne _)
    subst hD
    exact cs_s1 hc (by decide) (by decide) (by decide) (by decide) (by decide)
  | 1, _, h =>
    refine lc_step h false (fun w1 => CS W m b v 128 w1 8 2 [0, 1, 0, 0, 0, 5, 0, 0] (2 + 1) (fun k => D1 pr k ∨ k = w.heap.size) p 172 (c2L 1 2 5 5) none 1 0 0) _ (fun w0 D hc hD => ?_) (fun w1 hq hb hne => LC.put hq hb hne _)
    subst hD
    have z := cs_s2 (c := 5) hc (by decide) (by decide) (by decide) (by decide) (by decide)
    rw [show alNext 128 5 3 = 8 by decide, show alN 128 5 [0, 1, 0, 0, 0] [5, 0, 0] = [0, 1, 0, 0, 0, 5, 0, 0] by decide] at z
    exact z
  | 2, _, h =>
    refine lc_step h false (fun w1 => CS W m b v 128 w1 8 3 [0, 1, 5, 0, 0, 5, 0, 0] (3 + 1) (fun k => D1 pr k ∨ k = w.heap.size) p 172 (c3L 1 2 5 5 0 (.pointer none) 4 false) none 1 0 0) _ (fun w0 D hc hD => ?_) (fun w1 hq hb hne => LC.put hq hb hne _)
    subst hD
    have z := cs_s3 hc (by decide) (by decide) (by decide) (by decide) (by decide)
    rw [show casN 128 [0, 1, 0, 0, 0, 5, 0, 0] 2 0 5 = [0, 1, 5, 0, 0, 5, 0, 0] by decide] at z
    exact z
  | 3, _, h =>
    refine lc_step h false (fun w1 => ∃ q, CS W m b v 128 w1 8 4 [0, 1, 5, 0, 0, 5, 0, 0] (4 + 1) (fun k => D1 pr k ∨ k = w.heap.size) p 172 (c3L 1 2 5 5 1 (.pointer (some ⟨q, 0, none⟩)) 4 true) (some q) 1 0 0) _ (fun w0 D hc hD => ?_) (fun w1 hq hb hne => ?_)
    · subst hD
      exact cs_s4 (a := 6) hc (by decide) (by decide) (by decide) (by decide)
    · obtain ⟨q, hq⟩ := hq
      exact ⟨q, LC.put hq hb hne _⟩
  | 4, _, h =>
    obtain ⟨q, h⟩ := h
    refine lc_step h false (fun w1 => CS W m b v 128 w1 8 5 [0, 1, 5, 0, 0, 5, 0, 0] (5 + 1) (fun k => D1 pr k ∨ k = w.heap.size) p 172 (c3L 1 2 5 5 2 (.pointer (some ⟨q, 0, none⟩)) 4 true) (some q) 1 2 1) _ (fun w0 D hc hD => ?_) (fun w1 hq hb hne => ⟨q, LC.put hq hb hne _⟩)
    subst hD
    exact cs_s5 hc (by decide) (by decide) (by decide)
  | 5, _, h =>
    obtain ⟨q, h⟩ := h
    refine lc_step h true (fun w1 => CS W m b v 128 w1 8 6 [0, 1, 5, 0, 0, 5, 1, 0] (6 + 1) (fun k => D1 pr k ∨ k = w.heap.size) p 172 (c3L 1 2 5 5 3 (.pointer (some ⟨q, 0, none⟩)) 6 true) (some q) 1 2 1) _ (fun w0 D hc hD => ?_) (fun w1 hq hb hne => ⟨q, LC.put hq hb hne _⟩)
    subst hD
    have z := cs_s6 (a := 6) hc (by decide) (by decide) (by decide) (by decide)
    rw [show casN 128 [0, 1, 5, 0, 0, 5, 0, 0] 6 0 1 = [0, 1, 5, 0, 0, 5, 1, 0] by decide] at z
    exact z

def RInv (W : World) (m b v pr : Nat) : Nat → World → Prop
  | 0, w => CS W m b v 128 w 8 6 [0, 1, 5, 0, 0, 5, 1, 0] 7 (fun _ => False) pr 150 (r0L 1 2) none 1 0 0
  | 1, w => CS W m b v 128 w 8 7 [0, 1, 5, 0, 0, 5, 1, 0] 8 (fun _ => False) pr 150 (r1L 1 2 5) none 1 0 0
  | 2, w => CS W m b v 128 w 8 8 [0, 1, 5, 0, 0, 5, 1, 0] 9 (fun _ => False) pr 150 (r2L 1 2 5) none 1 0 0
  | _, w => CS W m b v 128 w 8 9 [0, 1, 5, 0, 0, 5, 1, 0] 10 (fun _ => False) pr 150 (r3L 1 2 5 5) none 1 0 0
theorem rc_step {W : World} {m b v pr next made n : Nat} {cs : List Nat} {l : List Value} {w : World} (h : CS W m b v 128 w next made cs n (fun _ => False) pr 150 l none 1 0 0) (d : Bool) {made' n' : Nat} {l' : List Value}
    (hs : ∀ w0 D, CS W m b v 128 w0 next made cs n D pr 150 l none 1 0 0 → Calls Tryz.prog 74 #[.pointer (some ⟨pr, 0, none⟩), .pointer (some ⟨v, 0, none⟩)] w0 fun e w' => e = .returned (.bool d) ∧ CS W m b v 128 w' next made' cs n' D pr 150 l' none 1 0 0 ∧ ∀ k, D k → w'.heap[k]? = w0.heap[k]?) :
    Calls Tryz.prog 39 #[.iface 46 (.pointer (some ⟨pr, 0, none⟩)), .pointer (some ⟨v, 0, none⟩)] w fun e w' => e = .returned (.bool d) ∧ CS W m b v 128 w' next made' cs n' (fun _ => False) pr 150 l' none 1 0 0 := by
  have c0 := h.alloc (.cells #[.bool false] 4)
  refine (so_read pr _ d (fun w1 => CS W m b v 128 w1 next made' cs n' (fun k => False ∨ k = w.heap.size) pr 150 l' none 1 0 0) w ((hs _ _ c0).mono ?_)).mono ?_
  · rintro e w1 ⟨rfl, hq, hk⟩
    exact ⟨rfl, hq, hk _ (.inr rfl)⟩
  · rintro e w' ⟨rfl, w1, hq, rfl⟩
    exact ⟨rfl, hq.drop _⟩
theorem rinv_step (W : World) (m b v pr : Nat) (i : Nat) (w : World) (hi : i ≤ 2) (h : RInv W m b v pr i w) : Calls Tryz.prog 39 #[.iface 46 (.pointer (some ⟨pr, 0, none⟩)), .pointer (some ⟨v, 0, none⟩)] w fun e w' => e = .returned (.bool (decide (i = 2))) ∧ RInv W m b v pr (i + 1) w' := by
  match i, hi, h with
  | 0, _, h => exact rc_step h false (fun w0 D hc => rd_s1 (c := 5) hc (by decide) (by decide) (by decide) (by decide) (by decide))
  | 1, _, h => exact rc_step h false (fun w0 D hc => rd_s2 (a := 6) (s := 1) hc (by decide) (by decide) (by decide) (by decide) (by decide) (by decide))
  | 2, _, h => exact rc_step h true (fun w0 D hc => rd_s3 (x := 5) hc (by decide) (by decide) (by decide) (by decide))

end Go.Proofs.YtokooplfjibneaaGreat
