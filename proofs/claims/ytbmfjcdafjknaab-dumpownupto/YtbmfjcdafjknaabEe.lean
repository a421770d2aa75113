/- What must be whatever is asked. -/
import Derived.Test.YtbmfjcdafjknaabEd
namespace Go.Proofs.Ytbmfjcdafjknaab
open Go.RowKit
set_option linter.unusedVariables false

theorem enc_71 : ∃ s : List Nat, encL [(7, 1)] = [83, 72, 85, 49, 1, 7, 1] ++ s ∧ s.length = 4 := by
  refine ⟨sum4 (sumF (encH [(7, 1)] 1)), ?_, by simp [sum4]⟩
  have e : encH [(7, 1)] 1 = [83, 72, 85, 49, 1, 7, 1] := by
    simp [encH, encI, markB, aheadAt, numB_small]
  unfold encL
  rw [show ([(7, 1)] : List (Nat × Nat)).length = 1 from rfl]
  generalize sumF (encH [(7, 1)] 1) = z
  rw [e]
theorem bytes_at {W : World} {B : Nat} {v : Value} {l : List Nat} (h : BRow W B v l) (hl : l ≠ []) : ∃ bk off c, v = .slice (some ⟨bk, off, none⟩) l.length c ∧ ∀ (i k : Nat), l[i]? = some k → W.cell? ⟨bk, off + i, none⟩ = some (.int .u8 (k : Int)) := by
  obtain ⟨p, c, rfl, hat, _⟩ := h.slice
  obtain ⟨bk, off, rfl, _, hc⟩ := hat.resolve_left hl
  exact ⟨bk, off, c, rfl, fun i k e => (hc i k e).2⟩
theorem pairs_new (W : World) (l : List (Nat × Nat)) (hs : small64 l) : PairsAt (W.alloc (.cells (prRow l).toArray 59)) (some ⟨W.heap.size, 0, none⟩) l := by
  have hh : (W.alloc (.cells (prRow l).toArray 59)).heap[W.heap.size]? = some (.cells (prRow l).toArray 59 (0, 0)) := heap_alloc_new _ _
  refine .inr ⟨W.heap.size, 0, rfl, by simp, fun i k x hi => ?_⟩
  obtain ⟨h1, h2⟩ := prRow_get l i k x hi
  refine ⟨(hs _ (List.mem_of_getElem? hi)).1, (hs _ (List.mem_of_getElem? hi)).2, ?_, ?_⟩
  · rw [cell_of hh]; simpa using h1
  · rw [cell_of hh]; simpa using h2
set_option maxRecDepth 100000 in
set_option maxHeartbeats 4000000 in
theorem live_27 (W : World) : Calls Try.prog 6 #[] W fun e W' => e = .returned (.bool true) ∧ Below W.heap.size W W' := by
  have H1 : ∀ w : World, Calls Try.prog 5 #[.slice (some ⟨w.heap.size, 0, none⟩) 1 1] (w.alloc (.cells #[.int .u64 7, .int .u64 1] 59)) fun e W' => (∃ bk off c, e = .returned (.tuple #[.slice (some ⟨bk, off, none⟩) 11 c, .int .i64 0]) ∧ Hid (w.heap.size < bk ∧ bk < W'.heap.size) ∧ W'.cell? ⟨bk, off, none⟩ = some (.int .u8 83) ∧ W'.cell? ⟨bk, off + 4, none⟩ = some (.int .u8 1) ∧ W'.cell? ⟨bk, off + 5, none⟩ = some (.int .u8 7) ∧ W'.cell? ⟨bk, off + 6, none⟩ = some (.int .u8 1)) ∧ Below w.heap.size w W' := by
    intro w
    have hp := pairs_new w [(7, 1)] (by intro x hx; simp at hx; subst hx; decide)
    refine (enc_yes (l := [(7, 1)]) hp 1 (by decide) rfl).mono ?_
    rintro e W' ⟨⟨v, rfl, hr⟩, hb⟩
    obtain ⟨s, hs, hl⟩ := enc_71
    rw [hs] at hr
    have hlen : ([83, 72, 85, 49, 1, 7, 1] ++ s).length = 11 := by simp [hl]
    obtain ⟨p, c, rfl, hat, hge⟩ := hr.slice
    obtain ⟨bk, off, rfl, hbk, hc⟩ := hat.resolve_left (by simp)
    rw [hlen]
    refine ⟨⟨bk, off, c, rfl, keepH ⟨by have := hge bk off rfl; simp at this; omega, hbk⟩, ?_, ?_, ?_, ?_⟩, below_trans ((Below.refl _ w).alloc (Nat.le_refl _) _) hb⟩
    · simpa using (hc 0 83 rfl).2
    · simpa using (hc 4 1 rfl).2
    · simpa using (hc 5 7 rfl).2
    · simpa using (hc 6 1 rfl).2
  have H2 : ∀ w : World, Calls Try.prog 5 #[.slice (some ⟨w.heap.size, 0, none⟩) 2 2] (w.alloc (.cells #[.int .u64 7, .int .u64 0, .int .u64 7, .int .u64 0] 59)) fun e W' => e = .returned (.tuple #[.slice none 0 0, .int .i64 52]) ∧ Below w.heap.size w W' := by
    intro w
    have hp := pairs_new w [(7, 0), (7, 0)] (by intro x hx; simp at hx; subst hx; decide)
    refine (enc_no (l := [(7, 0), (7, 0)]) hp 2 (by decide) rfl).mono ?_
    rintro e W' ⟨rfl, hb⟩
    exact ⟨rfl, below_trans ((Below.refl _ w).alloc (Nat.le_refl _) _) hb⟩
  go_enter Try.func6, Try.ntmps6
  go_wp2_with (first | (go_at_call 5; refine (H1 _).mono ?_; clear H1; rintro e W1 ⟨⟨bk, off, c, rfl, HK, c0, c4, c5, c6⟩, hB⟩; have HB := keepH hB; clear hB) | (go_at_call 5; refine (H2 _).mono ?_; clear H2; rintro e W2 ⟨rfl, hB2⟩; replace c0 := (hB2.cell (p := ⟨bk, off, none⟩) HK.out.2).trans c0; replace c4 := (hB2.cell (p := ⟨bk, off + 4, none⟩) HK.out.2).trans c4; replace c5 := (hB2.cell (p := ⟨bk, off + 5, none⟩) HK.out.2).trans c5; replace c6 := (hB2.cell (p := ⟨bk, off + 6, none⟩) HK.out.2).trans c6; have HB2 := keepH hB2; clear hB2))
  go_ret
  exact ⟨rfl, below_trans HB.out HB2.out⟩
end Go.Proofs.Ytbmfjcdafjknaab
