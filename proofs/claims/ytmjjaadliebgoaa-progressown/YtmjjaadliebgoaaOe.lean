/- How many of a thread's steps are a call's. -/
import Derived.Test.YtmjjaadliebgoaaOd
namespace Go.Proofs.Ytmjjaadliebgoaa
open Go.RowKit
set_option linter.unusedVariables false

def inN (l : List Int) (d : DidA) : Nat := l.countP fun x => decide (d.fr ≤ x) && (decide (d.tz < 0) || decide (x ≤ d.tz))
def wiN (l : List Int) (d : DidA) : Int := ((if 0 ≤ d.tz then l.countP (fun x => decide (x ≤ d.tz)) else l.length : Nat) : Int) - ((l.countP fun x => decide (x < d.fr) : Nat) : Int)
theorem wi_in (l : List Int) (d : DidA) : max (wiN l d) 1 = ((if inN l d = 0 then 1 else inN l d : Nat) : Int) := by
  by_cases h0 : 0 ≤ d.tz
  · by_cases hc : d.tz < d.fr
    · have e0 : inN l d = 0 := by
        unfold inN
        rw [List.countP_eq_zero]
        intro x hx
        simp
        intro h1
        omega
      have e1 : l.countP (fun x => decide (x ≤ d.tz)) ≤ l.countP (fun x => decide (x < d.fr)) := List.countP_mono_left (fun x _ h => by simp at h ⊢; omega)
      unfold wiN
      rw [e0, if_pos h0]
      simp
      omega
    · have e1 : l.countP (fun x => decide (x ≤ d.tz)) = l.countP (fun x => decide (x < d.fr)) + inN l d := by
        unfold inN
        induction l with
        | nil => rfl
        | cons a l ih =>
          simp only [List.countP_cons, ih]
          by_cases c1 : a ≤ d.tz <;> by_cases c2 : a < d.fr <;> by_cases c3 : d.fr ≤ a <;> simp [c1, c2, c3] <;> omega
      unfold wiN
      rw [if_pos h0, e1]
      split <;> omega
  · have e1 : l.length = l.countP (fun x => decide (x < d.fr)) + inN l d := by
      unfold inN
      induction l with
      | nil => rfl
      | cons a l ih =>
        simp only [List.countP_cons, List.length_cons]
        have h1 : d.tz < 0 := by omega
        by_cases c2 : a < d.fr <;> by_cases c3 : d.fr ≤ a <;> simp [h1, c2, c3] at ih ⊢ <;> omega
    unfold wiN
    rw [if_neg h0]
    split <;> omega
theorem inN_perm {l m : List Int} (h : l.Perm m) (d : DidA) : inN l d = inN m d := h.countP_eq _

set_option maxRecDepth 100000 in
theorem p_upTo (q : Option Addr) (c : Nat) (l : List Int) (t : Int) (W : World) (hr : IReads W q l) (hs : Rises l) (hz : l.length ≤ 4398046511104) :
    Calls Try.prog 26 #[.slice q l.length c, .int .i64 t] W fun e W' => e = .returned (.int .i64 ((l.countP fun x => decide (x ≤ t) : Nat) : Int)) ∧ W' = W := by
  have HF := keepH (p_searchF q c l t W hr hs hz)
  obtain ⟨n, hn⟩ : ∃ n, n = l.countP fun x => decide (x ≤ t) := ⟨_, rfl⟩
  have HN := keepH hn
  clear hn hr hs
  go_enter Try.func26, Try.ntmps26
  go_wp2_with fail
  refine HF.out.mono ?_
  rintro e w ⟨⟨b, rfl⟩, rfl⟩
  rw [← HN.out]
  go_wp2_with fail
  go_ret
  exact ⟨by rw [← HN.out]; simp, rfl⟩
set_option maxRecDepth 100000 in
set_option maxHeartbeats 1000000 in
theorem p_within (q : Option Addr) (c : Nat) (l : List Int) (d : DidA) (W : World) (hr : IReads W q l) (hs : Rises l) (hz : l.length ≤ 4398046511104) :
    Calls Try.prog 14 #[.slice q l.length c, .agg d.cells.toArray] W fun e W' => e = .returned (.int .i64 (wiN l d)) ∧ Chg (fun _ => False) W W' := by
  obtain ⟨W1, hW1⟩ : ∃ W1, W1 = W.alloc (.cells d.cells.toArray 58) := ⟨_, rfl⟩
  have C1 : Chg (fun _ => False) W W1 := by rw [hW1]; exact (Chg.refl _ _).alloc _
  have k1 : W1.heap[W.heap.size]? = some (.cells d.cells.toArray 58 (0, 0)) := by rw [hW1]; exact heap_alloc_new _ _
  have HS1 := keepH (p_search q c l d.fr W1 (hr.chg C1) hs hz)
  have c2 : W1.cell? ⟨W.heap.size, 2, none⟩ = some (.int .i64 d.fr) := cell_of k1 2
  have c3 : W1.cell? ⟨W.heap.size, 3, none⟩ = some (.int .i64 d.tz) := cell_of k1 3
  have HRA : Hid (W1.rangeAt W.heap.size 0 d.cells) := fun j v hv => by rw [cell_of k1]; simpa using hv
  have HC1 := keepH C1
  have HK1 := keepH k1
  obtain ⟨a, ha⟩ : ∃ a, a = l.countP fun x => decide (x < d.fr) := ⟨_, rfl⟩
  have la : a ≤ l.length := by rw [ha]; exact List.countP_le_length
  have HA := keepH ha
  by_cases h0 : 0 ≤ d.tz
  · obtain ⟨b, hb⟩ : ∃ b, b = l.countP fun x => decide (x ≤ d.tz) := ⟨_, rfl⟩
    have lb : b ≤ l.length := by rw [hb]; exact List.countP_le_length
    have ew : wiN l d = (b : Int) - (a : Int) := by unfold wiN; rw [if_pos h0, ← ha, ← hb]
    have HE := keepH ew
    have w1 : IntKind.i64.wrap ((b : Int) - (a : Int)) = (b : Int) - (a : Int) := by rw [IntKind.wrap_i64]; omega
    have e0 : decide (0 ≤ d.tz) = true := by simpa using h0
    have HU : Hid (∀ w, Chg (fun _ => False) W1 w → Calls Try.prog 26 #[.slice q l.length c, .int .i64 d.tz] w fun e W' => e = .returned (.int .i64 (b : Int)) ∧ W' = w) := fun w h => by rw [hb]; exact p_upTo q c l d.tz w ((hr.chg C1).chg h) hs hz
    clear ha hb ew hr C1 k1
    go_enter Try.func14, Try.ntmps14
    go_upto_region 1 with fail
    rw [← hW1]
    clear hW1
    go_wp2_with fail
    refine HS1.out.mono ?_
    rintro e w ⟨⟨bb, rfl⟩, rfl⟩
    rw [← HA.out]
    go_wp2_with (first | (refine wpList_load_mid rfl 58 (.tmp 3) rfl W.heap.size 0 rfl d.cells _ HRA.out Try.underlying58 rfl (did_size d) ?_) | fail)
    refine (p_returned d _).mono ?_
    rintro e w3 ⟨rfl, C3⟩
    rw [e0]
    have c4 : w3.cell? ⟨W.heap.size, 3, none⟩ = some (.int .i64 d.tz) := (cell_chg C3 (lt_of HK1.out)).trans c3
    have HC3 := keepH C3
    clear C3
    go_wp2_with fail
    refine (HU.out _ HC3.out).mono ?_
    rintro e w4 ⟨rfl, rfl⟩
    go_wp2_with fail
    go_ret
    exact ⟨by rw [HE.out]; simp, HC1.out.falls HC3.out⟩
  · have ew : wiN l d = (l.length : Int) - (a : Int) := by unfold wiN; rw [if_neg h0, ← ha]
    have HE := keepH ew
    have w1 : IntKind.i64.wrap ((l.length : Int) - (a : Int)) = (l.length : Int) - (a : Int) := by rw [IntKind.wrap_i64]; omega
    have e0 : decide (0 ≤ d.tz) = false := by simpa using h0
    clear ha ew hr C1 k1
    go_enter Try.func14, Try.ntmps14
    go_upto_region 1 with fail
    rw [← hW1]
    clear hW1
    go_wp2_with fail
    refine HS1.out.mono ?_
    rintro e w ⟨⟨bb, rfl⟩, rfl⟩
    rw [← HA.out]
    go_wp2_with (first | (refine wpList_load_mid rfl 58 (.tmp 3) rfl W.heap.size 0 rfl d.cells _ HRA.out Try.underlying58 rfl (did_size d) ?_) | fail)
    refine (p_returned d _).mono ?_
    rintro e w3 ⟨rfl, C3⟩
    rw [e0]
    have HC3 := keepH C3
    clear C3
    go_wp2_with fail
    go_ret
    exact ⟨by rw [HE.out]; simp, HC1.out.falls HC3.out⟩
end Go.Proofs.Ytmjjaadliebgoaa
