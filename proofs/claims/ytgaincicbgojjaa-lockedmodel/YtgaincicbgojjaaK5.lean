/- A handle let go. -/
import Derived.Test.YtgaincicbgojjaaK4
namespace Go.Proofs.Ytgaincicbgojjaa
open Go.RowKit
set_option linter.unusedVariables false

theorem go_row {l : List (Bool × Nat)} {i g : Nat} (h : l[i]? = some (true, g)) : ((slC l).toArray.setIfInBounds (i * 2) (.bool false)) = (slC (l.set i (false, g))).toArray := by
  rw [← (slC_set l i true g h false 0).1]
  simp
theorem go_row1 {l : List (Bool × Nat)} {i g : Nat} (h : l[i]? = some (false, g)) : ((slC l).toArray.setIfInBounds (i * 2 + 1) (.int .u64 ((g : Int) + 1))) = (slC (l.set i (false, g + 1))).toArray := by
  rw [← (slC_set l i false g h false (g + 1)).2]
  simp
set_option maxRecDepth 100000 in
set_option maxHeartbeats 1000000 in
theorem let_go {W : World} {s sb m lk hc lf dn : Nat} {sl : List (Bool × Nat)} (h : SlAt W s sb m lk hc lf dn sl) {i g : Nat} (hx : sl[i]? = some (true, g)) (hg : g < 1048575) (hc1 : 1 ≤ hc) (hcl : hc ≤ 256) :
    Calls Try.prog 64 #[.pointer (some ⟨s, 3, none⟩), .int .u64 (hdl i g : Int)] W fun e W' => e = .returned (.tuple #[]) ∧ SlAt W' s sb m lk (hc - 1) lf dn (sl.set i (false, g + 1)) ∧ Chg (fun k => k = s ∨ k = sb) W W' := by
  have hil := (List.getElem?_eq_some_iff.1 hx).1
  have hlen := h.len
  have HU := keepH (unhandle_any (hdl i g : Int) W (by unfold hdl; omega) (by unfold hdl; omega))
  have e0 : unS (hdl i g : Int) = (i : Int) ∧ unE (hdl i g : Int) = 0 := by
    have z1 : (hdl i g : Int) % 65536 = (i : Int) + 1 := by unfold hdl; omega
    have z2 : (hdl i g : Int) / 65536 = (g : Int) := by unfold hdl; omega
    refine ⟨?_, ?_⟩
    · unfold unS
      rw [z1, z2, if_neg (by omega), if_neg (by omega), if_neg (by omega)]
      omega
    · unfold unE
      rw [z1, z2, if_neg (by omega), if_neg (by omega), if_neg (by omega)]
  rw [e0.1, e0.2] at HU
  obtain ⟨ug, hug⟩ : ∃ ug, ug = unG (hdl i g : Int) := ⟨_, rfl⟩
  rw [← hug] at HU
  obtain ⟨hv, hhv⟩ : ∃ hv, hv = hdl i g := ⟨_, rfl⟩
  rw [← hhv] at HU ⊢
  clear hug hhv e0
  obtain ⟨N, hN⟩ : ∃ N, N = sl.length := ⟨_, rfl⟩
  obtain ⟨w2, hw2⟩ : ∃ w2, w2 = W.setCell ⟨sb, i * 2, none⟩ (.bool false) := ⟨_, rfl⟩
  have S2 : SlAt w2 s sb m lk hc lf dn (sl.set i (false, g)) := by
    rw [hw2]
    exact ⟨by rw [List.length_set]; exact other_of h.st h.ne _, by rw [← go_row hx]; exact set_of h.row _ _, by rw [List.length_set]; exact h.len⟩
  have hx2 : (sl.set i (false, g))[i]? = some (false, g) := by rw [List.getElem?_set_self hil]
  obtain ⟨w3, hw3⟩ : ∃ w3, w3 = w2.setCell ⟨sb, i * 2 + 1, none⟩ (.int .u64 ((g : Int) + 1)) := ⟨_, rfl⟩
  have S3 : SlAt w3 s sb m lk hc lf dn (sl.set i (false, g + 1)) := by
    rw [hw3]
    refine ⟨?_, ?_, by rw [List.length_set]; exact h.len⟩
    · have := other_of (k := i * 2 + 1) S2.st S2.ne (.int .u64 ((g : Int) + 1))
      rw [List.length_set] at this ⊢
      exact this
    · have := set_of S2.row (i * 2 + 1) (.int .u64 ((g : Int) + 1))
      rw [go_row1 hx2] at this
      rw [List.set_set] at this
      exact this
  obtain ⟨w4, hw4⟩ : ∃ w4, w4 = w3.setCell ⟨s, 4, none⟩ (.int .i64 ((hc : Int) - 1)) := ⟨_, rfl⟩
  have S4 : SlAt w4 s sb m lk (hc - 1) lf dn (sl.set i (false, g + 1)) := by
    rw [hw4]
    refine ⟨?_, other_of S3.row (Ne.symm S3.ne) _, S3.len⟩
    have := set_of S3.st 4 (.int .i64 ((hc : Int) - 1))
    have e : ((hc - 1 : Nat) : Int) = (hc : Int) - 1 := by omega
    unfold stC at this ⊢
    rw [e]
    exact this
  have HE : Hid (SlAt w4 s sb m lk (hc - 1) lf dn (sl.set i (false, g + 1)) ∧ Chg (fun k => k = s ∨ k = sb) W w4) := by
    refine ⟨S4, ?_⟩
    rw [hw4, hw3, hw2]
    exact (((Chg.refl (fun k => k = s ∨ k = sb) W).setCell (fun _ => .inr rfl) _).setCell (fun _ => .inr rfl) _).setCell (fun _ => .inl rfl) _
  have d3 : W.cell? ⟨s, 3, none⟩ = some (.slice (some ⟨sb, 0, none⟩) N N) := by rw [cell_of h.st, hN]; rfl
  have d0 : W.cell? ⟨sb, i * 2, none⟩ = some (.bool true) := by
    rw [cell_of h.row]
    simpa using (slC_get sl i (true, g) hx).1
  have e3 : w2.cell? ⟨s, 3, none⟩ = some (.slice (some ⟨sb, 0, none⟩) N N) := by rw [cell_of S2.st, List.length_set, hN]; rfl
  have e1 : w2.cell? ⟨sb, i * 2 + 1, none⟩ = some (.int .u64 (g : Int)) := by
    rw [cell_of S2.row]
    simpa using (slC_get _ i (false, g) hx2).2
  have d4 : w3.cell? ⟨s, 4, none⟩ = some (.int .i64 (hc : Int)) := by rw [cell_of S3.st]; rfl
  have f0 := free_of h.row (i * 2)
  have f1 := free_of S2.row (i * 2 + 1)
  have f4 := free_of S3.st 4
  have i1 : ¬ (i : Int) < 0 := by omega
  have i2 : (i : Int) < (N : Int) := by omega
  have i3 : i < N := by omega
  have b1 : (hc : Int) ≤ 256 := by omega
  have b2 : (1 : Int) ≤ (hc : Int) := by omega
  have b3 : (g : Int) < 1048575 := by omega
  have HW2 := keepH hw2
  have HW3 := keepH hw3
  have HW4 := keepH hw4
  clear S2 S3 S4 h hx hx2 hg hc1 hcl hlen hil hw2 hw3 hw4 hN
  go_enter Try.func64, Try.ntmps64
  go_wp2_with fail
  refine HU.out.mono ?_
  rintro e w9 ⟨rfl, rfl⟩
  go_upto_region 3 with fail
  rw [← HW2.out]
  go_upto_region 4 with fail
  rw [← HW3.out]
  go_wp2_with fail
  rw [← HW4.out]
  go_end0
  exact ⟨rfl, HE.out.1, HE.out.2⟩
end Go.Proofs.Ytgaincicbgojjaa
