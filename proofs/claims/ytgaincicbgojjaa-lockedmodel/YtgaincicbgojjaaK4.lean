/- A handle taken; a handle let go. -/
import Derived.Test.YtgaincicbgojjaaK3
import Derived.Deep.RegionHeld3
import Derived.Deep.MidRow
import Derived.Deep.CutRange
namespace Go.Proofs.Ytgaincicbgojjaa
open Go.RowKit
set_option linter.unusedVariables false

def hdl (i g : Nat) : Nat := i + 1 + g * 65536
set_option maxRecDepth 100000 in
set_option maxHeartbeats 1000000 in
theorem take_ok {W : World} {s sb m lk hc lf dn : Nat} {sl : List (Bool × Nat)} (h : SlAt W s sb m lk hc lf dn sl) (hc64 : hc ≠ sl.length) (hcl : hc ≤ sl.length) (hlf : lf ≠ 0) (hlf64 : lf < 18446744073709551616) {i g : Nat} (hi : idxS sl = some i) (hx : sl[i]? = some (false, g)) (hg : g < 1048575) :
    Calls Try.prog 63 #[.pointer (some ⟨s, 3, none⟩)] W fun e W' => e = .returned (.tuple #[.int .u64 (hdl i g : Int), .int .i64 0]) ∧ SlAt W' s sb m lk (hc + 1) (lf - 1) dn (sl.set i (true, g)) ∧ Chg (fun k => k = s ∨ k = sb) W W' := by
  obtain ⟨hv, hhv⟩ : ∃ hv, hv = hdl i g := ⟨_, rfl⟩
  rw [← hhv]
  have HHV := keepH hhv
  clear hhv
  have hil := (List.getElem?_eq_some_iff.1 hx).1
  have HI : ∀ n, Hid (Calls Try.prog 81 #[.slice (some ⟨sb, 0, none⟩) sl.length sl.length, .func (.func 82) #[] #[]] (W.drewN n) fun e W' => e = .returned (.int .i64 (i : Int)) ∧ Chg (fun _ => False) W W') := fun n => by
    refine (k_idx (c := sl.length) (W := W.drewN n) (by rw [heap_drewN]; exact h.row) h.len).mono ?_
    rintro e w ⟨rfl, c⟩
    exact ⟨by unfold idxI; rw [hi], ((Chg.refl (fun _ => False) W).drewN n).trans c (fun _ _ x => x) (fun _ _ x => x)⟩
  have HS := keepH h
  have HX := keepH hx
  have hlen := h.len
  obtain ⟨N, hN⟩ : ∃ N, N = sl.length := ⟨_, rfl⟩
  have c3 : W.cell? ⟨s, 3, none⟩ = some (.slice (some ⟨sb, 0, none⟩) N N) := by rw [cell_of h.st, hN]; rfl
  have c4 : W.cell? ⟨s, 4, none⟩ = some (.int .i64 (hc : Int)) := by rw [cell_of h.st]; rfl
  have c5 : W.cell? ⟨s, 5, none⟩ = some (.int .u64 (lf : Int)) := by rw [cell_of h.st]; rfl
  have q : ((hc : Int) == (N : Int)) = false := by simp; omega
  have q' : ¬ (hc : Int) = (N : Int) := by omega
  have q2 : (hc == N) = false := by simp; omega
  have q3 : ¬ hc = N := by omega
  have p1 : ((lf : Int) == 0) = false := by simp; omega
  have p2 : ¬ (lf : Int) = 0 := by omega
  have i1 : ¬ (i : Int) < 0 := by omega
  have i2 : (i : Int) < (N : Int) := by omega
  have i3 : i < N := by omega
  have HB : Hid (lf ≠ 0 ∧ lf < 18446744073709551616 ∧ hc ≤ 256 ∧ i < 256 ∧ g < 1048575) := ⟨hlf, hlf64, by omega, by omega, hg⟩
  have b1 : (hc : Int) ≤ 256 := by omega
  rw [← hN] at HI
  have HN := keepH hN
  clear h hc64 hN hlf hi hx hil hlen hcl hg hlf64
  go_enter Try.func63, Try.ntmps63
  go_wp2_with fail
  go_quiet (fail)
  go_wp2_with fail
  refine (HI _).out.mono ?_
  rintro e w1 ⟨rfl, C1⟩
  clear HI c3 c4 c5
  have S1 := HS.out.chg C1 (fun x => x) (fun x => x)
  obtain ⟨w2, hw2⟩ : ∃ w2, w2 = w1.setCell ⟨sb, i * 2, none⟩ (.bool true) := ⟨_, rfl⟩
  have S2 : SlAt w2 s sb m lk hc lf dn (sl.set i (true, g)) := by
    rw [hw2]
    exact ⟨by rw [List.length_set]; exact other_of S1.st S1.ne _, by rw [← take_row HX.out]; exact set_of S1.row _ _, by rw [List.length_set]; exact S1.len⟩
  obtain ⟨w3, hw3⟩ : ∃ w3, w3 = w2.setCell ⟨s, 4, none⟩ (.int .i64 ((hc : Int) + 1)) := ⟨_, rfl⟩
  have S3 : SlAt w3 s sb m lk (hc + 1) lf dn (sl.set i (true, g)) := by
    rw [hw3]
    exact ⟨set_of S2.st 4 _, other_of S2.row (Ne.symm S2.ne) _, S2.len⟩
  obtain ⟨w4, hw4⟩ : ∃ w4, w4 = w3.setCell ⟨s, 5, none⟩ (.int .u64 ((lf : Int) - 1)) := ⟨_, rfl⟩
  have S4 : SlAt w4 s sb m lk (hc + 1) (lf - 1) dn (sl.set i (true, g)) := by
    rw [hw4]
    refine ⟨?_, other_of S3.row (Ne.symm S3.ne) _, S3.len⟩
    have := set_of S3.st 5 (.int .u64 ((lf : Int) - 1))
    have e : ((lf - 1 : Nat) : Int) = (lf : Int) - 1 := by have := HB.out; omega
    unfold stC at this ⊢
    rw [e]
    exact this
  have HE : Hid (SlAt w4 s sb m lk (hc + 1) (lf - 1) dn (sl.set i (true, g)) ∧ Chg (fun k => k = s ∨ k = sb) W w4) := by
    refine ⟨S4, ?_⟩
    rw [hw4, hw3, hw2]
    exact (((C1.mono (fun _ _ x => x.elim)).setCell (fun _ => .inr rfl) _).setCell (fun _ => .inl rfl) _).setCell (fun _ => .inl rfl) _
  have d3 : w1.cell? ⟨s, 3, none⟩ = some (.slice (some ⟨sb, 0, none⟩) N N) := by rw [cell_of S1.st, HN.out]; rfl
  have d4 : w2.cell? ⟨s, 4, none⟩ = some (.int .i64 (hc : Int)) := by rw [cell_of S2.st]; rfl
  have d5 : w3.cell? ⟨s, 5, none⟩ = some (.int .u64 (lf : Int)) := by rw [cell_of S3.st]; rfl
  have e3 : w4.cell? ⟨s, 3, none⟩ = some (.slice (some ⟨sb, 0, none⟩) N N) := by rw [cell_of S4.st, List.length_set, HN.out]; rfl
  have e1 : w4.cell? ⟨sb, i * 2 + 1, none⟩ = some (.int .u64 (g : Int)) := by
    rw [cell_of S4.row]
    have := (slC_get (sl.set i (true, g)) i (true, g) (by rw [List.getElem?_set_self (List.getElem?_eq_some_iff.1 HX.out).1])).2
    simpa using this
  have r0 : w1.cell? ⟨sb, i * 2, none⟩ = some (.bool false) := by
    rw [cell_of S1.row]
    simpa using (slC_get sl i (false, g) HX.out).1
  have f0 := free_of S1.row (i * 2)
  have f4 := free_of S2.st 4
  have f5 := free_of S3.st 5
  have HH := keepH (handle_any (i : Int) (g : Int) w4 (by omega) (by have := HB.out; omega) (by omega) (by have := HB.out; omega))
  have HW : Hid (handleW (i : Int) (g : Int) = (hdl i g : Int) ∧ handleE (i : Int) (g : Int) = 0) := by
    have := HB.out
    refine ⟨?_, ?_⟩
    · unfold handleW hdl
      rw [if_neg (by omega), if_neg (by omega), if_neg (by omega)]
      omega
    · unfold handleE
      rw [if_neg (by omega), if_neg (by omega), if_neg (by omega)]
  rw [HW.out.1, HW.out.2] at HH
  rw [← HHV.out] at HH
  have HW2 := keepH hw2
  have HW3 := keepH hw3
  have HW4 := keepH hw4
  clear S1 S2 S3 S4 C1 HS HX HW HHV hw2 hw3 hw4 q q' q2 q3 p1 p2
  go_upto_region 9 with fail
  rw [← HW2.out]
  have l1 : (1 : Int) ≤ (lf : Int) := by have := HB.out; omega
  have l2 : (lf : Int) < 18446744073709551616 := by have := HB.out; omega
  go_upto_region 10 with fail
  rw [← HW3.out]
  go_upto_region 11 with fail
  rw [← HW4.out]
  go_wp2_with fail
  refine HH.out.mono ?_
  rintro e w5 ⟨rfl, rfl⟩
  go_wp2_with fail
  (try simp only [Exit.inBlock, Exit.then])
  go_ret2
  exact ⟨rfl, HE.out.1, HE.out.2⟩
end Go.Proofs.Ytgaincicbgojjaa
