/- Slots taken and let go. -/
import Derived.Test.YtgaincicbgojjaaK1
namespace Go.Proofs.Ytgaincicbgojjaa
open Go.RowKit
set_option linter.unusedVariables false

def nOf (v : Value) : Nat := match v with | .int _ i => i.toNat | _ => 0
set_option maxRecDepth 100000 in
set_option maxHeartbeats 2000000 in
theorem k_idx {W : World} {sb c : Nat} {sl : List (Bool × Nat)} (row : W.heap[sb]? = some (.cells (slC sl).toArray 136 (0, 0))) (hl : sl.length ≤ 256) :
    Calls Try.prog 81 #[.slice (some ⟨sb, 0, none⟩) sl.length c, .func (.func 82) #[] #[]] W fun e W' => e = .returned (.int .i64 (idxI sl)) ∧ Chg (fun _ => False) W W' := by
  have HRow := keepH row
  clear row
  go_enter Try.func81, Try.ntmps81
  go_wp2_with fail
  go_loopw [8] (fun s wr => ∃ i : Nat, i ≤ sl.length ∧ s = .int .i64 (i : Int) ∧ Hid ((∀ j y, j < i → sl[j]? = some y → mayS y = false) ∧ Chg (fun _ => False) W wr)) (fun s _ => sl.length - nOf s)
  case atStart => exact ⟨0, Nat.zero_le _, rfl, fun j y h => absurd h (by omega), Chg.refl _ _⟩
  case round =>
    obtain ⟨i, hi, rfl, HK⟩ := hrel
    by_cases c1 : i < sl.length
    · obtain ⟨⟨b, g⟩, hx⟩ : ∃ x, sl[i]? = some x := ⟨_, List.getElem?_eq_getElem c1⟩
      have q1 : (i : Int) < (sl.length : Int) := by omega
      have hr : wr.heap[sb]? = some (.cells (slC sl).toArray 136 (0, 0)) := (HK.out.2.block sb (lt_of HRow.out) (fun x => x)).trans HRow.out
      have g1 : wr.cell? ⟨sb, i * 2, none⟩ = some (.bool b) := by rw [cell_of hr]; simpa using (slC_get sl i _ hx).1
      have g2 : wr.cell? ⟨sb, i * 2 + 1, none⟩ = some (.int .u64 (g : Int)) := by rw [cell_of hr]; simpa using (slC_get sl i _ hx).2
      have HX : Hid (sl[i]? = some (b, g)) := hx
      clear hr hx
      go_wp2_with fail
      refine (k_may b g _).mono ?_
      rintro e w1 ⟨rfl, C1⟩
      have HC : Hid (Chg (fun _ => False) W w1) := HK.out.2.trans C1 (fun _ _ x => x) (fun _ _ x => x)
      clear C1 g1 g2
      obtain ⟨t, ht⟩ : ∃ t, t = mayS (b, g) := ⟨_, rfl⟩
      have HT := keepH ht
      rw [← ht]
      clear ht
      cases t
      · go_wp2_with fail
        go_roundw
        case rel => exact ⟨i + 1, by omega, by first | rfl | go_num | simp, fun j y hj hy => by
          by_cases e : j = i
          · subst e; rw [HX.out] at hy; injection hy with hy; subst hy; exact HT.out.symm
          · exact HK.out.1 j y (by omega) hy, HC.out⟩
        case measure => simp [nOf]; omega
      · go_wp2_with fail
        (try simp only [Exit.inBlock, Exit.then])
        go_ret
        refine ⟨?_, HC.out⟩
        have e := idxS_some HX.out HT.out.symm HK.out.1
        unfold idxI
        rw [e]
        rfl
    · have q1 : ¬ (i : Int) < (sl.length : Int) := by omega
      go_wp2_with fail
      go_ret
      refine ⟨?_, HK.out.2⟩
      have e := idxS_none (l := sl) (fun j y hy => HK.out.1 j y (by have := (List.getElem?_eq_some_iff.1 hy).1; omega) hy)
      unfold idxI
      rw [e]
      rfl
end Go.Proofs.Ytgaincicbgojjaa
