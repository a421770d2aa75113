/- SameInts: are two rows of ints the same? -/
import Derived.Test.YtaigpbbehlofbaaHRef
namespace Go.Proofs.Ytaigpbbehlofbaa
open Go.RowKit

set_option maxRecDepth 100000 in
set_option maxHeartbeats 2000000 in
theorem r_sameI (p q : Option Addr) (c d : Nat) (la : List Int) (W : World) (ha : IReads W p la) (hb : IReads W q la) (hla : la.length ≤ 17592186044416) :
    Calls Try.prog 22 #[.slice p la.length c, .slice q la.length d] W fun e W' => e = .returned (.bool true) ∧ Chg (fun _ => False) W W' := by
  have HA := keepH ha
  have HB := keepH hb
  clear ha hb
  go_enter Try.func22, Try.ntmps22
  go_wp2_with fail
  go_loopw [5] (fun s wr => ∃ k : Nat, k ≤ la.length ∧ s = .int .i64 (k : Int) ∧ Hid (Chg (fun _ => False) W wr)) (fun s _ => la.length - (intOf s).toNat)
  case atStart => exact ⟨0, by omega, rfl, keepH (Chg.refl _ _)⟩
  case round =>
    obtain ⟨k, hk, rfl, HK⟩ := hrel
    by_cases hlt : k < la.length
    · have t1 : (k : Int) < (la.length : Int) := by omega
      obtain ⟨x, hx⟩ : ∃ x, la[k]? = some x := ⟨la[k], List.getElem?_eq_getElem hlt⟩
      obtain ⟨bk, off, rfl, _, c0⟩ := (HA.out.chg HK.out (fun _ _ x => x)).get k x hx
      obtain ⟨bk', off', rfl, _, d0⟩ := (HB.out.chg HK.out (fun _ _ x => x)).get k x hx
      clear hx
      go_wp2_with fail
      go_quiet (fail)
      go_wp2_with fail
      go_roundw
      case rel => exact ⟨k + 1, by omega, by first | rfl | go_num, keepH (HK.out.trans (H := fun _ => False) ⟨rfl, rfl, rfl, Nat.le_refl _, fun _ _ _ => rfl⟩ (fun _ _ x => x) (fun _ _ x => x))⟩
      case measure => simp [intOf]; omega
    · obtain rfl : k = la.length := by omega
      have t1 : ¬ (la.length : Int) < (la.length : Int) := by omega
      go_wp2_with fail
      go_ret
      exact ⟨by simp, HK.out⟩
end Go.Proofs.Ytaigpbbehlofbaa
