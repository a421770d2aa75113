/- An answer as a line: both say the same. (mkSdf.py) -/
import Derived.Test.YtmmaniolaljjlaaGreatDoorSde
namespace Go.Proofs.YtmmaniolaljjlaaGreatDoor
open Go.RowKit Go.Shelf
set_option linter.unusedVariables false

theorem ans_both (k : Nat) (e : Int) (f : Bool) (v : Nat) (dn : Bool) (h : Nat) (pp : Option Addr) (l : List (Nat × Nat)) (pc ct : Nat) (hk : k < 256) (he : -9223372036854775808 ≤ e ∧ e < 9223372036854775808) (hv : isU v) (hh : isU h) (hct : isU ct) (hl : l.length ≤ 10000000) (hu : ∀ q ∈ l, isU q.1 ∧ isU q.2) (W : World) (T : Tb W) (hR : PRd W pp l) :
    ∃ t : List UInt8, (∀ w, Below W.heap.size W w → Calls Tryz.prog 13 #[.int .u8 (k : Int), .agg (ansR e f v dn h pp l.length pc ct)] w fun e' W' => e' = .returned (.string (mkS t)) ∧ Below w.heap.size w W') ∧
      (∀ w, Below W.heap.size W w → Calls Tryz.prog 14 #[.int .u8 (k : Int), .agg (ansR e f v dn h pp l.length pc ct)] w fun e' W' => e' = .returned (.string (mkS t)) ∧ Below w.heap.size w W') := by
  by_cases h0 : e = 0
  · by_cases hok : k ≠ 1 ∧ k ≠ 2 ∧ k ≠ 3 ∧ k ≠ 4 ∧ k ≠ 5 ∧ k ≠ 7 ∧ k ≠ 8 ∧ k ≠ 9 ∧ k ≠ 10
    · exact ⟨_, fun w hb => pa_ok k e f v dn h pp l.length pc ct h0 hok hk he hv hh hct w (T.on hb), fun w hb => da_ok k e f v dn h pp l.length pc ct h0 hok hk he hv hh hct w (T.on hb)⟩
    · have : k = 1 ∨ k = 2 ∨ k = 3 ∨ k = 4 ∨ k = 5 ∨ k = 7 ∨ k = 8 ∨ k = 9 ∨ k = 10 := by omega
      rcases this with rfl | rfl | rfl | rfl | rfl | rfl | rfl | rfl | rfl
      · subst h0
        refine ⟨fndT f v, fun w hb => pa_fnd1 0 f v dn h pp l.length pc ct rfl hv w (T.on hb), fun w hb => ?_⟩
        cases f with
        | true => exact da_fnd1t dn v h pp l.length pc ct hv w (T.on hb)
        | false => exact da_fnd1f dn v h pp l.length pc ct hv w (T.on hb)
      · subst h0
        refine ⟨fndT f v, fun w hb => pa_fnd2 0 f v dn h pp l.length pc ct rfl hv w (T.on hb), fun w hb => ?_⟩
        cases f with
        | true => exact da_fnd2t dn v h pp l.length pc ct hv w (T.on hb)
        | false => exact da_fnd2f dn v h pp l.length pc ct hv w (T.on hb)
      · subst h0
        refine ⟨fndT f v, fun w hb => pa_fnd3 0 f v dn h pp l.length pc ct rfl hv w (T.on hb), fun w hb => ?_⟩
        cases f with
        | true => exact da_fnd3t dn v h pp l.length pc ct hv w (T.on hb)
        | false => exact da_fnd3f dn v h pp l.length pc ct hv w (T.on hb)
      · subst h0
        cases dn with
        | true =>
          refine ⟨_, fun w hb => pa_done f v h pp l.length pc ct hv w (T.on hb), fun w hb => ?_⟩
          cases f with
          | true => exact da_4tt v h pp l.length pc ct hv w (T.on hb)
          | false => exact da_4ft v h pp l.length pc ct hv w (T.on hb)
        | false =>
          refine ⟨fndT f v, fun w hb => pa_fnd4 0 f v false h pp l.length pc ct rfl rfl hv w (T.on hb), fun w hb => ?_⟩
          cases f with
          | true => exact da_4tf v h pp l.length pc ct hv w (T.on hb)
          | false => exact da_4ff v h pp l.length pc ct hv w (T.on hb)
      · exact ⟨_, fun w hb => pa_hnd 5 e f v dn h pp l.length pc ct h0 rfl hk he hv hh hct w (T.on hb), fun w hb => da_hnd 5 e f v dn h pp l.length pc ct h0 rfl hk he hv hh hct w (T.on hb)⟩
      · subst h0
        exact ⟨_, fun w hb => pa_prs7 f v dn h pp l pc ct hl hu w (T.on hb) (hR.on hb), fun w hb => da_prs7 f v dn h pp l pc ct hl hu w (T.on hb) (hR.on hb)⟩
      · subst h0
        exact ⟨_, fun w hb => pa_prs8 f v dn h pp l pc ct hl hu w (T.on hb) (hR.on hb), fun w hb => da_prs8 f v dn h pp l pc ct hl hu w (T.on hb) (hR.on hb)⟩
      · exact ⟨_, fun w hb => pa_cnt9 9 e f v dn h pp l.length pc ct h0 rfl hk he hv hh hct w (T.on hb), fun w hb => da_cnt9 9 e f v dn h pp l.length pc ct h0 rfl hk he hv hh hct w (T.on hb)⟩
      · exact ⟨_, fun w hb => pa_cnt10 10 e f v dn h pp l.length pc ct h0 rfl hk he hv hh hct w (T.on hb), fun w hb => da_cnt10 10 e f v dn h pp l.length pc ct h0 rfl hk he hv hh hct w (T.on hb)⟩
  · exact ⟨_, fun w hb => pa_err k e f v dn h pp l.length pc ct h0 hk he hv hh hct w (T.on hb), fun w hb => da_err k e f v dn h pp l.length pc ct h0 hk he hv hh hct w (T.on hb)⟩
end Go.Proofs.YtmmaniolaljjlaaGreatDoor
