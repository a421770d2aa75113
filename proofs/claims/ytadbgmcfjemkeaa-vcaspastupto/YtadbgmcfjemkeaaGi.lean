/- A Cas goes on from what it read, or ends: over a block that is known behind the reading alone. -/
import Derived.Test.YtadbgmcfjemkeaaGg
namespace Go.Proofs.Ytadbgmcfjemkeaa
open Go.RowKit Go.Shelf
set_option linter.unusedVariables false
theorem Blk.uniq {W : World} {p : Nat} {t : TypeId} {l l' : List Value} (h : Blk W p t l) (h' : Blk W p t l') : l = l' := by
  unfold Blk at h h'
  rw [h] at h'
  simpa using h'
set_option maxRecDepth 100000 in
theorem cas_goG {W : World} {p : Nat} {t : TypeId} {l : List Value} {x now : Nat} (hp : Blk W p t l) (h11 : l[11]? = some (.int .u8 0)) (V : Value) (R : World → Prop) (hT : Calls Try.prog 73 #[.pointer (some ⟨p, 0, none⟩), V] W fun e w => e = .returned (.bool true) ∧ R w) (hn : x ≠ now)
    (hK : ∀ w, R w → ∃ l2, Blk w p t l2 ∧ l2[8]? = some (.int .u64 (x : Int)) ∧ l2[9]? = some (.int .u64 (x : Int)) ∧ l2[10]? = some (.int .u64 (now : Int)) ∧ l2[11]? = some (.int .u8 0)) :
    Calls Try.prog 81 #[.pointer (some ⟨p, 0, none⟩), V] W fun e W' => e = .returned (.bool false) ∧ ∃ w, R w ∧ Chg (fun k => k = p) w W' ∧ ∀ l', Blk w p t l' → Blk W' p t (l'.set 11 (.int .u8 1)) := by
  have c11 : W.cell? ⟨p, 11, none⟩ = some (.int .u8 0) := (hp.cell 11).trans h11
  have HT := keepH hT
  have HK := keepH hK
  clear hp hT hK h11
  go_enter Try.func81, Try.ntmps81
  go_wp2_with fail
  refine HT.out.mono ?_
  rintro e w ⟨rfl, hr⟩
  obtain ⟨l2, P2, h8, h9, h10, h211⟩ := HK.out w hr
  have HR := keepH hr
  have HP2 := keepH P2
  have HCM := keepH (compare_go P2 h8 h9 h10 h211 hn)
  have hl : 11 < l2.length := (List.getElem?_eq_some_iff.1 h211).1
  clear hr P2 c11 h8 h9 h10 h211
  go_wp2_with fail
  refine HCM.out.mono ?_
  rintro e w2 ⟨rfl, P3, C3⟩
  have HP3 := keepH P3
  have HC3 := keepH C3
  have d11 : w2.cell? ⟨p, 11, none⟩ = some (.int .u8 1) := by rw [P3.cell 11, List.getElem?_set_self hl]
  clear P3 C3 hl
  go_wp2_with fail
  go_ret
  exact ⟨by simp, w, HR.out, HC3.out, fun l' h => by rw [h.uniq HP2.out]; exact HP3.out⟩
set_option maxRecDepth 100000 in
theorem cas_endG {W : World} {p : Nat} {t : TypeId} {l : List Value} {x old now : Nat} {z : Bool} (hp : Blk W p t l) (h11 : l[11]? = some (.int .u8 0)) (V : Value) (R : World → Prop) (hT : Calls Try.prog 73 #[.pointer (some ⟨p, 0, none⟩), V] W fun e w => e = .returned (.bool true) ∧ R w) (hn : ¬ (x = old ∧ old ≠ now))
    (hK : ∀ w, R w → ∃ l2, Blk w p t l2 ∧ l2[8]? = some (.int .u64 (x : Int)) ∧ l2[9]? = some (.int .u64 (old : Int)) ∧ l2[10]? = some (.int .u64 (now : Int)) ∧ l2[11]? = some (.int .u8 0) ∧ l2[13]? = some (.bool z)) :
    Calls Try.prog 81 #[.pointer (some ⟨p, 0, none⟩), V] W fun e W' => e = .returned (.bool true) ∧ ∃ w, R w ∧ Chg (fun k => k = p) w W' ∧ ∀ l', Blk w p t l' → Blk W' p t (((l'.set 11 (.int .u8 1)).set 13 (.bool (decide (x = old)))).set 11 (.int .u8 6)) := by
  have c11 : W.cell? ⟨p, 11, none⟩ = some (.int .u8 0) := (hp.cell 11).trans h11
  have HT := keepH hT
  have HK := keepH hK
  have HN := keepH hn
  clear hp hT hK h11 hn
  go_enter Try.func81, Try.ntmps81
  go_wp2_with fail
  refine HT.out.mono ?_
  rintro e w ⟨rfl, hr⟩
  obtain ⟨l2, P2, h8, h9, h10, h211, h13⟩ := HK.out w hr
  have HR := keepH hr
  have HP2 := keepH P2
  have HCM : Hid (Calls Try.prog 82 #[.pointer (some ⟨p, 0, none⟩)] w fun e W' => e = .returned (.tuple #[]) ∧ Blk W' p t (((l2.set 11 (.int .u8 1)).set 13 (.bool (decide (x = old)))).set 11 (.int .u8 6)) ∧ Chg (fun k => k = p) w W') := by
    by_cases c : x = old
    · have := compare_eq P2 h8 h9 h10 h211 h13 c (Decidable.byContradiction fun d => HN.out ⟨c, d⟩)
      simpa [c, Hid] using this
    · have := compare_ne P2 h8 h9 h10 h211 h13 c
      simpa [c, Hid] using this
  have hl : 11 < l2.length := (List.getElem?_eq_some_iff.1 h211).1
  have hl1 : 11 < ((l2.set 11 (.int .u8 1)).set 13 (.bool (decide (x = old)))).length := by simpa using hl
  clear hr P2 c11 h8 h9 h10 h211 h13 hl
  go_wp2_with fail
  refine HCM.out.mono ?_
  rintro e w2 ⟨rfl, P3, C3⟩
  have HP3 := keepH P3
  have HC3 := keepH C3
  have d11 : w2.cell? ⟨p, 11, none⟩ = some (.int .u8 6) := by rw [P3.cell 11, List.getElem?_set_self hl1]
  clear P3 C3 hl1
  go_wp2_with fail
  go_ret
  exact ⟨by simp, w, HR.out, HC3.out, fun l' h => by rw [h.uniq HP2.out]; exact HP3.out⟩
end Go.Proofs.Ytadbgmcfjemkeaa
