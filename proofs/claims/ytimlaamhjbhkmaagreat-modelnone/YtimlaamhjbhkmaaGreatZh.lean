/- What two nil models tell; a call on both. -/
import Derived.Test.YtimlaamhjbhkmaaGreatZg
namespace Go.Proofs.YtimlaamhjbhkmaaGreat
open Go.RowKit
set_option linter.unusedVariables false

def IsB (W : World) (b : Nat) : Prop := W.heap[b]? = some (.cells #[.pointer none, .pointer none] 28 (0, 0))
theorem ch2 {W w w' : World} (a : Chg (fun _ => False) W w) (b : Chg (fun _ => False) w w') : Chg (fun _ => False) W w' := a.trans b (fun _ _ x => x) (fun _ _ x => x)
set_option maxRecDepth 100000 in
set_option maxHeartbeats 4000000 in
theorem alike_nil {W : World} {b : Nat} (hb : IsB W b) : Calls Tryz.prog 7 #[.pointer (some ⟨b, 0, none⟩)] W fun e W' => e = .returned (.bool true) ∧ Chg (fun _ => False) W W' := by
  have hS : ∀ w, Chg (fun _ => False) W w → w.cell? ⟨b, 0, none⟩ = some (.pointer none) ∧ w.cell? ⟨b, 1, none⟩ = some (.pointer none) := fun w cw => ⟨cell_of ((cw.block _ (lt_of hb) (fun x => x)).trans hb) 0, cell_of ((cw.block _ (lt_of hb) (fun x => x)).trans hb) 1⟩
  have H1 : ∀ w, Chg (fun _ => False) W w → Hid (Calls Tryz.prog 22 #[.pointer none] w fun e w' => e = .returned (.slice none 0 0) ∧ Chg (fun _ => False) W w') := fun w cw => (nil_content w).mono (by rintro e w' ⟨rfl, c⟩; exact ⟨rfl, ch2 cw c⟩)
  have H2 : ∀ w, Chg (fun _ => False) W w → Hid (Calls Tryz.prog 23 #[.pointer none] w fun e w' => e = .returned (.slice none 0 0) ∧ Chg (fun _ => False) W w') := fun w cw => (nil_rcontent w).mono (by rintro e w' ⟨rfl, c⟩; exact ⟨rfl, ch2 cw c⟩)
  have H3 : ∀ w, Chg (fun _ => False) W w → Hid (Calls Tryz.prog 21 #[.slice none 0 0, .slice none 0 0] w fun e w' => e = .returned (.bool true) ∧ Chg (fun _ => False) W w') := fun w cw => (r_pairs none none 0 0 [] [] w (.inl rfl) (.inl rfl) (by simp) (by simp)).mono (by rintro e w' ⟨rfl, c⟩; exact ⟨rfl, ch2 cw c⟩)
  have H4 : ∀ w, Chg (fun _ => False) W w → Hid (Calls Tryz.prog 25 #[.pointer none] w fun e w' => e = .returned (.slice none 0 0) ∧ Chg (fun _ => False) W w') := fun w cw => (nil_handles w).mono (by rintro e w' ⟨rfl, c⟩; exact ⟨rfl, ch2 cw c⟩)
  have H5 : ∀ w, Chg (fun _ => False) W w → Hid (Calls Tryz.prog 24 #[.slice none 0 0, .slice none 0 0] w fun e w' => e = .returned (.bool true) ∧ Chg (fun _ => False) W w') := fun w cw => (same_u none none 0 0 [] w (.inl rfl) (.inl rfl) (by simp)).mono (by rintro e w' ⟨rfl, c⟩; exact ⟨rfl, ch2 cw c⟩)
  have C0 : Chg (fun _ => False) W W := Chg.refl _ _
  have c1 := (hS W C0).2
  clear hb
  go_enter Tryz.func7, Tryz.ntmps7
  go_wp2_with fail
  refine (nil_rhandles W).mono ?_
  rintro e w1 ⟨rfl, C1⟩
  have C1d : Chg (fun _ => False) W w1.drew := C1.drew
  clear c1
  go_upto_region 2 with fail
  go_region_held3 (fun w' => w'.cell? ⟨b, 0, none⟩ = some (.pointer none) ∧ w'.cell? ⟨b, 1, none⟩ = some (.pointer none)) (first | exact hS _ (by assumption))
    (first | (go_at_call 22; refine (H1 _ (by assumption)).out.mono ?_; rintro e z1 ⟨rfl, hz1⟩) | (go_at_call 23; refine (H2 _ (by assumption)).out.mono ?_; rintro e z2 ⟨rfl, hz2⟩) | (go_at_call 21; refine (H3 _ (by assumption)).out.mono ?_; rintro e z3 ⟨rfl, hz3⟩) | (go_at_call 25; refine (H4 _ (by assumption)).out.mono ?_; rintro e z4 ⟨rfl, hz4⟩) | (go_at_call 24; refine (H5 _ (by assumption)).out.mono ?_; rintro e z5 ⟨rfl, hz5⟩))
  all_goals (
    have d0 := (hS z5 hz5).1
    go_wp2_with fail
    refine wp_loop_rounds 1 ?_
    rw [rounds_succ]
    go_wp2_with fail
    refine (nil_held 0 _).mono ?_
    rintro e z6 ⟨rfl, hz6⟩
    have hz7 := ch2 hz5 hz6
    go_wp2_with fail
    go_ret
    exact ⟨by simp, hz7⟩)
end Go.Proofs.YtimlaamhjbhkmaaGreat
