/- Whatever the need (its floor and its stamps), whatever the stamp and the newer one: the program's word on whether a version is needed is the document's (shutterlaw15.CutNeeded is true for every input). -/
import Derived.Test.YtciohnfbjaglbaaRows
import Derived.WalkKit
import Derived.ProofKit
import Derived.OpenShut
import Derived.JoinedCond
import Derived.Carry
import Derived.Lib.SmallJoins
import Derived.Test.YtciohnfbjaglbaaKo
namespace Go.Proofs.Ytciohnfbjaglbaa.cutNeeded
open Go.ChangeShapes Go.WideShapes Go.ChangeAt Go.RowKit Go.Joins Go.Shelf
set_option linter.unusedVariables false

theorem own : ownKnob Try.prog.godebug = none := by kernel_rfl
theorem laidOut : laidOutB Try.prog = true := by kernel_rfl

set_option maxRecDepth 100000 in
set_option maxHeartbeats 8000000 in
theorem walk (F s nw : Nat) (p : Option Addr) (c : Nat) (l : List Nat) (w : World) (hP : U64At w p l) (hl : l.length ≤ 17592186043904) :
    Calls Try.prog 3 #[.agg #[.int .u64 (F : Int), .slice p l.length c], .int .u64 (s : Int), .int .u64 (nw : Int)] w fun e w' => e = .returned (.bool true) ∧ Below w.heap.size w w' := by
  obtain ⟨w0, hw0⟩ : ∃ w0, w0 = w.alloc (.cells #[.int .u64 (F : Int), .slice p l.length c] 25) := ⟨_, rfl⟩
  have HB : Hid (w0.heap[w.heap.size]? = some (.cells #[.int .u64 (F : Int), .slice p l.length c] 25 (0, 0))) := by rw [hw0]; exact heap_alloc_new _ _
  have HC0 : Hid (Chg (fun _ => False) w w0) := by rw [hw0]; exact (Chg.refl _ _).alloc _
  have HU : Hid (U64At w0 p l) := hP.chg HC0.out (fun _ _ _ _ x => x)
  have HW0 := keepH hw0
  have HC : Hid (Chg (fun _ => False) w0 w0.drew) := (Chg.refl _ _).drew
  have HS0 : Hid (w0.cell? ⟨w.heap.size, 0, none⟩ = some (.int .u64 (F : Int)) ∧ w0.cell? ⟨w.heap.size, 1, none⟩ = some (.slice p l.length c)) := ⟨cell_of HB.out 0, cell_of HB.out 1⟩
  obtain ⟨bb, hbb⟩ : ∃ bb, bb = ndN F l s nw := ⟨_, rfl⟩
  have HBB := keepH hbb
  clear hw0 hP hbb
  go_enter Try.func3, Try.ntmps3
  go_upto_region 1 with fail
  rw [← HW0.out]
  clear HW0
  go_region_held3 (fun w' => w'.cell? ⟨w.heap.size, 0, none⟩ = some (.int .u64 (F : Int)) ∧ w'.cell? ⟨w.heap.size, 1, none⟩ = some (.slice p l.length c)) (first | exact HS0.out | exact hS5) (first
    | (go_at_call 6; refine (live_15 _).mono ?_; rintro e w2 ⟨rfl, C2⟩; replace HC : Hid (Chg (fun _ => False) w0 w2) := HC.out.falls C2; have B2 := (HC.out.block _ (lt_of HB.out) (fun x => x)).trans HB.out; have hS5 : w2.cell? ⟨w.heap.size, 0, none⟩ = some (.int .u64 (F : Int)) ∧ w2.cell? ⟨w.heap.size, 1, none⟩ = some (.slice p l.length c) := ⟨cell_of B2 0, cell_of B2 1⟩; clear C2 B2)
    | (go_at_call 7; refine (k_needed F s nw p c l _ (HU.out.chg HC.out (fun _ _ _ _ x => x)) (by omega)).mono ?_; rintro e w3 ⟨rfl, C3⟩; rw [← HBB.out]; replace HC : Hid (Chg (fun _ => False) w0 w3) := HC.out.falls C3; have B3 := (HC.out.block _ (lt_of HB.out) (fun x => x)).trans HB.out; have hS5 : w3.cell? ⟨w.heap.size, 0, none⟩ = some (.int .u64 (F : Int)) ∧ w3.cell? ⟨w.heap.size, 1, none⟩ = some (.slice p l.length c) := ⟨cell_of B3 0, cell_of B3 1⟩; clear C3 B3)
    | (go_at_call 8; refine (r_needed F s nw p c l _ (HU.out.chg HC.out (fun _ _ _ _ x => x)) (by omega)).mono ?_; rintro e w4 ⟨rfl, C4⟩; rw [← HBB.out]; replace HC : Hid (Chg (fun _ => False) w0 w4) := HC.out.falls C4; have B4 := (HC.out.block _ (lt_of HB.out) (fun x => x)).trans HB.out; have hS5 : w4.cell? ⟨w.heap.size, 0, none⟩ = some (.int .u64 (F : Int)) ∧ w4.cell? ⟨w.heap.size, 1, none⟩ = some (.slice p l.length c) := ⟨cell_of B4 0, cell_of B4 1⟩; clear C4 B4))
  all_goals (try go_wp2_with fail)
  all_goals go_ret
  all_goals exact ⟨by simp, ((HC0.out.falls HC.out).mono (G := fun k => w.heap.size ≤ k) (fun _ _ x => x.elim)).below (Nat.le_refl _)⟩

set_option maxRecDepth 100000 in
theorem lifted (os : Os) (started : os.Started) (H : Type) (enc : TypeId × Value → H) :
    ReturnsInHanded {} Try.checked os 3 .any (Rows.cutNeededSpec.pre6 enc Try.prog Try.f3 Rows.cutNeededRow.domain false) (Rows.cutNeededSpec.post enc Try.prog Try.f3 false true false false) := by
  refine returnsInHanded_of_change_sized (C := Try.checked) own started (by kernel_rfl) Try.func3
    (ChangeSpec.witness6 (enc := enc) (C := Try.checked) false ⟨#[], #[.agg #[.int .u64 0, .slice none 0 0], .int .u64 0, .int .u64 0], []⟩ 8 (by kernel_rfl) (by kernel_rfl) (by kernel_rfl) (by kernel_rfl)) ?_
  intro W base args ds gs before hval0 hW hcnd hsz0 _
  have hval : ∀ (j : Nat) t v, Try.f3.params[j]? = some t → args[j]? = some v → Value.okWide Try.prog W .any base t v := hval0
  have hsz : (DataW.weightsEach Try.prog (Try.f3.params.toList ++ Rows.cutNeededSpec.plain.varTypes Try.prog) (ds ++ gs)).all (· ≤ reachBytes) = true := hsz0
  clear hsz0
  have hW' := hW
  obtain ⟨p, q, hA0, hV, rfl, hfz, hnd⟩ := hW
  have hA : DataW.TrodAll enc Try.prog W 0 (fun _ => true) true Try.f3.params.toList args.toList ds p := hA0
  rw [Try.params3] at hA hval hsz
  obtain ⟨v0, vs0, d0, ds0, p0, q0, hargs, rfl, rfl, h0, r0⟩ := trodAll_cons hA
  obtain ⟨v1, vs1, d1, ds1, p1, q1, rfl, rfl, rfl, h1, r1⟩ := trodAll_cons r0
  obtain ⟨v2, vs2, d2, ds2, p2, q2, rfl, rfl, rfl, h2, r2⟩ := trodAll_cons r1
  obtain ⟨rfl, rfl, rfl⟩ := trodAll_nil r2
  obtain rfl : args = #[v0, v1, v2] := by cases args; simp_all
  obtain ⟨rfl, rfl⟩ := trodVars_none hV
  have k0 := h0
  have lt0 : ∀ x ∈ p0, x.block < W.heap.size := by obtain ⟨m, hm⟩ := k0; exact DataW.trod_lt m _ _ _ hm
  have k1 := h1
  have lt1 : ∀ x ∈ p1, x.block < W.heap.size := by obtain ⟨m, hm⟩ := k1; exact DataW.trod_lt m _ _ _ hm
  have k2 := h2
  have lt2 : ∀ x ∈ p2, x.block < W.heap.size := by obtain ⟨m, hm⟩ := k2; exact DataW.trod_lt m _ _ _ hm
  obtain ⟨cv0, rfl, hcsz0⟩ := okWide_struct Try.underlying25 (hval 0 25 v0 rfl rfl)
  obtain ⟨F, p, c, l, rfl, hF, hP, _, hs0⟩ := need_open h0
  have hl : l.length ≤ 17592186043904 := by have q := hs0 (fun m hm => by have := List.all_eq_true.1 hsz _ (DataW.weights_mem_each (j := 0) rfl rfl m hm); simpa using this); simp only [reachBytes] at q; omega
  obtain ⟨a1, rfl, rfl, rfl, w1⟩ := open_int Try.underlying22 (hval 1 22 v1 rfl rfl) h1
  obtain ⟨s, rfl, hs⟩ : ∃ m : Nat, a1 = (m : Int) ∧ m < 18446744073709551616 := by have b := bounds_u64 w1; exact ⟨a1.toNat, by omega, by omega⟩
  obtain ⟨a2, rfl, rfl, rfl, w2⟩ := open_int Try.underlying22 (hval 2 22 v2 rfl rfl) h2
  obtain ⟨nw, rfl, hnw⟩ : ∃ m : Nat, a2 = (m : Int) ∧ m < 18446744073709551616 := by have b := bounds_u64 w2; exact ⟨a2.toNat, by omega, by omega⟩
  clear hA0 hval0
  refine (walk F s nw p c l W hP hl).mono fun e W' ⟨he, bel⟩ => ?_
  subst he
  exact ⟨_, rfl, _, _, _, [], _, [], hW', trodAll_mk1 (shut_bool Try.underlying4 _), (trodAll_cons_mk (Below.trod laidOut (by kernel_rfl) (of_decide_eq_true (by kernel_rfl)) k0 bel lt0) (trodAll_cons_mk (Below.trod laidOut (by kernel_rfl) (of_decide_eq_true (by kernel_rfl)) k1 bel lt1) (trodAll_cons_mk (Below.trod laidOut (by kernel_rfl) (of_decide_eq_true (by kernel_rfl)) k2 bel lt2) trodAll_mk0))), rfl, bel.frame _, fun h => by cases h⟩

theorem over : Rows.cutNeededRow.holds Try.pinned (OpenSpec.ofChange Rows.cutNeededSpec) :=
  OpenClaim.holds_of_wide 3 Try.f3 rfl rfl rfl rfl rfl rfl rfl ⟨rfl, rfl, rfl, rfl, rfl⟩ rfl rfl rfl rfl rfl (by kernel_rfl) Try.func3 (by kernel_rfl)
    (of_decide_eq_true (by kernel_rfl)) (by unfold Func.isWrapper; first | (rw [if_pos (by decide +kernel)]; kernel_rfl) | (rw [if_neg (by decide +kernel)]; exact ⟨rfl, rfl⟩))
    (fun os started H enc _ => lifted os started H enc)
end Go.Proofs.Ytciohnfbjaglbaa.cutNeeded
namespace Go.Proofs.Ytciohnfbjaglbaa
theorem cutNeeded_holds : Rows.CutNeededSaid := cutNeeded.over
end Go.Proofs.Ytciohnfbjaglbaa
