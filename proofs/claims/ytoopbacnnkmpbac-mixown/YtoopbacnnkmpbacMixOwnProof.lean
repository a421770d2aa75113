/- For every two numbers the law MixOwn (P3) returns true and leaves its arguments as they were; no condition. -/
import Derived.Test.YtoopbacnnkmpbacRows
import Derived.WalkKit
import Derived.ProofKit
import Derived.OpenShut
import Derived.Lib.SmallJoins
import Derived.Test.YtoopbacnnkmpbacAll
import Derived.Test.YtoopbacnnkmpbacDigsX
import Derived.Test.YtoopbacnnkmpbacLive
namespace Go.Proofs.Ytoopbacnnkmpbac.mixOwn
open Go.ChangeShapes Go.WideShapes Go.ChangeAt Go.RowKit Go.Joins
set_option linter.unusedVariables false

theorem own : ownKnob Try.prog.godebug = none := by kernel_rfl

set_option maxHeartbeats 4000000 in
theorem walk (a0 : Int) (a1 : Int) (w0 : (Lit.int .u64 a0).wf = true) (w1 : (Lit.int .u64 a1).wf = true) (w : World) :
    Calls Try.prog 5 #[.int .u64 a0, .int .u64 a1] w fun e w' => e = .returned (.bool true) ∧ Below w.heap.size w w' := by
  have b0 := bounds_u64 w0
  have b1 := bounds_u64 w1
  clear w0 w1
  go_enter Try.func5, Try.ntmps5
  go_wp2_with fail
  refine (live_any _).mono ?_
  rintro e v1 ⟨rfl, l1⟩
  have s1 := l1.size
  have hblk0 : (v1.alloc (.cells (bookCells (.slice none 0 0)) 52)).heap[v1.heap.size]? = some (.cells (bookCells (.slice none 0 0)) 52 (0, 0)) := World.alloc_heap_new v1 _
  have K0 : Kept (v1.alloc (.cells (bookCells (.slice none 0 0)) 52)) v1.heap.size 0 (fun _ => 0) (.slice none 0 0) := ⟨hblk0, World.ownsRow_nil _ _ _ _, fun j hj => by omega, fun i j hi => by omega⟩
  have HK0 := keepH K0
  clear K0 hblk0
  go_wp2_with fail
  go_loopw [6] (fun s wr => ∃ (k : Nat) (g : Nat → Nat) (sv : Value), k ≤ 3 ∧ s = .int .i64 (k : Int) ∧ Hid (Kept wr v1.heap.size (2 * k) g sv) ∧ Below v1.heap.size v1 wr) (fun s _ => 3 - (intOf s).toNat)
  case atStart => exact ⟨0, _, _, by omega, rfl, HK0, (Below.refl _ v1).alloc (Nat.le_refl _) _⟩
  case round =>
    obtain ⟨k, g, sv, hk, rfl, HK, hB⟩ := hrel
    by_cases hlt : k < 3
    · have kl := HK.out.lt
      go_wp2_with fail
      refine (digitsX_any a0 (by omega) (by omega) _).mono ?_
      rintro e u1 ⟨⟨rfl, r1⟩, m1⟩
      have z1 := m1.size
      have HK1 := keepH (HK.out.below m1)
      have R1 := keepH (own_lower r1 (show v1.heap.size + 1 ≤ wr.heap.size by omega))
      have F1 : Hid (∀ j, j < 2 * k → g j ≠ wr.heap.size) := fun j hj => by obtain ⟨ys, r⟩ := HK.out.rows j hj; have := (row_in r).2; omega
      clear r1
      go_wp2_with fail
      refine (take_any v1.heap.size (2 * k) wr.heap.size g sv _ _ (by omega) HK1.out R1.out F1.out).mono ?_
      rintro e u2 ⟨rfl, ⟨sv2, k2⟩, m2⟩
      have HK2 := keepH k2
      have kl2 := k2.lt
      have z2 := m2.size
      clear k2
      go_wp2_with fail
      refine (digitsX_any a1 (by omega) (by omega) _).mono ?_
      rintro e u3 ⟨⟨rfl, r3⟩, m3⟩
      have z3 := m3.size
      have HK3 := keepH (HK2.out.below m3)
      have R3 := keepH (own_lower r3 (show v1.heap.size + 1 ≤ u2.heap.size by omega))
      have F3 : Hid (∀ j, j < 2 * k + 1 → (if j = 2 * k then wr.heap.size else g j) ≠ u2.heap.size) := fun j hj => by obtain ⟨ys, r⟩ := HK2.out.rows j hj; have := (row_in r).2; omega
      clear r3
      go_wp2_with fail
      refine (take_any v1.heap.size (2 * k + 1) u2.heap.size _ sv2 _ _ (by omega) HK3.out R3.out F3.out).mono ?_
      rintro e u4 ⟨rfl, ⟨sv4, k4⟩, m4⟩
      have HK4 := keepH k4
      clear k4
      go_wp2
      go_roundw
      case rel => exact ⟨k + 1, _, sv4, by omega, by go_num, HK4, (((hB.trans (m1.mono (by omega))).trans m2).trans (m3.mono (by omega))).trans m4⟩
      case measure => simp [intOf]; omega
    · obtain rfl : k = 3 := by omega
      have kl := HK.out.lt
      go_wp2_with fail
      refine (aloneAll v1.heap.size (2 * 3) g sv _ (by omega) (by omega) HK.out).mono ?_
      rintro e u1 ⟨rfl, m1⟩
      have z1 := m1.size
      go_wp2_with fail
      refine (digits_any a0 (by omega) (by omega) _).mono ?_
      rintro e u2 ⟨⟨x1, rfl, r1⟩, m2⟩
      obtain ⟨g1, c1, rfl, d1, d2, _, _, d3⟩ := row_cells r1
      have D3 := keepH d3
      clear d3 r1
      have z2 := m2.size
      go_wp2_with fail
      refine (refDigits_any a0 (by omega) (by omega) _).mono ?_
      rintro e u3 ⟨⟨x2, rfl, r2⟩, m3⟩
      obtain ⟨g2, c2, rfl, e1, e2, _, _, e3⟩ := row_cells r2
      have E3 := keepH e3
      clear e3 r2
      have z3 := m3.size
      go_wp2_with fail
      refine (same_any g1 0 g2 0 11 c1 c2 (fun j => dig a0 (j : Int)) _ (by omega) (cells_below m3 d2 D3.out) E3.out).mono ?_
      rintro e u4 ⟨rfl, m4⟩
      go_wp2
      go_ret
      exact ⟨by simp, ((((l1.trans (hB.mono s1)).trans (m1.mono s1)).trans (m2.mono (by omega))).trans (m3.mono (by omega))).trans (m4.mono (by omega))⟩

set_option maxRecDepth 100000 in
theorem lifted (os : Os) (started : os.Started) (H : Type) (enc : TypeId × Value → H) :
    ReturnsInHanded {} Try.checked os 5 .any (Rows.mixOwnSpec.pre6 enc Try.prog Try.f5 Rows.mixOwnRow.domain false) (Rows.mixOwnSpec.post enc Try.prog Try.f5 false true false false) := by
  refine returnsInHanded_of_change (C := Try.checked) own started (by kernel_rfl) Try.func5
    (ChangeSpec.witness6 (enc := enc) (C := Try.checked) false ⟨#[], #[.int .u64 0, .int .u64 0], []⟩ 8 (by kernel_rfl) (by kernel_rfl) (by kernel_rfl) (by kernel_rfl)) ?_
  intro W base args ds gs before hval0 hW hcnd _
  have hval : ∀ (j : Nat) t v, Try.f5.params[j]? = some t → args[j]? = some v → Value.okWide Try.prog W .any base t v := hval0
  have hW' := hW
  obtain ⟨p, q, hA0, hV, rfl, hfz, hnd⟩ := hW
  have hA : DataW.TrodAll enc Try.prog W 0 (fun _ => true) true Try.f5.params.toList args.toList ds p := hA0
  rw [Try.params5] at hA hval
  obtain ⟨v0, vs0, d0, ds0, p0, q0, hargs, rfl, rfl, h0, r0⟩ := trodAll_cons hA
  obtain ⟨v1, vs1, d1, ds1, p1, q1, rfl, rfl, rfl, h1, r1⟩ := trodAll_cons r0
  obtain ⟨rfl, rfl, rfl⟩ := trodAll_nil r1
  obtain rfl : args = #[v0, v1] := by cases args; simp_all
  obtain ⟨rfl, rfl⟩ := trodVars_none hV
  obtain ⟨a0, rfl, rfl, rfl, w0⟩ := open_int Try.underlying22 (hval 0 22 v0 rfl rfl) h0
  obtain ⟨a1, rfl, rfl, rfl, w1⟩ := open_int Try.underlying22 (hval 1 22 v1 rfl rfl) h1
  clear hA0 hval0
  simp only [List.append_nil] at hW'
  refine (walk a0 a1 w0 w1 W).mono fun e W' ⟨he, hg⟩ => ?_
  subst he
  exact ⟨_, rfl, _, _, _, [], _, [], hW', trodAll_mk1 (shut_bool Try.underlying4 _), (trodAll_cons_mk (shut_int Try.underlying22 w0) (trodAll_cons_mk (shut_int Try.underlying22 w1) trodAll_mk0)), rfl, hg.frame _, fun h => by cases h⟩

theorem over : Rows.mixOwnRow.holds Try.pinned (OpenSpec.ofChange Rows.mixOwnSpec) :=
  OpenClaim.holds_of_wide 5 Try.f5 rfl rfl rfl rfl rfl rfl rfl ⟨rfl, rfl, rfl, rfl, rfl⟩ rfl rfl rfl rfl rfl (by kernel_rfl) Try.func5 (by kernel_rfl)
    (of_decide_eq_true (by kernel_rfl)) (by unfold Func.isWrapper; first | (rw [if_pos (by decide +kernel)]; kernel_rfl) | (rw [if_neg (by decide +kernel)]; exact ⟨rfl, rfl⟩))
    (fun os started H enc _ => lifted os started H enc)
end Go.Proofs.Ytoopbacnnkmpbac.mixOwn
namespace Go.Proofs.Ytoopbacnnkmpbac
theorem mixOwn_holds : Rows.MixOwnSaid := mixOwn.over
end Go.Proofs.Ytoopbacnnkmpbac
