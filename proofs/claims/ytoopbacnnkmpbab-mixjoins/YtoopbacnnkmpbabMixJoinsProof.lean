/- For every list of numbers the law MixJoins (P2.2) returns true and leaves its argument as it was; no condition. -/
import Derived.Test.YtoopbacnnkmpbabRows
import Derived.WalkKit
import Derived.ProofKit
import Derived.OpenShut
import Derived.ShutString
import Derived.ChangeOld
import Derived.Below
import Derived.SizedLaws
import Derived.Test.YtoopbacnnkmpbabKept
import Derived.Test.YtoopbacnnkmpbabLive
namespace Go.Proofs.Ytoopbacnnkmpbab.mixJoins
open Go.ChangeShapes Go.WideShapes Go.ChangeAt Go.RowKit
set_option linter.unusedVariables false

theorem own : ownKnob Try.prog.godebug = none := by kernel_rfl
theorem laidOut : laidOutB Try.prog = true := by kernel_rfl
theorem bytesInt : Try.prog.bytesOf 3 = 8 := by kernel_rfl

/-- What the walk is told of the list: it is empty; or its numbers lie in a row, and fit their kind. -/
def Came (w : World) (a : Option Addr) (n : Nat) (zs : Nat → Int) : Prop :=
  n = 0 ∨ ∃ b off, a = some ⟨b, off, none⟩ ∧ b < w.heap.size ∧ n ≤ 17592186043904 ∧ (∀ j, j < n → w.cell? ⟨b, off + j, none⟩ = some (.int .i64 (zs j))) ∧ ∀ j, j < n → -9223372036854775808 ≤ zs j ∧ zs j ≤ 9223372036854775807

set_option maxHeartbeats 2000000 in
theorem walk (a0 : Option Addr) (len0 cap0 : Nat) (zs : Nat → Int) (w : World) (w0 : Came w a0 len0 zs) :
    Calls Try.prog 6 #[.slice a0 len0 cap0] w fun e w' => e = .returned (.bool true) ∧ Below w.heap.size w w' := by
  rcases w0 with rfl | ⟨b, off, rfl, hb, hn, hc, hz⟩
  · go_enter Try.func6, Try.ntmps6
    go_wp2_with fail
    refine (live_any _).mono ?_
    rintro e v1 ⟨rfl, l1⟩
    go_wp2_with fail
    refine (hand_zero a0 cap0 zs _).mono ?_
    rintro e v2 ⟨g, rfl, g1, g2, hh, l2⟩
    have HH := keepH hh
    clear hh
    go_wp2_with fail
    refine (join_short _ 0 9 _ (by decide)).mono ?_
    rintro e w' ⟨rfl, rfl⟩
    go_wp2_with fail
    refine (refJoin_short _ 0 _ _ (by decide)).mono ?_
    rintro e w' ⟨rfl, rfl⟩
    go_wp2_with fail
    refine (kept_zero g a0 cap0 zs _ HH.out).mono ?_
    rintro e w' ⟨rfl, rfl⟩
    go_wp2
    go_ret
    exact ⟨by simp, l1.trans (l2.mono l1.size)⟩
  · have HC := keepH hc
    have HZ := keepH hz
    clear hc hz
    by_cases h11 : len0 = 11
    · subst h11
      go_enter Try.func6, Try.ntmps6
      go_wp2_with fail
      refine (live_any _).mono ?_
      rintro e v1 ⟨rfl, l1⟩
      have s1 := l1.size
      have C1 := keepH (show ∀ j, j < 11 → v1.cell? ⟨b, off + j, none⟩ = some (.int .i64 (zs j)) from fun j hj => (l1.cell (p := ⟨b, off + j, none⟩) hb).trans (HC.out j hj))
      go_wp2_with fail
      refine (hand_some b off 11 cap0 zs _ (by omega) (by omega) C1.out).mono ?_
      rintro e v2 ⟨g, rfl, g1, g2, hh, l2⟩
      have s2 := l2.size
      have HH := keepH hh
      clear hh
      have C2 := keepH (show ∀ j, j < 11 → v2.cell? ⟨b, off + j, none⟩ = some (.int .i64 (zs j)) from fun j hj => (l2.cell (p := ⟨b, off + j, none⟩) (by show b < _; omega)).trans (C1.out j hj))
      go_wp2_with fail
      refine (join_any g 0 _ zs _ (fun j hj => by rw [Nat.zero_add]; exact HH.out.1 j hj) HZ.out).mono ?_
      rintro e v3 ⟨hj, rfl⟩
      rcases hj with ⟨rfl, gd⟩ | ⟨rfl, gd⟩
      all_goals
        have GD := keepH gd
        clear gd
        go_wp2_with fail
        refine (refJoin_any b off cap0 zs _ C2.out HZ.out).mono ?_
        rintro e v4 ⟨hj2, rfl⟩
      · rcases hj2 with ⟨rfl, _⟩ | ⟨_, gd2⟩
        · go_wp2_with fail
          refine (kept_some g b off 11 cap0 zs _ (by omega) HH.out C2.out).mono ?_
          rintro e v5 ⟨rfl, l5⟩
          go_wp2
          go_ret
          exact ⟨by simp, (l1.trans (l2.mono s1)).trans (l5.mono (by omega))⟩
        · exact absurd GD.out gd2
      · rcases hj2 with ⟨_, gd2⟩ | ⟨rfl, _⟩
        · exact absurd gd2 GD.out
        · go_wp2_with fail
          refine (kept_some g b off 11 cap0 zs _ (by omega) HH.out C2.out).mono ?_
          rintro e v5 ⟨rfl, l5⟩
          go_wp2
          go_ret
          exact ⟨by simp, (l1.trans (l2.mono s1)).trans (l5.mono (by omega))⟩
    · go_enter Try.func6, Try.ntmps6
      go_wp2_with fail
      refine (live_any _).mono ?_
      rintro e v1 ⟨rfl, l1⟩
      have s1 := l1.size
      have C1 := keepH (show ∀ j, j < len0 → v1.cell? ⟨b, off + j, none⟩ = some (.int .i64 (zs j)) from fun j hj => (l1.cell (p := ⟨b, off + j, none⟩) hb).trans (HC.out j hj))
      go_wp2_with fail
      refine (hand_some b off len0 cap0 zs _ hn (by omega) C1.out).mono ?_
      rintro e v2 ⟨g, rfl, g1, g2, hh, l2⟩
      have s2 := l2.size
      have HH := keepH hh
      clear hh
      have C2 := keepH (show ∀ j, j < len0 → v2.cell? ⟨b, off + j, none⟩ = some (.int .i64 (zs j)) from fun j hj => (l2.cell (p := ⟨b, off + j, none⟩) (by show b < _; omega)).trans (C1.out j hj))
      go_wp2_with fail
      refine (join_short _ len0 _ _ h11).mono ?_
      rintro e w' ⟨rfl, rfl⟩
      go_wp2_with fail
      refine (refJoin_short _ len0 _ _ h11).mono ?_
      rintro e w' ⟨rfl, rfl⟩
      go_wp2_with fail
      refine (kept_some g b off len0 cap0 zs _ hn HH.out C2.out).mono ?_
      rintro e v5 ⟨rfl, l5⟩
      go_wp2
      go_ret
      exact ⟨by simp, (l1.trans (l2.mono s1)).trans (l5.mono (by omega))⟩

set_option maxRecDepth 100000 in
theorem lifted (os : Os) (started : os.Started) (H : Type) (enc : TypeId × Value → H) :
    ReturnsInHanded {} Try.checked os 6 .any (Rows.mixJoinsSpec.pre6 enc Try.prog Try.f6 Rows.mixJoinsRow.domain false) (Rows.mixJoinsSpec.post enc Try.prog Try.f6 false true false false) := by
  refine returnsInHanded_of_change_sized (C := Try.checked) own started (by kernel_rfl) Try.func6
    (ChangeSpec.witness6 (enc := enc) (C := Try.checked) false ⟨#[], #[.slice none 0 0], []⟩ 8 (by kernel_rfl) (by kernel_rfl) (by kernel_rfl) (by kernel_rfl)) ?_
  intro W base args ds gs before hval0 hW hcnd hsz0 _
  have hval : ∀ (j : Nat) t v, Try.f6.params[j]? = some t → args[j]? = some v → Value.okWide Try.prog W .any base t v := hval0
  have hsz : (DataW.weightsEach Try.prog (Try.f6.params.toList ++ Rows.mixJoinsSpec.plain.varTypes Try.prog) (ds ++ gs)).all (· ≤ reachBytes) = true := hsz0
  clear hsz0
  have hW' := hW
  obtain ⟨p, q, hA0, hV, rfl, hfz, hnd⟩ := hW
  have hA : DataW.TrodAll enc Try.prog W 0 (fun _ => true) true Try.f6.params.toList args.toList ds p := hA0
  rw [Try.params6] at hA hval hsz
  obtain ⟨v0, vs0, d0, ds0, p0, q0, hargs, rfl, rfl, h0, r0⟩ := trodAll_cons hA
  obtain ⟨rfl, rfl, rfl⟩ := trodAll_nil r0
  obtain rfl : args = #[v0] := by cases args; simp_all
  obtain ⟨rfl, rfl⟩ := trodVars_none hV
  obtain ⟨a0, len0, cap0, rfl⟩ := okWide_slice Try.underlying38 (hval 0 38 v0 rfl rfl)
  have k0 := h0
  have lt0 : ∀ x ∈ p0, x.block < W.heap.size := by obtain ⟨m, hm⟩ := k0; exact DataW.trod_lt m _ _ _ hm
  obtain ⟨zs, w0⟩ : ∃ zs, Came W a0 len0 zs := by
    obtain ⟨fuel, hf⟩ := h0
    rcases open_ints Try.underlying38 Try.underlying3 (by kernel_rfl) hf with ⟨hcs, _⟩ | ⟨x, l, c, zs, hcs, _, hl, hm, hz, hx, hcell, hwz⟩
    · simp [Value.cells] at hcs
      obtain ⟨rfl, rfl, rfl⟩ := hcs
      exact ⟨fun _ => 0, .inl rfl⟩
    · simp [Value.cells] at hcs
      obtain ⟨rfl, rfl, rfl⟩ := hcs
      by_cases e0 : len0 = 0
      · exact ⟨fun _ => 0, .inl e0⟩
      · have hzl : zs.length = cap0 := by simpa using hz
        obtain ⟨b, off, spot⟩ := x
        have hc := hcell 0 (by omega)
        have hspot : spot = none := by simpa [Addr.add] using World.cell?_spot hc
        subst hspot
        have hbk : b < W.heap.size := by
          by_cases cb : b < W.heap.size
          · exact cb
          · simp [World.cell?, Addr.add, Array.getElem?_eq_none (show W.heap.size ≤ b by omega)] at hc
        simp only [Prod.mk.injEq] at hx
        obtain ⟨hd, _⟩ := hx
        subst hd
        have sz := sized_slice hsz (j := 0) (t := 38) (e := 3) rfl rfl Try.underlying38
        rw [bytesInt] at sz
        simp only [lits, List.length_map, List.length_take, List.length_drop, reachBytes] at sz
        refine ⟨fun j => zs.getD j 0, .inr ⟨b, off, rfl, hbk, by omega, fun j hj => ?_, fun j hj => ?_⟩⟩
        · have := hcell j (by omega)
          by_cases ej : j = 0
          · subst ej
            simpa [Addr.add] using this
          · simpa [Addr.add, ej] using this
        · have hm2 : zs.getD j 0 ∈ zs := by
            rw [List.getD_eq_getElem?_getD, List.getElem?_eq_getElem (show j < zs.length by omega)]
            exact List.getElem_mem _
          have := bounds_i64 (hwz _ hm2)
          omega
  clear hA0 hval0
  refine (walk a0 len0 cap0 zs W w0).mono fun e W' ⟨he, bel⟩ => ?_
  subst he
  exact ⟨_, rfl, _, _, _, [], _, [], hW', trodAll_mk1 (shut_bool Try.underlying4 _), (trodAll_cons_mk (Below.trod laidOut (by kernel_rfl) (of_decide_eq_true (by kernel_rfl)) k0 bel lt0) trodAll_mk0), rfl, bel.frame _, fun h => by cases h⟩

theorem over : Rows.mixJoinsRow.holds Try.pinned (OpenSpec.ofChange Rows.mixJoinsSpec) :=
  OpenClaim.holds_of_wide 6 Try.f6 rfl rfl rfl rfl rfl rfl rfl ⟨rfl, rfl, rfl, rfl, rfl⟩ rfl rfl rfl rfl rfl (by kernel_rfl) Try.func6 (by kernel_rfl)
    (of_decide_eq_true (by kernel_rfl)) (by unfold Func.isWrapper; first | (rw [if_pos (by decide +kernel)]; kernel_rfl) | (rw [if_neg (by decide +kernel)]; exact ⟨rfl, rfl⟩))
    (fun os started H enc _ => lifted os started H enc)
end Go.Proofs.Ytoopbacnnkmpbab.mixJoins
namespace Go.Proofs.Ytoopbacnnkmpbab
theorem mixJoins_holds : Rows.MixJoinsSaid := mixJoins.over
end Go.Proofs.Ytoopbacnnkmpbab
