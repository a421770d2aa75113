/- Whatever three spans whose last step is not below their first: none goes ahead of one that goes ahead of it, and what goes ahead of one that goes ahead of a third goes ahead of the third (shutterlaw05.HistAhead is true for every input). -/
import Derived.Test.YtmdeodijcmeflaaRows
import Derived.WalkKit
import Derived.ProofKit
import Derived.OpenShut
import Derived.JoinedCond
import Derived.Carry
import Derived.Lib.SmallJoins
import Derived.Test.YtmdeodijcmeflaaHLive
import Derived.Test.YtmdeodijcmeflaaHArgs
namespace Go.Proofs.Ytmdeodijcmeflaa.histAhead
open Go.ChangeShapes Go.WideShapes Go.ChangeAt Go.RowKit Go.Joins
set_option linter.unusedVariables false

theorem own : ownKnob Try.prog.godebug = none := by kernel_rfl
theorem laidOut : laidOutB Try.prog = true := by kernel_rfl

set_option maxRecDepth 100000 in
set_option maxHeartbeats 8000000 in
theorem walk (a b c : Sp) (w : World)  :
    Calls Try.prog 6 #[.agg #[.int .i64 a.th, .int .i64 a.ix, .int .i64 a.fr, .int .i64 a.to], .agg #[.int .i64 b.th, .int .i64 b.ix, .int .i64 b.fr, .int .i64 b.to], .agg #[.int .i64 c.th, .int .i64 c.ix, .int .i64 c.fr, .int .i64 c.to]] w fun e w' => e = .returned (.bool true) ∧ Below w.heap.size w w' := by
  obtain ⟨bad, hbad⟩ : ∃ bad : Bool, bad = ((decide (0 ≤ a.to) && decide (a.to < a.fr)) || (decide (0 ≤ b.to) && decide (b.to < b.fr)) || (decide (0 ≤ c.to) && decide (c.to < c.fr))) := ⟨_, rfl⟩
  obtain ⟨W3, hW3⟩ : ∃ W3, W3 = ((w.alloc (.cells #[.int .i64 a.th, .int .i64 a.ix, .int .i64 a.fr, .int .i64 a.to] 36)).alloc (.cells #[.int .i64 b.th, .int .i64 b.ix, .int .i64 b.fr, .int .i64 b.to] 36)).alloc (.cells #[.int .i64 c.th, .int .i64 c.ix, .int .i64 c.fr, .int .i64 c.to] 36) := ⟨_, rfl⟩
  have BA : Hid (BoxAt W3 w.heap.size a) := by rw [hW3]; exact alloc_of (alloc_of (heap_alloc_new _ _) _) _
  have BB : Hid (BoxAt W3 (w.heap.size + 1) b) := by rw [hW3]; exact alloc_of (by have e := heap_alloc_new (w.alloc (.cells #[.int .i64 a.th, .int .i64 a.ix, .int .i64 a.fr, .int .i64 a.to] 36)) (.cells #[.int .i64 b.th, .int .i64 b.ix, .int .i64 b.fr, .int .i64 b.to] 36); rw [World.size_alloc] at e; exact e) _
  have BC : Hid (BoxAt W3 (w.heap.size + 2) c) := by rw [hW3]; have e := heap_alloc_new ((w.alloc (.cells #[.int .i64 a.th, .int .i64 a.ix, .int .i64 a.fr, .int .i64 a.to] 36)).alloc (.cells #[.int .i64 b.th, .int .i64 b.ix, .int .i64 b.fr, .int .i64 b.to] 36)) (.cells #[.int .i64 c.th, .int .i64 c.ix, .int .i64 c.fr, .int .i64 c.to] 36); rw [World.size_alloc, World.size_alloc] at e; exact e
  have C3 : Hid (Chg (fun _ => False) w W3) := by rw [hW3]; exact (((Chg.refl _ _).alloc _).alloc _).alloc _
  have HB := keepH hbad
  clear hbad
  have HW := keepH hW3
  clear hW3
  go_enter Try.func6, Try.ntmps6
  go_upto_region 1 with fail
  rw [← HW.out]
  go_cut [40] from 7 to 40 (fun s40 wx => s40 = .bool bad ∧ wx = W3)
  case first =>
    obtain ⟨a0, a1, a2, a3⟩ := BA.out.cells
    obtain ⟨b0, b1, b2, b3⟩ := BB.out.cells
    obtain ⟨c0, c1, c2, c3⟩ := BC.out.cells
    by_cases ga : 0 ≤ a.to
    · by_cases la : a.to < a.fr
      · skip
        go_wp2_with fail
        go_meet
        exact ⟨by rw [HB.out]; simp; omega, rfl⟩
      · skip
        by_cases gb : 0 ≤ b.to
        · by_cases lb : b.to < b.fr
          · skip
            go_wp2_with fail
            go_meet
            exact ⟨by rw [HB.out]; simp; omega, rfl⟩
          · skip
            by_cases gc : 0 ≤ c.to
            · by_cases lc : c.to < c.fr
              · skip
                go_wp2_with fail
                go_meet
                exact ⟨by rw [HB.out]; simp; omega, rfl⟩
              · skip
                go_wp2_with fail
                go_meet
                exact ⟨by rw [HB.out]; simp; omega, rfl⟩
            · skip
              go_wp2_with fail
              go_meet
              exact ⟨by rw [HB.out]; simp; omega, rfl⟩
        · skip
          by_cases gc : 0 ≤ c.to
          · by_cases lc : c.to < c.fr
            · skip
              go_wp2_with fail
              go_meet
              exact ⟨by rw [HB.out]; simp; omega, rfl⟩
            · skip
              go_wp2_with fail
              go_meet
              exact ⟨by rw [HB.out]; simp; omega, rfl⟩
          · skip
            go_wp2_with fail
            go_meet
            exact ⟨by rw [HB.out]; simp; omega, rfl⟩
    · skip
      by_cases gb : 0 ≤ b.to
      · by_cases lb : b.to < b.fr
        · skip
          go_wp2_with fail
          go_meet
          exact ⟨by rw [HB.out]; simp; omega, rfl⟩
        · skip
          by_cases gc : 0 ≤ c.to
          · by_cases lc : c.to < c.fr
            · skip
              go_wp2_with fail
              go_meet
              exact ⟨by rw [HB.out]; simp; omega, rfl⟩
            · skip
              go_wp2_with fail
              go_meet
              exact ⟨by rw [HB.out]; simp; omega, rfl⟩
          · skip
            go_wp2_with fail
            go_meet
            exact ⟨by rw [HB.out]; simp; omega, rfl⟩
      · skip
        by_cases gc : 0 ≤ c.to
        · by_cases lc : c.to < c.fr
          · skip
            go_wp2_with fail
            go_meet
            exact ⟨by rw [HB.out]; simp; omega, rfl⟩
          · skip
            go_wp2_with fail
            go_meet
            exact ⟨by rw [HB.out]; simp; omega, rfl⟩
        · skip
          go_wp2_with fail
          go_meet
          exact ⟨by rw [HB.out]; simp; omega, rfl⟩
  case rest =>
    obtain ⟨rfl, rfl⟩ := hcut
    cases bad with
    | true =>
      go_wp2_with fail
      refine (h_live _).mono ?_
      rintro e W4 ⟨rfl, C4⟩
      have H4 := keepH (C3.out.trans C4 (H := fun k => w.heap.size ≤ k) (fun _ _ x => x.elim) (fun _ _ x => x.elim))
      clear C4
      go_wp2_with fail
      go_ret
      exact ⟨by simp, H4.out.below (Nat.le_refl _)⟩
    | false =>
      have hgood : (0 ≤ a.to → a.fr ≤ a.to) ∧ (0 ≤ b.to → b.fr ≤ b.to) ∧ (0 ≤ c.to → c.fr ≤ c.to) := by
        have e := HB.out
        simp at e
        omega
      have HG := keepH hgood
      clear hgood
      go_wp2_with fail
      refine (h_live _).mono ?_
      rintro e W4 ⟨rfl, D4⟩
      have C4 := keepH (C3.out.trans D4 (H := fun _ => False) (fun _ _ x => x) (fun _ _ x => x))
      have BA4 := keepH (BA.out.chg D4 (fun x => x))
      have BB4 := keepH (BB.out.chg D4 (fun x => x))
      have BC4 := keepH (BC.out.chg D4 (fun x => x))
      clear D4
      obtain ⟨a0, a1, a2, a3⟩ := BA4.out.cells
      obtain ⟨b0, b1, b2, b3⟩ := BB4.out.cells
      obtain ⟨c0, c1, c2, c3⟩ := BC4.out.cells
      cases hab : aheadB a b with
      | false =>
        go_wp2_with fail
        refine (h_ahead_b hab _).mono ?_
        rintro e W5 ⟨rfl, D5⟩
        have C5 := keepH (C4.out.trans D5 (H := fun _ => False) (fun _ _ x => x) (fun _ _ x => x))
        have BA5 := keepH (BA4.out.chg D5 (fun x => x))
        have BB5 := keepH (BB4.out.chg D5 (fun x => x))
        have BC5 := keepH (BC4.out.chg D5 (fun x => x))
        clear D5 a0 a1 a2 a3 b0 b1 b2 b3 c0 c1 c2 c3
        obtain ⟨a0, a1, a2, a3⟩ := BA5.out.cells
        obtain ⟨b0, b1, b2, b3⟩ := BB5.out.cells
        obtain ⟨c0, c1, c2, c3⟩ := BC5.out.cells
        go_wp2_with fail
        refine (h_ahead_b hab _).mono ?_
        rintro e W6 ⟨rfl, D6⟩
        have C6 := keepH (C5.out.trans D6 (H := fun _ => False) (fun _ _ x => x) (fun _ _ x => x))
        have BA6 := keepH (BA5.out.chg D6 (fun x => x))
        have BB6 := keepH (BB5.out.chg D6 (fun x => x))
        have BC6 := keepH (BC5.out.chg D6 (fun x => x))
        clear D6 a0 a1 a2 a3 b0 b1 b2 b3 c0 c1 c2 c3
        obtain ⟨a0, a1, a2, a3⟩ := BA6.out.cells
        obtain ⟨b0, b1, b2, b3⟩ := BB6.out.cells
        obtain ⟨c0, c1, c2, c3⟩ := BC6.out.cells
        go_wp2_with fail
        go_ret
        exact ⟨by simp, (C6.out.mono (G := fun k => w.heap.size ≤ k) (fun _ _ x => x.elim)).below (Nat.le_refl _)⟩
      | true =>
        have hba : aheadB b a = false := by
          have e := HG.out
          simp [aheadB] at hab ⊢
          omega
        go_wp2_with fail
        refine (h_ahead_b hab _).mono ?_
        rintro e W5 ⟨rfl, D5⟩
        have C5 := keepH (C4.out.trans D5 (H := fun _ => False) (fun _ _ x => x) (fun _ _ x => x))
        have BA5 := keepH (BA4.out.chg D5 (fun x => x))
        have BB5 := keepH (BB4.out.chg D5 (fun x => x))
        have BC5 := keepH (BC4.out.chg D5 (fun x => x))
        clear D5 a0 a1 a2 a3 b0 b1 b2 b3 c0 c1 c2 c3
        obtain ⟨a0, a1, a2, a3⟩ := BA5.out.cells
        obtain ⟨b0, b1, b2, b3⟩ := BB5.out.cells
        obtain ⟨c0, c1, c2, c3⟩ := BC5.out.cells
        go_wp2_with fail
        refine (h_ahead_b hba _).mono ?_
        rintro e W6 ⟨rfl, D6⟩
        have C6 := keepH (C5.out.trans D6 (H := fun _ => False) (fun _ _ x => x) (fun _ _ x => x))
        have BA6 := keepH (BA5.out.chg D6 (fun x => x))
        have BB6 := keepH (BB5.out.chg D6 (fun x => x))
        have BC6 := keepH (BC5.out.chg D6 (fun x => x))
        clear D6 a0 a1 a2 a3 b0 b1 b2 b3 c0 c1 c2 c3
        obtain ⟨a0, a1, a2, a3⟩ := BA6.out.cells
        obtain ⟨b0, b1, b2, b3⟩ := BB6.out.cells
        obtain ⟨c0, c1, c2, c3⟩ := BC6.out.cells
        go_wp2_with fail
        refine (h_ahead_b hab _).mono ?_
        rintro e W7 ⟨rfl, D7⟩
        have C7 := keepH (C6.out.trans D7 (H := fun _ => False) (fun _ _ x => x) (fun _ _ x => x))
        have BA7 := keepH (BA6.out.chg D7 (fun x => x))
        have BB7 := keepH (BB6.out.chg D7 (fun x => x))
        have BC7 := keepH (BC6.out.chg D7 (fun x => x))
        clear D7 a0 a1 a2 a3 b0 b1 b2 b3 c0 c1 c2 c3
        obtain ⟨a0, a1, a2, a3⟩ := BA7.out.cells
        obtain ⟨b0, b1, b2, b3⟩ := BB7.out.cells
        obtain ⟨c0, c1, c2, c3⟩ := BC7.out.cells
        cases hbc : aheadB b c with
        | false =>
          go_wp2_with fail
          refine (h_ahead_b hbc _).mono ?_
          rintro e W8 ⟨rfl, D8⟩
          have C8 := keepH (C7.out.trans D8 (H := fun _ => False) (fun _ _ x => x) (fun _ _ x => x))
          have BA8 := keepH (BA7.out.chg D8 (fun x => x))
          have BB8 := keepH (BB7.out.chg D8 (fun x => x))
          have BC8 := keepH (BC7.out.chg D8 (fun x => x))
          clear D8 a0 a1 a2 a3 b0 b1 b2 b3 c0 c1 c2 c3
          obtain ⟨a0, a1, a2, a3⟩ := BA8.out.cells
          obtain ⟨b0, b1, b2, b3⟩ := BB8.out.cells
          obtain ⟨c0, c1, c2, c3⟩ := BC8.out.cells
          go_wp2_with fail
          go_ret
          exact ⟨by simp, (C8.out.mono (G := fun k => w.heap.size ≤ k) (fun _ _ x => x.elim)).below (Nat.le_refl _)⟩
        | true =>
          have hac : aheadB a c = true := by
            have e := HG.out
            simp [aheadB] at hab hbc ⊢
            omega
          go_wp2_with fail
          refine (h_ahead_b hbc _).mono ?_
          rintro e W8 ⟨rfl, D8⟩
          have C8 := keepH (C7.out.trans D8 (H := fun _ => False) (fun _ _ x => x) (fun _ _ x => x))
          have BA8 := keepH (BA7.out.chg D8 (fun x => x))
          have BB8 := keepH (BB7.out.chg D8 (fun x => x))
          have BC8 := keepH (BC7.out.chg D8 (fun x => x))
          clear D8 a0 a1 a2 a3 b0 b1 b2 b3 c0 c1 c2 c3
          obtain ⟨a0, a1, a2, a3⟩ := BA8.out.cells
          obtain ⟨b0, b1, b2, b3⟩ := BB8.out.cells
          obtain ⟨c0, c1, c2, c3⟩ := BC8.out.cells
          go_wp2_with fail
          refine (h_ahead_b hac _).mono ?_
          rintro e W9 ⟨rfl, D9⟩
          have C9 := keepH (C8.out.trans D9 (H := fun _ => False) (fun _ _ x => x) (fun _ _ x => x))
          have BA9 := keepH (BA8.out.chg D9 (fun x => x))
          have BB9 := keepH (BB8.out.chg D9 (fun x => x))
          have BC9 := keepH (BC8.out.chg D9 (fun x => x))
          clear D9 a0 a1 a2 a3 b0 b1 b2 b3 c0 c1 c2 c3
          obtain ⟨a0, a1, a2, a3⟩ := BA9.out.cells
          obtain ⟨b0, b1, b2, b3⟩ := BB9.out.cells
          obtain ⟨c0, c1, c2, c3⟩ := BC9.out.cells
          go_wp2_with fail
          go_ret
          exact ⟨by simp, (C9.out.mono (G := fun k => w.heap.size ≤ k) (fun _ _ x => x.elim)).below (Nat.le_refl _)⟩

set_option maxRecDepth 100000 in
theorem lifted (os : Os) (started : os.Started) (H : Type) (enc : TypeId × Value → H) :
    ReturnsInHanded {} Try.checked os 6 .any (Rows.histAheadSpec.pre6 enc Try.prog Try.f6 Rows.histAheadRow.domain false) (Rows.histAheadSpec.post enc Try.prog Try.f6 false true false false) := by
  refine returnsInHanded_of_change_sized (C := Try.checked) own started (by kernel_rfl) Try.func6
    (ChangeSpec.witness6 (enc := enc) (C := Try.checked) false ⟨#[], #[.agg #[.int .i64 0, .int .i64 0, .int .i64 0, .int .i64 0], .agg #[.int .i64 0, .int .i64 0, .int .i64 0, .int .i64 0], .agg #[.int .i64 0, .int .i64 0, .int .i64 0, .int .i64 0]], []⟩ 8 (by kernel_rfl) (by kernel_rfl) (by kernel_rfl) (by kernel_rfl)) ?_
  intro W base args ds gs before hval0 hW hcnd hsz0 _
  have hval : ∀ (j : Nat) t v, Try.f6.params[j]? = some t → args[j]? = some v → Value.okWide Try.prog W .any base t v := hval0
  have hsz : (DataW.weightsEach Try.prog (Try.f6.params.toList ++ Rows.histAheadSpec.plain.varTypes Try.prog) (ds ++ gs)).all (· ≤ reachBytes) = true := hsz0
  clear hsz0
  have hW' := hW
  obtain ⟨p, q, hA0, hV, rfl, hfz, hnd⟩ := hW
  have hA : DataW.TrodAll enc Try.prog W 0 (fun _ => true) true Try.f6.params.toList args.toList ds p := hA0
  rw [Try.params6] at hA hval hsz
  obtain ⟨v0, vs0, d0, ds0, p0, q0, hargs, rfl, rfl, h0, r0⟩ := trodAll_cons hA
  obtain ⟨v1, vs1, d1, ds1, p1, q1, rfl, rfl, rfl, h1, r1⟩ := trodAll_cons r0
  obtain ⟨v2, vs2, d2, ds2, p2, q2, rfl, rfl, rfl, h2, r2⟩ := trodAll_cons r1
  obtain ⟨rfl, rfl, rfl⟩ := trodAll_nil r2
  obtain rfl : args = #[v0, v1, v2] := by cases args; simp_all
  obtain ⟨rfl, rfl⟩ := trodVars_none hV
  have k0 := h0
  have lt0 : ∀ x ∈ p0, x.block < W.heap.size := by obtain ⟨m, hm⟩ := k0; exact DataW.trod_lt m _ _ _ hm
  have k1 := h1
  have lt1 : ∀ x ∈ p1, x.block < W.heap.size := by obtain ⟨m, hm⟩ := k1; exact DataW.trod_lt m _ _ _ hm
  have k2 := h2
  have lt2 : ∀ x ∈ p2, x.block < W.heap.size := by obtain ⟨m, hm⟩ := k2; exact DataW.trod_lt m _ _ _ hm
  obtain ⟨a, rfl, oka⟩ := span_open (hval 0 36 v0 rfl rfl) h0
  obtain ⟨b, rfl, okb⟩ := span_open (hval 1 36 v1 rfl rfl) h1
  obtain ⟨c, rfl, okc⟩ := span_open (hval 2 36 v2 rfl rfl) h2
  clear hA0 hval0
  refine (walk a b c W).mono fun e W' ⟨he, bel⟩ => ?_
  subst he
  exact ⟨_, rfl, _, _, _, [], _, [], hW', trodAll_mk1 (shut_bool Try.underlying4 _), (trodAll_cons_mk (Below.trod laidOut (by kernel_rfl) (of_decide_eq_true (by kernel_rfl)) k0 bel lt0) (trodAll_cons_mk (Below.trod laidOut (by kernel_rfl) (of_decide_eq_true (by kernel_rfl)) k1 bel lt1) (trodAll_cons_mk (Below.trod laidOut (by kernel_rfl) (of_decide_eq_true (by kernel_rfl)) k2 bel lt2) trodAll_mk0))), rfl, bel.frame _, fun h => by cases h⟩

theorem over : Rows.histAheadRow.holds Try.pinned (OpenSpec.ofChange Rows.histAheadSpec) :=
  OpenClaim.holds_of_wide 6 Try.f6 rfl rfl rfl rfl rfl rfl rfl ⟨rfl, rfl, rfl, rfl, rfl⟩ rfl rfl rfl rfl rfl (by kernel_rfl) Try.func6 (by kernel_rfl)
    (of_decide_eq_true (by kernel_rfl)) (by unfold Func.isWrapper; first | (rw [if_pos (by decide +kernel)]; kernel_rfl) | (rw [if_neg (by decide +kernel)]; exact ⟨rfl, rfl⟩))
    (fun os started H enc _ => lifted os started H enc)
end Go.Proofs.Ytmdeodijcmeflaa.histAhead
namespace Go.Proofs.Ytmdeodijcmeflaa
theorem histAhead_holds : Rows.HistAheadSaid := histAhead.over
end Go.Proofs.Ytmdeodijcmeflaa
