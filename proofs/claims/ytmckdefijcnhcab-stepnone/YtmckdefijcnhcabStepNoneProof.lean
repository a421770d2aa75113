/- Whatever the picks, the number and the cell: nil runners, procs and views do nothing (shutterlaw04.StepNone is true for every input). -/
import Derived.Test.YtmckdefijcnhcabRows
import Derived.WalkKit
import Derived.ProofKit
import Derived.OpenShut
import Derived.JoinedCond
import Derived.Carry
import Derived.Lib.SmallJoins
import Derived.Test.YtmckdefijcnhcabSNils
import Derived.Test.YtmckdefijcnhcabALive
namespace Go.Proofs.Ytmckdefijcnhcab.stepNone
open Go.ChangeShapes Go.WideShapes Go.ChangeAt Go.RowKit Go.Joins Go.Shelf
set_option linter.unusedVariables false

theorem own : ownKnob Try.prog.godebug = none := by kernel_rfl
theorem laidOut : laidOutB Try.prog = true := by kernel_rfl

theorem ints_open {H : Type} {enc : TypeId × Value → H} {W : World} {sp : Nat → Bool} {held : Bool} {p : Option Addr} {n c : Nat} {d : DataW H} {ps : List MemPlace} (h : DataW.Trod enc Try.prog W 0 sp held 77 (.slice p n c) d ps) : ∃ zs, CameI W p n zs := by
  obtain ⟨fuel, hf⟩ := h
  rcases open_ints Try.underlying77 Try.underlying3 (by kernel_rfl) hf with ⟨hcs, _⟩ | ⟨x, l, c', zs, hcs, _, hl, hm, hz, hx, hcell, hwz⟩
  · simp [Value.cells] at hcs
    obtain ⟨rfl, rfl, rfl⟩ := hcs
    exact ⟨fun _ => 0, .inl rfl⟩
  · simp [Value.cells] at hcs
    obtain ⟨rfl, rfl, rfl⟩ := hcs
    have hzl : n ≤ zs.length := by rw [hz]; split <;> omega
    by_cases e0 : n = 0
    · exact ⟨fun _ => 0, .inl e0⟩
    · obtain ⟨b, off, spot⟩ := x
      have hc := hcell 0 (by omega)
      have hspot : spot = none := by simpa [Addr.add] using World.cell?_spot hc
      subst hspot
      have hbk : b < W.heap.size := by
        by_cases cb : b < W.heap.size
        · exact cb
        · simp [World.cell?, Addr.add, Array.getElem?_eq_none (show W.heap.size ≤ b by omega)] at hc
      refine ⟨fun j => zs.getD j 0, .inr ⟨b, off, rfl, hbk, ?_, fun j hj => ?_⟩⟩
      · have : maxLen = 9223372036854775807 := rfl
        omega
      · have := hcell j (by omega)
        by_cases ej : j = 0
        · subst ej
          simpa [Addr.add] using this
        · simpa [Addr.add, ej] using this


set_option maxRecDepth 100000 in
set_option maxHeartbeats 8000000 in
theorem walk (p : Option Addr) (n c : Nat) (zs : Nat → Int) (most : Int) (addr : Nat) (w : World) (hz : CameI w p n zs) :
    Calls Try.prog 6 #[.slice p n c, .int .i64 most, .int .u64 (addr : Int)] w fun e w' => e = .returned (.bool true) ∧ Below w.heap.size w w' := by
  have HZ := keepH hz
  clear hz
  go_enter Try.func6, Try.ntmps6
  go_wp2_with fail
  refine (s_live _).mono ?_
  rintro e W0 ⟨rfl, C0⟩
  have HC0 := keepH C0
  have HZ0 := keepH (HZ.out.chg C0)
  clear C0 HZ
  go_wp2_with fail
  refine (nil_run p n c zs _ HZ0.out).mono ?_
  rintro e w' ⟨rfl, rfl⟩
  go_wp2_with fail
  refine (nil_finish _ _).mono ?_
  rintro e w'' ⟨rfl, rfl⟩
  go_wp2_with fail
  refine (nil_steps _).mono ?_
  rintro e w' ⟨rfl, rfl⟩
  go_wp2_with fail
  refine (nil_events _).mono ?_
  rintro e w'' ⟨rfl, rfl⟩
  go_wp2_with fail
  refine (nil_at _).mono ?_
  rintro e w' ⟨rfl, rfl⟩
  go_wp2_with fail
  refine (nil_pending _).mono ?_
  rintro e w'' ⟨rfl, rfl⟩
  go_wp2_with fail
  refine (nil_done _).mono ?_
  rintro e W0 ⟨rfl, rfl⟩
  go_wp2_with fail
  go_loopw [8] (fun s wr => ∃ k : Nat, k ≤ n ∧ s = .int .i64 (k : Int) ∧ wr = W0) (fun s _ => n - (intOf s).toNat)
  case atStart => exact ⟨0, by omega, rfl, rfl⟩
  case round =>
    obtain ⟨k, hk, rfl, rfl⟩ := hrel
    by_cases hlt : k < n
    · have t1 : (k : Int) < (n : Int) := by omega
      rcases HZ0.out with h0 | ⟨b, off, rfl, hb, hn, hc⟩
      · omega
      · have c1 := hc k hlt
        clear hc
        go_wp2_with fail
        refine (nil_pick _ _).mono ?_
        rintro e w' ⟨rfl, rfl⟩
        go_wp2_with fail
        go_roundw
        case rel => exact ⟨k + 1, by omega, by go_num, by first | trivial | rfl⟩
        case measure => simp [intOf]; omega
    · obtain rfl : n = k := by omega
      have t1 : ¬ (n : Int) < (n : Int) := by omega
      go_wp2_with fail
      refine (m_new 128 _ (by omega)).mono ?_
      rintro e W1 ⟨rfl, M1, B1, C1, S1⟩
      have HM1 := keepH M1
      have HC1 := keepH C1
      have HS1 := keepH S1
      clear M1 B1 C1 S1
      go_wp2_with fail
      refine (m_view _ _ 0 _ HM1.out).mono ?_
      rintro e w' ⟨rfl, rfl⟩
      have V2 : Hid (IsView (W1.alloc (.cells #[.iface 89 (.pointer (some ⟨wr.heap.size, 0, none⟩)), .int .i64 0, .int .i64 0] 102)) W1.heap.size wr.heap.size 0 0) := heap_alloc_new _ _
      have C2 : Hid (Chg (fun _ => False) W1 (W1.alloc (.cells #[.iface 89 (.pointer (some ⟨wr.heap.size, 0, none⟩)), .int .i64 0, .int .i64 0] 102))) := (Chg.refl _ _).alloc _
      obtain ⟨W2, hW2⟩ : ∃ W2, W2 = W1.alloc (.cells #[.iface 89 (.pointer (some ⟨wr.heap.size, 0, none⟩)), .int .i64 0, .int .i64 0] 102) := ⟨_, rfl⟩
      rw [← hW2] at V2 C2 ⊢
      clear hW2
      go_wp2_with fail
      refine (load_new addr _).mono ?_
      rintro e w' ⟨rfl, rfl⟩
      have cA : Chg (fun _ => False) W2 (W2.alloc (.cells #[.int .u64 (addr : Int), .int .u64 0, .bool false] 113)) := (Chg.refl _ _).alloc _
      have L3 : Hid (IsLoad (W2.alloc (.cells #[.int .u64 (addr : Int), .int .u64 0, .bool false] 113)) W2.heap.size addr 0 false) := heap_alloc_new _ _
      have V3 := keepH (V2.out.chg cA (fun h => h))
      have HC3 := keepH (((HC1.out.trans C2.out (H := fun _ => False) (fun _ _ x => x) (fun _ _ x => x)).trans cA (H := fun _ => False) (fun _ _ x => x) (fun _ _ x => x)))
      have NV : Hid (W1.heap.size ≠ W2.heap.size) := by have := V2.out.lt; show _ ≠ _; omega
      have NW : Hid (wr.heap.size ≤ W2.heap.size) := Nat.le_trans HC1.out.size C2.out.size
      obtain ⟨W3, hW3⟩ : ∃ W3, W3 = W2.alloc (.cells #[.int .u64 (addr : Int), .int .u64 0, .bool false] 113) := ⟨_, rfl⟩
      rw [← hW3] at L3 V3 HC3 ⊢
      clear hW3 cA C2 V2
      go_wp2_with fail
      refine (nil_lstep _ _).mono ?_
      rintro e w' ⟨rfl, rfl⟩
      go_wp2_with fail
      refine (nil_lvalue _).mono ?_
      rintro e w'' ⟨rfl, rfl⟩
      go_wp2_with fail
      refine (nil_rstep _ _).mono ?_
      rintro e w' ⟨rfl, q, rfl⟩
      have D := (Goes.drewN w'' (fun _ => False) q).chg
      have V4 := keepH (V3.out.chg D (fun h => h))
      have L4 := keepH (L3.out.chg D (fun h => h))
      have HC4 := keepH (HC3.out.trans D (H := fun _ => False) (fun _ _ x => x) (fun _ _ x => x))
      clear D V3 L3 HC3
      go_wp2_with fail
      refine (v_accesses _ _ _ _ _ V4.out).mono ?_
      rintro e W4 ⟨rfl, rfl⟩
      go_wp2_with fail
      refine (load_step_nil _ _ _ _ L4.out).mono ?_
      rintro e W5 ⟨rfl, L5, C5⟩
      have HL5 := keepH L5
      have V5 := keepH (V4.out.chg C5 NV.out)
      have HC5 := keepH (HC4.out.trans C5 (H := fun _ => False) (fun _ _ x => x) (fun k hk e => by have := NW.out; omega))
      clear L5 C5 V4 L4 HC4
      go_wp2_with fail
      refine (load_value _ _ _ _ _ HL5.out).mono ?_
      rintro e w' ⟨rfl, rfl⟩
      go_wp2_with fail
      refine (alone_nil _ most _).mono ?_
      rintro e W6 ⟨rfl, C6⟩
      have V6 := keepH (V5.out.chg C6 (fun h => h))
      have HC6 := keepH (HC5.out.trans C6 (H := fun _ => False) (fun _ _ x => x) (fun _ _ x => x))
      clear C6 V5 HC5
      go_wp2_with fail
      refine (v_accesses _ _ _ _ _ V6.out).mono ?_
      rintro e w' ⟨rfl, rfl⟩
      go_wp2_with fail
      go_ret
      exact ⟨by simp, ((HC0.out.trans HC6.out (H := fun k => w.heap.size ≤ k) (fun _ _ x => x.elim) (fun _ _ x => x.elim))).below (Nat.le_refl _)⟩

set_option maxRecDepth 100000 in
theorem lifted (os : Os) (started : os.Started) (H : Type) (enc : TypeId × Value → H) :
    ReturnsInHanded {} Try.checked os 6 .any (Rows.stepNoneSpec.pre6 enc Try.prog Try.f6 Rows.stepNoneRow.domain false) (Rows.stepNoneSpec.post enc Try.prog Try.f6 false true false false) := by
  refine returnsInHanded_of_change_sized (C := Try.checked) own started (by kernel_rfl) Try.func6
    (ChangeSpec.witness6 (enc := enc) (C := Try.checked) false ⟨#[], #[.slice none 0 0, .int .i64 0, .int .u64 0], []⟩ 8 (by kernel_rfl) (by kernel_rfl) (by kernel_rfl) (by kernel_rfl)) ?_
  intro W base args ds gs before hval0 hW hcnd hsz0 _
  have hval : ∀ (j : Nat) t v, Try.f6.params[j]? = some t → args[j]? = some v → Value.okWide Try.prog W .any base t v := hval0
  have hsz : (DataW.weightsEach Try.prog (Try.f6.params.toList ++ Rows.stepNoneSpec.plain.varTypes Try.prog) (ds ++ gs)).all (· ≤ reachBytes) = true := hsz0
  clear hsz0
  have hW' := hW
  obtain ⟨p, q, hA0, hV, rfl, hfz, hnd⟩ := hW
  have hA : DataW.TrodAll enc Try.prog W 0 (fun _ => true) true Try.f6.params.toList args.toList ds p := hA0
  rw [Try.params6] at hA hval hsz
  obtain ⟨v0, vs0, d0, ds0, p0, q0, hargs, rfl, rfl, h0, r0⟩ := trodAll_cons hA
  obtain ⟨v1, vs1, d1, ds1, p1, q1, rfl, rfl, rfl, h1, r1⟩ := trodAll_cons r0
  obtain ⟨v2, vs2, d2, ds2, p2, q2, rfl, rfl, rfl, h2, r2⟩ := trodAll_cons r1
  obtain ⟨rfl, rfl, rfl⟩ := trodAll_nil r2
  obtain rfl : args = #[v0, v1, v2] := by cases args; simp_all
  obtain ⟨rfl, rfl⟩ := trodVars_none hV
  have k0 := h0
  have lt0 : ∀ x ∈ p0, x.block < W.heap.size := by obtain ⟨m, hm⟩ := k0; exact DataW.trod_lt m _ _ _ hm
  have k1 := h1
  have lt1 : ∀ x ∈ p1, x.block < W.heap.size := by obtain ⟨m, hm⟩ := k1; exact DataW.trod_lt m _ _ _ hm
  have k2 := h2
  have lt2 : ∀ x ∈ p2, x.block < W.heap.size := by obtain ⟨m, hm⟩ := k2; exact DataW.trod_lt m _ _ _ hm
  obtain ⟨a0, len0, cap0, rfl⟩ := okWide_slice Try.underlying77 (hval 0 77 v0 rfl rfl)
  obtain ⟨zs, w0⟩ := ints_open h0
  obtain ⟨a1, rfl, rfl, rfl, w1⟩ := open_int Try.underlying3 (hval 1 3 v1 rfl rfl) h1
  obtain ⟨a2, rfl, rfl, rfl, w2⟩ := open_int Try.underlying57 (hval 2 57 v2 rfl rfl) h2
  obtain ⟨addr, rfl, ha⟩ : ∃ m : Nat, a2 = (m : Int) ∧ m < 18446744073709551616 := by have b := bounds_u64 w2; exact ⟨a2.toNat, by omega, by omega⟩
  clear hA0 hval0
  refine (walk a0 len0 cap0 zs a1 addr W w0).mono fun e W' ⟨he, bel⟩ => ?_
  subst he
  exact ⟨_, rfl, _, _, _, [], _, [], hW', trodAll_mk1 (shut_bool Try.underlying4 _), (trodAll_cons_mk (Below.trod laidOut (by kernel_rfl) (of_decide_eq_true (by kernel_rfl)) k0 bel lt0) (trodAll_cons_mk (Below.trod laidOut (by kernel_rfl) (of_decide_eq_true (by kernel_rfl)) k1 bel lt1) (trodAll_cons_mk (Below.trod laidOut (by kernel_rfl) (of_decide_eq_true (by kernel_rfl)) k2 bel lt2) trodAll_mk0))), rfl, bel.frame _, fun h => by cases h⟩

theorem over : Rows.stepNoneRow.holds Try.pinned (OpenSpec.ofChange Rows.stepNoneSpec) :=
  OpenClaim.holds_of_wide 6 Try.f6 rfl rfl rfl rfl rfl rfl rfl ⟨rfl, rfl, rfl, rfl, rfl⟩ rfl rfl rfl rfl rfl (by kernel_rfl) Try.func6 (by kernel_rfl)
    (of_decide_eq_true (by kernel_rfl)) (by unfold Func.isWrapper; first | (rw [if_pos (by decide +kernel)]; kernel_rfl) | (rw [if_neg (by decide +kernel)]; exact ⟨rfl, rfl⟩))
    (fun os started H enc _ => lifted os started H enc)
end Go.Proofs.Ytmckdefijcnhcab.stepNone
namespace Go.Proofs.Ytmckdefijcnhcab
theorem stepNone_holds : Rows.StepNoneSaid := stepNone.over
end Go.Proofs.Ytmckdefijcnhcab
