/- Whatever the numbers and the level: procs of node that are nil do nothing, and on a nil view a Leaf ends with ErrMemory, a Fork with ErrKnown if the two never part and else with ErrMemory, and a Look tells the zero pair (shutterlaw10.NodeNone is true for every input). -/
import Derived.Test.YtlmfdgdmegkfdaaRows
import Derived.WalkKit
import Derived.ProofKit
import Derived.OpenShut
import Derived.JoinedCond
import Derived.Carry
import Derived.Lib.SmallJoins
import Derived.Test.YtlmfdgdmegkfdaaNdN
namespace Go.Proofs.Ytlmfdgdmegkfdaa.nodeNone
open Go.ChangeShapes Go.WideShapes Go.ChangeAt Go.RowKit Go.Joins
set_option linter.unusedVariables false

theorem own : ownKnob Try.prog.godebug = none := by kernel_rfl
theorem laidOut : laidOutB Try.prog = true := by kernel_rfl

def known (a b lv : Int) : Nat → Bool
  | 0 => true
  | k + 1 => known a b lv k && (decide (¬ lv ≤ (k : Int)) || decide (dig a (k : Int) = dig b (k : Int)))
theorem known_iff (a b lv : Int) (k : Nat) : known a b lv k = true ↔ ∀ j, j < k → lv ≤ (j : Int) → dig a (j : Int) = dig b (j : Int) := by
  induction k with
  | zero => simp [known]
  | succ k ih =>
    unfold known
    rw [Bool.and_eq_true, ih, Bool.or_eq_true, decide_eq_true_eq, decide_eq_true_eq]
    constructor
    · rintro ⟨h1, h2⟩ j hj hl
      by_cases e : j = k
      · subst e
        rcases h2 with h2 | h2
        · exact absurd hl h2
        · exact h2
      · exact h1 j (by omega) hl
    · intro h
      refine ⟨fun j hj hl => h j (by omega) hl, ?_⟩
      by_cases e : lv ≤ (k : Int)
      · exact .inr (h k (by omega) e)
      · exact .inl e
theorem known_part (a b lv : Int) (top : Nat) (ht : (top : Int) = max lv 0) : known a b lv 11 = (partN a b top).isNone := by
  cases ho : partN a b top with
  | none =>
    rw [Option.isNone_none, known_iff]
    intro j hj hl
    exact partF_none a b _ _ ho j (by omega) (by omega)
  | some j =>
    obtain ⟨h1, h2, h3, _⟩ := partF_some a b _ _ _ ho
    rw [Option.isNone_some]
    refine Bool.eq_false_iff.2 (fun e => h3 ((known_iff _ _ _ _).1 e j (by omega) (by omega)))


set_option maxRecDepth 100000 in
set_option maxHeartbeats 8000000 in
theorem walk (a b : Nat) (lv : Int) (w : World) (ha : a < 18446744073709551616) (hb : b < 18446744073709551616) (hl0 : -9223372036854775808 ≤ lv ∧ lv < 9223372036854775808) :
    Calls Try.prog 4 #[.int .u64 (a : Int), .int .u64 (b : Int), .int .i64 lv] w fun e w' => e = .returned (.bool true) ∧ Below w.heap.size w w' := by
  obtain ⟨top, ht⟩ : ∃ top : Nat, (top : Int) = max lv 0 := ⟨(max lv 0).toNat, by omega⟩
  have HT := keepH ht
  have HL0 := keepH hl0
  clear ht
  go_enter Try.func4, Try.ntmps4
  go_wp2_with fail
  refine (nd_live w).mono ?_
  rintro e W1 ⟨rfl, C1⟩
  have HC1 := keepH C1
  clear C1
  go_wp2_with fail
  refine (m_new 128 W1 (by omega)).mono ?_
  rintro e W2 ⟨rfl, M2, B2, C2, S2⟩
  have HM2 := keepH M2
  have HC2 := keepH (HC1.out.trans C2 (H := fun _ => False) (fun _ _ x => x) (fun _ _ x => x))
  clear M2 B2 C2 S2
  go_wp2_with fail
  refine (m_view _ W1.heap.size 0 _ HM2.out).mono ?_
  rintro e w2 ⟨rfl, rfl⟩
  obtain ⟨w3, hw3⟩ : ∃ w3, w3 = W2.alloc (.cells #[.iface 92 (.pointer (some ⟨W1.heap.size, 0, none⟩)), .int .i64 0, .int .i64 0] 106) := ⟨_, rfl⟩
  rw [← hw3]
  have HC3 : Hid (Chg (fun _ => False) w w3) := by rw [hw3]; exact HC2.out.alloc _
  have HV3 : Hid (IsView w3 W2.heap.size W1.heap.size 0 0) := by rw [hw3]; exact heap_alloc_new _ _
  clear hw3 HC2 HM2
  go_wp2_with fail
  refine (nil_leafstep _ _).mono ?_
  rintro e w4 ⟨rfl, rfl⟩
  go_wp2_with fail
  refine (nil_forkstep _ _).mono ?_
  rintro e w4 ⟨rfl, rfl⟩
  go_wp2_with fail
  refine (nil_lookstep _ _).mono ?_
  rintro e w4 ⟨rfl, rfl⟩
  go_wp2_with fail
  refine (nil_leafword _).mono ?_
  rintro e w4 ⟨rfl, rfl⟩
  go_wp2_with fail
  refine (nil_forkword _).mono ?_
  rintro e w4 ⟨rfl, rfl⟩
  go_wp2_with fail
  refine (nil_leaferrno _).mono ?_
  rintro e w4 ⟨rfl, rfl⟩
  go_wp2_with fail
  refine (nil_forkerrno _).mono ?_
  rintro e w4 ⟨rfl, rfl⟩
  go_wp2_with fail
  refine (nil_lookpair _).mono ?_
  rintro e w5 ⟨rfl, C5⟩
  have HV5 := keepH (HV3.out.chg C5 (fun h => h))
  have HC5 := keepH (HC3.out.trans C5 (H := fun _ => False) (fun _ _ x => x) (fun _ _ x => x))
  clear C5 HV3 HC3
  go_wp2_with fail
  refine (v_accesses _ _ _ _ _ HV5.out).mono ?_
  rintro e w4 ⟨rfl, rfl⟩
  clear HV5
  go_wp2_with fail
  refine (leaf_new a b _).mono ?_
  rintro e w5 ⟨rfl, rfl⟩
  obtain ⟨w6, hw6⟩ : ∃ w6, w6 = w4.alloc (.cells #[.bool false, .int .i64 0, .int .u64 (a : Int), .int .u64 (b : Int), .int .u64 0] 97) := ⟨_, rfl⟩
  have HL6 : Hid (IsLeaf w6 w4.heap.size false 0 a b 0) := by rw [hw6]; exact heap_alloc_new _ _
  have HC6 : Hid (Chg (fun k => w.heap.size ≤ k) w w6) := by rw [hw6]; exact (HC5.out.mono (fun _ _ x => x.elim)).alloc _
  have HZ : Hid (w.heap.size ≤ w4.heap.size) := HC5.out.size
  rw [← hw6]
  clear hw6 HC5
  obtain ⟨pl, hpl⟩ : ∃ pl, pl = w4.heap.size := ⟨_, rfl⟩
  rw [← hpl] at HL6 HZ ⊢
  clear hpl
  go_wp2_with fail
  refine (fork_new 1 a 2 b lv top _ HT.out).mono ?_
  rintro e w7 ⟨rfl, K7, C7, S7⟩
  have HK7 := keepH K7
  have HL7 : Hid (IsLeaf w7 pl false 0 a b 0) := HL6.out.chg C7 (fun h => h)
  have HC7 : Hid (Chg (fun k => w.heap.size ≤ k) w w7) := HC6.out.trans C7 (fun _ _ x => x) (fun _ _ x => x.elim)
  have HZ7 : Hid (w.heap.size ≤ w6.heap.size ∧ pl < w6.heap.size) := ⟨HC6.out.size, lt_of HL6.out⟩
  clear K7 C7 S7 HL6 HC6
  obtain ⟨pf, hpf⟩ : ∃ pf, pf = w6.heap.size := ⟨_, rfl⟩
  rw [← hpf] at HK7 HZ7 ⊢
  clear hpf
  go_wp2_with fail
  refine (look_new a _).mono ?_
  rintro e w8 ⟨rfl, rfl⟩
  obtain ⟨w9, hw9⟩ : ∃ w9, w9 = w7.alloc (.cells #[.int .u64 (a : Int), .int .i64 0, .int .u64 0, .int .u64 0] 104) := ⟨_, rfl⟩
  have HO9 : Hid (IsLook w9 w7.heap.size a 0 0 0) := by rw [hw9]; exact heap_alloc_new _ _
  have CC9 : Chg (fun _ => False) w7 w9 := by rw [hw9]; exact (Chg.refl _ _).alloc _
  have HC9 : Hid (Chg (fun k => w.heap.size ≤ k) w w9) := HC7.out.trans CC9 (fun _ _ x => x) (fun _ _ x => x.elim)
  have HL9 : Hid (IsLeaf w9 pl false 0 a b 0) := HL7.out.chg CC9 (fun h => h)
  have HK9 := keepH (HK7.out.chg CC9 (fun h => h))
  have HZ9 : Hid (w.heap.size ≤ w7.heap.size ∧ pf < w7.heap.size) := ⟨HC7.out.size, lt_of HK7.out.2⟩
  rw [← hw9]
  clear hw9 CC9 HL7 HK7 HC7
  obtain ⟨pk, hpk⟩ : ∃ pk, pk = w7.heap.size := ⟨_, rfl⟩
  rw [← hpk] at HO9 HZ9 ⊢
  clear hpk
  go_wp2_with fail
  refine (leaf_nv pl a b _ HL9.out).mono ?_
  rintro e x1 ⟨rfl, L1, C1⟩
  have HL10 := keepH L1
  have HK10 := keepH (HK9.out.chg C1 (by have := HZ7.out; omega))
  have HO10 := keepH (HO9.out.chg C1 (by have := HZ7.out; have := HZ9.out; omega))
  have HC10 : Hid (Chg (fun k => w.heap.size ≤ k) w x1) := HC9.out.trans C1 (fun _ _ x => x) (fun i _ e => by have := HZ.out; show _ ≤ _; omega)
  clear L1 C1 HL9 HK9 HO9 HC9
  go_wp2_with fail
  refine (fork_nv HK10.out ha hb (by have := HT.out; have := HL0.out; omega)).mono ?_
  rintro e x2 ⟨rfl, ⟨lv2, K2⟩, C2⟩
  have HK11 := keepH K2
  have HL11 := keepH (HL10.out.chg C2 (by have := HZ7.out; omega))
  have HO11 := keepH (HO10.out.chg C2 (by have := HZ9.out; omega))
  have HC11 : Hid (Chg (fun k => w.heap.size ≤ k) w x2) := HC10.out.trans C2 (fun _ _ x => x) (fun i _ e => by have := HZ7.out; show _ ≤ _; omega)
  clear K2 C2 HL10 HK10 HO10 HC10
  go_wp2_with fail
  refine (look_nv0 pk a 0 0 _ HO11.out).mono ?_
  rintro e x3 ⟨rfl, O3, C3⟩
  have HO12 := keepH O3
  have HL12 := keepH (HL11.out.chg C3 (by have := HZ7.out; have := HZ9.out; omega))
  have HK12 := keepH (HK11.out.chg C3 (by have := HZ9.out; omega))
  have HC12 : Hid (Chg (fun k => w.heap.size ≤ k) w x3) := HC11.out.trans C3 (fun _ _ x => x) (fun i _ e => by have := HZ9.out; show _ ≤ _; omega)
  clear O3 C3 HL11 HK11 HO11 HC11
  go_wp2_with fail
  refine (look_nv1 pk a 0 0 _ HO12.out).mono ?_
  rintro e x4 ⟨rfl, O4, C4⟩
  have HO13 := keepH O4
  have HL13 := keepH (HL12.out.chg C4 (by have := HZ7.out; have := HZ9.out; omega))
  have HK13 := keepH (HK12.out.chg C4 (by have := HZ9.out; omega))
  have HC13 : Hid (Chg (fun k => w.heap.size ≤ k) w x4) := HC12.out.trans C4 (fun _ _ x => x) (fun i _ e => by have := HZ9.out; show _ ≤ _; omega)
  clear O4 C4 HL12 HK12 HO12 HC12
  go_wp2_with fail
  go_loopw [18, 19] (fun s18 s19 wr => ∃ k : Nat, k ≤ 11 ∧ s19 = .int .i64 (k : Int) ∧ s18 = .bool (known a b lv k) ∧ wr = x4) (fun _ s _ => 11 - (intOf s).toNat)
  case atStart => exact ⟨0, by omega, rfl, rfl, rfl⟩
  case round =>
    obtain ⟨k, hk, rfl, rfl, rfl⟩ := hrel
    by_cases hlt : k < 11
    · have i1 : (k : Int) < 11 := by omega
      by_cases hge : lv ≤ (k : Int)
      · have i2 : decide (lv ≤ (k : Int)) = true := decide_eq_true hge
        by_cases hd : dig a (k : Int) = dig b (k : Int)
        · have HN : Hid (known a b lv (k + 1) = known a b lv k) := by show known a b lv (k + 1) = _; simp [known, hd]
          go_wp2_with fail
          refine (digit_any a k _ (by omega) (by omega) (by omega) (by omega)).mono ?_
          rintro e z1 ⟨rfl, rfl⟩
          go_wp2_with fail
          refine (digit_any b k _ (by omega) (by omega) (by omega) (by omega)).mono ?_
          rintro e z1 ⟨rfl, rfl⟩
          go_wp2_with fail
          go_roundw
          case rel => exact ⟨k + 1, by omega, by go_num, by rw [HN.out], by trivial⟩
          case measure => simp [intOf]; omega
        · have n1 : (dig a (k : Int) != dig b (k : Int)) = true := bne_iff_ne.2 hd
          have HN : Hid (known a b lv (k + 1) = false) := by show known a b lv (k + 1) = _; simp [known, hd, hge]
          go_wp2_with fail
          refine (digit_any a k _ (by omega) (by omega) (by omega) (by omega)).mono ?_
          rintro e z1 ⟨rfl, rfl⟩
          go_wp2_with fail
          refine (digit_any b k _ (by omega) (by omega) (by omega) (by omega)).mono ?_
          rintro e z1 ⟨rfl, rfl⟩
          go_wp2_with fail
          go_roundw
          case rel => exact ⟨k + 1, by omega, by go_num, by rw [HN.out], by trivial⟩
          case measure => simp [intOf]; omega
      · have i2 : decide (lv ≤ (k : Int)) = false := decide_eq_false hge
        have HN : Hid (known a b lv (k + 1) = known a b lv k) := by show known a b lv (k + 1) = _; simp [known, hge]
        go_wp2_with fail
        go_roundw
        case rel => exact ⟨k + 1, by omega, by go_num, by rw [HN.out], by trivial⟩
        case measure => simp [intOf]; omega
    · obtain rfl : k = 11 := by omega
      have HKP := keepH (known_part a b lv top HT.out)
      obtain ⟨kb, hkb⟩ : ∃ kb, kb = known a b lv 11 := ⟨_, rfl⟩
      rw [← hkb] at HKP ⊢
      clear hkb
      obtain ⟨er, her⟩ : ∃ er, er = nvErr (partN a b top) := ⟨_, rfl⟩
      rw [← her] at HK13
      have HER : Hid (er = if kb then 5 else 30) := by
        show er = _
        rw [her, HKP.out]
        cases partN (a : Int) (b : Int) top <;> rfl
      clear her
      cases kb with
      | true =>
        obtain rfl : er = 5 := HER.out
        go_wp2_with fail
        refine (leaf_errno _ _ _ _ _ _ _ HL13.out).mono ?_
        rintro e z1 ⟨rfl, rfl⟩
        go_wp2_with fail
        refine (leaf_word _ _ _ _ _ _ _ HL13.out).mono ?_
        rintro e z1 ⟨rfl, rfl⟩
        go_wp2_with fail
        refine (fork_errno HK13.out).mono ?_
        rintro e z1 ⟨rfl, rfl⟩
        go_wp2_with fail
        refine (fork_word HK13.out).mono ?_
        rintro e z1 ⟨rfl, rfl⟩
        go_wp2_with fail
        refine (look_pair _ _ _ _ _ _ HO13.out).mono ?_
        rintro e z2 ⟨rfl, CZ⟩
        have HCZ : Hid (Chg (fun k => w.heap.size ≤ k) w z2) := HC13.out.trans CZ (fun _ _ x => x) (fun _ _ x => x.elim)
        clear CZ
        go_wp2_with fail
        go_ret
        exact ⟨by simp, HCZ.out.below (Nat.le_refl _)⟩
      | false =>
        obtain rfl : er = 30 := HER.out
        go_wp2_with fail
        refine (leaf_errno _ _ _ _ _ _ _ HL13.out).mono ?_
        rintro e z1 ⟨rfl, rfl⟩
        go_wp2_with fail
        refine (leaf_word _ _ _ _ _ _ _ HL13.out).mono ?_
        rintro e z1 ⟨rfl, rfl⟩
        go_wp2_with fail
        refine (fork_errno HK13.out).mono ?_
        rintro e z1 ⟨rfl, rfl⟩
        go_wp2_with fail
        refine (fork_word HK13.out).mono ?_
        rintro e z1 ⟨rfl, rfl⟩
        go_wp2_with fail
        refine (look_pair _ _ _ _ _ _ HO13.out).mono ?_
        rintro e z2 ⟨rfl, CZ⟩
        have HCZ : Hid (Chg (fun k => w.heap.size ≤ k) w z2) := HC13.out.trans CZ (fun _ _ x => x) (fun _ _ x => x.elim)
        clear CZ
        go_wp2_with fail
        go_ret
        exact ⟨by simp, HCZ.out.below (Nat.le_refl _)⟩

set_option maxRecDepth 100000 in
theorem lifted (os : Os) (started : os.Started) (H : Type) (enc : TypeId × Value → H) :
    ReturnsInHanded {} Try.checked os 4 .any (Rows.nodeNoneSpec.pre6 enc Try.prog Try.f4 Rows.nodeNoneRow.domain false) (Rows.nodeNoneSpec.post enc Try.prog Try.f4 false true false false) := by
  refine returnsInHanded_of_change_sized (C := Try.checked) own started (by kernel_rfl) Try.func4
    (ChangeSpec.witness6 (enc := enc) (C := Try.checked) false ⟨#[], #[.int .u64 0, .int .u64 0, .int .i64 0], []⟩ 8 (by kernel_rfl) (by kernel_rfl) (by kernel_rfl) (by kernel_rfl)) ?_
  intro W base args ds gs before hval0 hW hcnd hsz0 _
  have hval : ∀ (j : Nat) t v, Try.f4.params[j]? = some t → args[j]? = some v → Value.okWide Try.prog W .any base t v := hval0
  have hsz : (DataW.weightsEach Try.prog (Try.f4.params.toList ++ Rows.nodeNoneSpec.plain.varTypes Try.prog) (ds ++ gs)).all (· ≤ reachBytes) = true := hsz0
  clear hsz0
  have hW' := hW
  obtain ⟨p, q, hA0, hV, rfl, hfz, hnd⟩ := hW
  have hA : DataW.TrodAll enc Try.prog W 0 (fun _ => true) true Try.f4.params.toList args.toList ds p := hA0
  rw [Try.params4] at hA hval hsz
  obtain ⟨v0, vs0, d0, ds0, p0, q0, hargs, rfl, rfl, h0, r0⟩ := trodAll_cons hA
  obtain ⟨v1, vs1, d1, ds1, p1, q1, rfl, rfl, rfl, h1, r1⟩ := trodAll_cons r0
  obtain ⟨v2, vs2, d2, ds2, p2, q2, rfl, rfl, rfl, h2, r2⟩ := trodAll_cons r1
  obtain ⟨rfl, rfl, rfl⟩ := trodAll_nil r2
  obtain rfl : args = #[v0, v1, v2] := by cases args; simp_all
  obtain ⟨rfl, rfl⟩ := trodVars_none hV
  have k0 := h0
  have lt0 : ∀ x ∈ p0, x.block < W.heap.size := by obtain ⟨m, hm⟩ := k0; exact DataW.trod_lt m _ _ _ hm
  have k1 := h1
  have lt1 : ∀ x ∈ p1, x.block < W.heap.size := by obtain ⟨m, hm⟩ := k1; exact DataW.trod_lt m _ _ _ hm
  have k2 := h2
  have lt2 : ∀ x ∈ p2, x.block < W.heap.size := by obtain ⟨m, hm⟩ := k2; exact DataW.trod_lt m _ _ _ hm
  obtain ⟨a0, rfl, rfl, rfl, w0⟩ := open_int Try.underlying38 (hval 0 38 v0 rfl rfl) h0
  obtain ⟨a, rfl, ha⟩ : ∃ m : Nat, a0 = (m : Int) ∧ m < 18446744073709551616 := by have b := bounds_u64 w0; exact ⟨a0.toNat, by omega, by omega⟩
  obtain ⟨a1, rfl, rfl, rfl, w1⟩ := open_int Try.underlying38 (hval 1 38 v1 rfl rfl) h1
  obtain ⟨b, rfl, hb⟩ : ∃ m : Nat, a1 = (m : Int) ∧ m < 18446744073709551616 := by have b := bounds_u64 w1; exact ⟨a1.toNat, by omega, by omega⟩
  obtain ⟨lv, rfl, rfl, rfl, w2⟩ := open_int Try.underlying3 (hval 2 3 v2 rfl rfl) h2
  have hl0 : -9223372036854775808 ≤ lv ∧ lv < 9223372036854775808 := by have b := bounds_i64 w2; omega
  clear hA0 hval0
  refine (walk a b lv W ha hb hl0).mono fun e W' ⟨he, bel⟩ => ?_
  subst he
  exact ⟨_, rfl, _, _, _, [], _, [], hW', trodAll_mk1 (shut_bool Try.underlying4 _), (trodAll_cons_mk (Below.trod laidOut (by kernel_rfl) (of_decide_eq_true (by kernel_rfl)) k0 bel lt0) (trodAll_cons_mk (Below.trod laidOut (by kernel_rfl) (of_decide_eq_true (by kernel_rfl)) k1 bel lt1) (trodAll_cons_mk (Below.trod laidOut (by kernel_rfl) (of_decide_eq_true (by kernel_rfl)) k2 bel lt2) trodAll_mk0))), rfl, bel.frame _, fun h => by cases h⟩

theorem over : Rows.nodeNoneRow.holds Try.pinned (OpenSpec.ofChange Rows.nodeNoneSpec) :=
  OpenClaim.holds_of_wide 4 Try.f4 rfl rfl rfl rfl rfl rfl rfl ⟨rfl, rfl, rfl, rfl, rfl⟩ rfl rfl rfl rfl rfl (by kernel_rfl) Try.func4 (by kernel_rfl)
    (of_decide_eq_true (by kernel_rfl)) (by unfold Func.isWrapper; first | (rw [if_pos (by decide +kernel)]; kernel_rfl) | (rw [if_neg (by decide +kernel)]; exact ⟨rfl, rfl⟩))
    (fun os started H enc _ => lifted os started H enc)
end Go.Proofs.Ytlmfdgdmegkfdaa.nodeNone
namespace Go.Proofs.Ytlmfdgdmegkfdaa
theorem nodeNone_holds : Rows.NodeNoneSaid := nodeNone.over
end Go.Proofs.Ytlmfdgdmegkfdaa
