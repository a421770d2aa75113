/- Whatever the two keys and the stamp: two leaves part by a Fork from the root's level on, and from its branch down each mixed key's digits lead to its own leaf at every stamp from 1 on, to nothing at 0; like keys never part (shuttertop.TopParts is true for every input). -/
import Derived.Test.YtmhflmjhphhppabRows
import Derived.WalkKit
import Derived.ProofKit
import Derived.OpenShut
import Derived.JoinedCond
import Derived.Carry
import Derived.Lib.SmallJoins
import Derived.Test.YtmhflmjhphhppabTr
namespace Go.Proofs.Ytmhflmjhphhppab.topParts
open Go.ChangeShapes Go.WideShapes Go.ChangeAt Go.RowKit Go.Joins Go.Shelf
set_option linter.unusedVariables false

theorem own : ownKnob Try.prog.godebug = none := by kernel_rfl
theorem laidOut : laidOutB Try.prog = true := by kernel_rfl

set_option maxRecDepth 100000 in
set_option maxHeartbeats 8000000 in
theorem walk (a b st : Nat) (w : World) (hka : a < 18446744073709551616) (hkb : b < 18446744073709551616) (hks : st < 18446744073709551616) :
    Calls Try.prog 8 #[.int .u64 (a : Int), .int .u64 (b : Int), .int .u64 (st : Int)] w fun e w' => e = .returned (.bool true) ∧ Below w.heap.size w w' := by
  obtain ⟨ha, hha⟩ : ∃ ha, ha = mixN a := ⟨_, rfl⟩
  obtain ⟨hb, hhb⟩ : ∃ hb, hb = mixN b := ⟨_, rfl⟩
  have ba : ha < 18446744073709551616 := by rw [hha]; exact mixN_lt
  have bb : hb < 18446744073709551616 := by rw [hhb]; exact mixN_lt
  have HMA : Hid (∀ w, Calls Try.prog 50 #[.int .u64 (a : Int)] w fun e w' => e = .returned (.int .u64 (ha : Int)) ∧ w' = w) := fun w => by rw [hha]; exact mix_nat a w hka
  have HMB : Hid (∀ w, Calls Try.prog 50 #[.int .u64 (b : Int)] w fun e w' => e = .returned (.int .u64 (hb : Int)) ∧ w' = w) := fun w => by rw [hhb]; exact mix_nat b w hkb
  have HPT : Hid ((a = b → partN (ha : Int) (hb : Int) 0 = none) ∧ (a ≠ b → ∃ L, partN (ha : Int) (hb : Int) 0 = some L)) := by
    refine ⟨fun e => ?_, fun e => ?_⟩
    · rw [hha, hhb, e]
      exact part_same _
    · rw [hha, hhb]
      exact part_some a b hka hkb e
  clear hha hhb
  go_enter Try.func8, Try.ntmps8
  go_wp2_with fail
  refine (m_new 4096 w (by omega)).mono ?_
  rintro e W1 ⟨rfl, M1, B1, C1, S1⟩
  have HM1 := keepH M1
  have S2 := keepH (St.new0 (th := 0) M1 B1 C1 S1)
  clear M1 B1 C1 S1
  go_wp2_with fail
  refine (m_view _ w.heap.size 0 _ HM1.out).mono ?_
  rintro e w2 ⟨rfl, rfl⟩
  obtain ⟨w3, hw3⟩ : ∃ w3, w3 = W1.alloc (.cells #[.iface 126 (.pointer (some ⟨w.heap.size, 0, none⟩)), .int .i64 0, .int .i64 0] 140) := ⟨_, rfl⟩
  rw [← hw3] at S2 ⊢
  clear hw3 HM1
  obtain ⟨v, hv⟩ : ∃ v, v = W1.heap.size := ⟨_, rfl⟩
  rw [← hv] at S2 ⊢
  clear hv
  obtain ⟨m, hm⟩ : ∃ m, m = w.heap.size + 1 := ⟨_, rfl⟩
  rw [← hm] at S2 ⊢
  clear hm
  obtain ⟨bk, hbk⟩ : ∃ bk, bk = w.heap.size := ⟨_, rfl⟩
  have HS3 : Hid (SR w m bk v 0 4096 w3 1 0 [] 0 (fun _ => False)) := by
    rw [← hbk] at S2
    exact ⟨_, [], S2.out, rfl, fun k e => e.elim⟩
  clear hbk S2
  go_wp2_with fail
  refine (HS3.out.aloc [1048576] w3.heap.size 1 rfl (by simp) (by simp) (by omega) (by omega)).mono ?_
  rintro e w4 ⟨rfl, S4, _⟩
  have e1 : alAt 4096 1 [1048576].length = 1 := by decide
  have e2 : alNext 4096 1 [1048576].length = 2 := by decide
  rw [e1]
  rw [e2] at S4
  obtain ⟨cs4, hcs4⟩ : ∃ cs4, cs4 = alN 4096 1 [] [1048576] := ⟨_, rfl⟩
  rw [← hcs4] at S4
  have HS4 := keepH S4
  clear S4 e1 e2 hcs4 HS3
  go_wp2_with fail
  refine (leaf_new a 1 _).mono ?_
  rintro e w5 ⟨rfl, rfl⟩
  obtain ⟨w6, hw6⟩ : ∃ w6, w6 = w4.alloc (.cells #[.bool false, .int .i64 0, .int .u64 (a : Int), .int .u64 ((1 : Nat) : Int), .int .u64 0] 131) := ⟨_, rfl⟩
  have HX6 : Hid (IsLeaf w6 w4.heap.size false 0 a 1 0) := by rw [hw6]; exact heap_alloc_new _ _
  have HS6 : Hid (SR w m bk v 0 4096 w6 2 1 cs4 1 (fun k => False ∨ k = w4.heap.size)) := by rw [hw6]; exact HS4.out.alloc _
  rw [← hw6]
  clear hw6 HS4
  obtain ⟨px, hpx⟩ : ∃ px, px = w4.heap.size := ⟨_, rfl⟩
  rw [← hpx] at HX6 HS6 ⊢
  clear hpx
  have HS6w : Hid (SR w m bk v 0 4096 w6 2 1 cs4 1 (fun k => k = px)) := HS6.out.mono (fun k e => .inr e)
  clear HS6
  go_wp2_with fail
  refine (leaf_new b 2 _).mono ?_
  rintro e w7 ⟨rfl, rfl⟩
  obtain ⟨w8, hw8⟩ : ∃ w8, w8 = w6.alloc (.cells #[.bool false, .int .i64 0, .int .u64 (b : Int), .int .u64 ((2 : Nat) : Int), .int .u64 0] 131) := ⟨_, rfl⟩
  have HY8 : Hid (IsLeaf w8 w6.heap.size false 0 b 2 0) := by rw [hw8]; exact heap_alloc_new _ _
  have HX8 : Hid (IsLeaf w8 px false 0 a 1 0) := by rw [hw8]; exact alloc_of HX6.out _
  have HS8 : Hid (SR w m bk v 0 4096 w8 2 1 cs4 1 (fun k => k = px ∨ k = w6.heap.size)) := by rw [hw8]; exact HS6w.out.alloc _
  have HNE : Hid (px < w6.heap.size) := lt_of HX6.out
  rw [← hw8]
  clear hw8 HS6w HX6
  obtain ⟨py, hpy⟩ : ∃ py, py = w6.heap.size := ⟨_, rfl⟩
  rw [← hpy] at HY8 HS8 HNE ⊢
  clear hpy
  go_wp2_with fail
  refine (leaf_alone (D := fun k => k = py) (a := 2) (HS8.out.mono (fun k e => e.elim .inr .inl)) (by have := HNE.out; omega) HX8.out hka (by omega) (by omega) (by decide) (by omega) (by omega) (by omega)).mono ?_
  rintro e w9 ⟨rfl, X9, S9, K9⟩
  have HX9 : Hid (IsLeaf w9 px true 0 a 1 5) := X9
  have HY9 : Hid (IsLeaf w9 py false 0 b 2 0) := (K9 py rfl).trans HY8.out
  have e3 : alNext 4096 2 2 = 4 := by decide
  rw [e3] at S9
  obtain ⟨cs9, hcs9⟩ : ∃ cs9, cs9 = alN 4096 2 cs4 [a, 1] := ⟨_, rfl⟩
  rw [← hcs9] at S9
  have HS9 := keepH S9
  clear X9 S9 K9 e3 hcs9 HX8 HY8 HS8
  go_wp2_with fail
  refine (leaf_alone (D := fun k => k = px) (a := 4) (HS9.out.mono (fun k e => e.elim .inr .inl)) (by have := HNE.out; omega) HY9.out hkb (by omega) (by omega) (by decide) (by omega) (by omega) (by omega)).mono ?_
  rintro e wA ⟨rfl, YA, SA, KA⟩
  have HYA : Hid (IsLeaf wA py true 0 b 2 9) := YA
  have HXA : Hid (IsLeaf wA px true 0 a 1 5) := (KA px rfl).trans HX9.out
  have e3 : alNext 4096 4 2 = 6 := by decide
  rw [e3] at SA
  obtain ⟨csA, hcsA⟩ : ∃ csA, csA = alN 4096 4 cs9 [b, 2] := ⟨_, rfl⟩
  rw [← hcsA] at SA
  have HSA : Hid (SR w m bk v 0 4096 wA 6 3 csA 3 (fun k => k = px ∨ k = py)) := SA
  clear YA SA KA e3 hcsA HX9 HY9 HS9
  go_wp2_with fail
  refine (HMA.out _).mono ?_
  rintro e z1 ⟨rfl, rfl⟩
  go_wp2_with fail
  refine (HMB.out _).mono ?_
  rintro e z1 ⟨rfl, rfl⟩
  clear HMA HMB
  go_wp2_with fail
  refine (leaf_word _ _ _ _ _ _ _ HXA.out).mono ?_
  rintro e z1 ⟨rfl, rfl⟩
  go_wp2_with fail
  refine (leaf_word _ _ _ _ _ _ _ HYA.out).mono ?_
  rintro e z1 ⟨rfl, rfl⟩
  go_wp2_with fail
  refine (fork_new 5 ha 9 hb 0 0 _ (by omega)).mono ?_
  rintro e wB ⟨rfl, PB, CB, ZB⟩
  have HPB := keepH PB
  have HXB : Hid (IsLeaf wB px true 0 a 1 5) := HXA.out.chg CB (fun x => x)
  have HYB : Hid (IsLeaf wB py true 0 b 2 9) := HYA.out.chg CB (fun x => x)
  have HSB : Hid (SR w m bk v 0 4096 wB 6 3 csA 3 (own2 (fun k => k = px ∨ k = py) z1.heap.size none)) := HSA.out.add CB (Nat.le_refl _) (by omega)
  have HLT : Hid (px < z1.heap.size ∧ py < z1.heap.size) := ⟨lt_of HXA.out, lt_of HYA.out⟩
  clear PB CB ZB HXA HYA HSA
  obtain ⟨pf, hpf⟩ : ∃ pf, pf = z1.heap.size := ⟨_, rfl⟩
  rw [← hpf] at HPB HSB HLT ⊢
  clear hpf
  by_cases hab : a = b
  · have HN := keepH (HPT.out.1 hab)
    subst hab
    go_wp2_with fail
    refine (known_alone (.pointer (some ⟨v, 0, none⟩)) HPB.out ba bb HN.out).mono ?_
    rintro e wC ⟨rfl, PC, CC⟩
    have HPC := keepH PC
    have HCC : Hid (Chg (fun k => w.heap.size ≤ k) w wC) := HSB.out.chg.trans CC (fun _ _ x => x.elim) (fun i hi e => by
      obtain ⟨F, l, S, L, A⟩ := HSB.out
      have := (A pf (.inr (.inl rfl))).2.2.2.1
      omega)
    clear PC CC
    go_wp2_with fail
    refine (fork_errno HPC.out).mono ?_
    rintro e z2 ⟨rfl, rfl⟩
    go_wp2_with fail
    refine (fork_word HPC.out).mono ?_
    rintro e z2 ⟨rfl, rfl⟩
    go_wp2_with fail
    go_ret
    exact ⟨by simp, HCC.out.below (Nat.le_refl _)⟩
  · obtain ⟨L, hL⟩ := HPT.out.2 hab
    have n1 : ((a : Int) == (b : Int)) = false := beq_eq_false_iff_ne.2 (by omega)
    have n2 : ¬ (a : Int) = (b : Int) := by omega
    obtain ⟨q1, q2, q3, q4⟩ := partF_some _ _ _ _ _ hL
    have HLL : Hid (L < 11) := by show L < 11; omega
    have HNEQ : Hid (dgN ha L ≠ dgN hb L) := fun e => q3 (by rw [← dgN_eq, ← dgN_eq, e])
    have HEQ : Hid (∀ i, i < L → dgN ha i = dgN hb i) := fun i hi => by
      have e := q4 i (by omega) hi
      rw [← dgN_eq, ← dgN_eq] at e
      omega
    have HFI : Hid (FInv w m bk v pf 5 ha 9 hb 0 L 6 3 (fun k => k = px ∨ k = py) 0 wB) := .inl ⟨rfl, csA, HSB.out.mono (fun k e => e.elim .inl (fun e => .inr (.inl e))), HPB.out⟩
    have HFA := keepH (fork_alone HFI.out hL ba bb (by omega) (by omega) (by omega) (by omega) (by omega) (by have := HLT.out; omega))
    clear q1 q2 q3 q4 hL HFI HSB HPB
    go_wp2_with fail
    refine HFA.out.mono ?_
    rintro e wC ⟨rfl, hD, hK⟩
    have HXC : Hid (IsLeaf wC px true 0 a 1 5) := (hK px (.inl rfl)).trans HXB.out
    have HYC : Hid (IsLeaf wC py true 0 b 2 9) := (hK py (.inr rfl)).trans HYB.out
    obtain ⟨cs, nx, SC, MC, BC, PC⟩ := hD
    rw [Nat.sub_zero] at MC BC PC SC
    obtain ⟨ww, hww⟩ : ∃ ww, ww = 2 * (6 + 6 + 67 * L) := ⟨_, rfl⟩
    rw [← hww] at PC
    have HPC := keepH PC
    have HSC := keepH SC
    have HPA := keepH (path_a MC BC HNEQ.out (by omega) HLL.out)
    have HPBb := keepH (path_b MC BC HEQ.out (by omega) HLL.out)
    have HWW := keepH hww
    clear hK SC MC BC PC hww HFA HXB HYB
    go_wp2_with fail
    refine (fork_errno HPC.out).mono ?_
    rintro e z2 ⟨rfl, rfl⟩
    go_wp2_with fail
    refine (fork_word HPC.out).mono ?_
    rintro e z2 ⟨rfl, rfl⟩
    go_wp2_with fail
    refine (leaf_word _ _ _ _ _ _ _ HXC.out).mono ?_
    rintro e z2 ⟨rfl, rfl⟩
    go_wp2_with fail
    refine (leads_any (leaf := 5) (xx := 2) (ww := ww) HSC.out HPA.out HLL.out (by omega) ba (by decide) (by decide) hks (by have := HLL.out; omega) HWW.out).mono ?_
    rintro e wD ⟨rfl, md, hmd, SD, KD⟩
    have HSD := keepH SD
    have HPD := keepH (show IsFork wD pf true 0 ww ha 9 hb 0 (L - L) (brL 6 ha hb L L) 2 ww from ⟨HPC.out.1, (KD pf (.inr rfl)).trans HPC.out.2⟩)
    have HYD : Hid (IsLeaf wD py true 0 b 2 9) := (KD py (.inl (.inr rfl))).trans HYC.out
    have HMD : Hid (md ≤ 1000) := by show md ≤ 1000; have := HLL.out; omega
    clear SD KD hmd HPC HSC HXC HYC HPA
    go_wp2_with fail
    refine (fork_word HPD.out).mono ?_
    rintro e z3 ⟨rfl, rfl⟩
    go_wp2_with fail
    refine (leaf_word _ _ _ _ _ _ _ HYD.out).mono ?_
    rintro e z3 ⟨rfl, rfl⟩
    go_wp2_with fail
    refine (leads_any (leaf := 9) (xx := 4) (ww := ww) HSD.out HPBb.out HLL.out (by omega) bb (by decide) (by decide) hks HMD.out HWW.out).mono ?_
    rintro e wE ⟨rfl, me, hme, SE, KE⟩
    have HCE : Hid (Chg (fun k => w.heap.size ≤ k) w wE) := SE.chg.mono (fun _ _ x => x.elim)
    clear SE KE hme
    go_wp2_with fail
    go_ret
    exact ⟨by simp, HCE.out.below (Nat.le_refl _)⟩

set_option maxRecDepth 100000 in
theorem lifted (os : Os) (started : os.Started) (H : Type) (enc : TypeId × Value → H) :
    ReturnsInHanded {} Try.checked os 8 .any (Rows.topPartsSpec.pre6 enc Try.prog Try.f8 Rows.topPartsRow.domain false) (Rows.topPartsSpec.post enc Try.prog Try.f8 false true false false) := by
  refine returnsInHanded_of_change_sized (C := Try.checked) own started (by kernel_rfl) Try.func8
    (ChangeSpec.witness6 (enc := enc) (C := Try.checked) false ⟨#[], #[.int .u64 0, .int .u64 0, .int .u64 0], []⟩ 8 (by kernel_rfl) (by kernel_rfl) (by kernel_rfl) (by kernel_rfl)) ?_
  intro W base args ds gs before hval0 hW hcnd hsz0 _
  have hval : ∀ (j : Nat) t v, Try.f8.params[j]? = some t → args[j]? = some v → Value.okWide Try.prog W .any base t v := hval0
  have hsz : (DataW.weightsEach Try.prog (Try.f8.params.toList ++ Rows.topPartsSpec.plain.varTypes Try.prog) (ds ++ gs)).all (· ≤ reachBytes) = true := hsz0
  clear hsz0
  have hW' := hW
  obtain ⟨p, q, hA0, hV, rfl, hfz, hnd⟩ := hW
  have hA : DataW.TrodAll enc Try.prog W 0 (fun _ => true) true Try.f8.params.toList args.toList ds p := hA0
  rw [Try.params8] at hA hval hsz
  obtain ⟨v0, vs0, d0, ds0, p0, q0, hargs, rfl, rfl, h0, r0⟩ := trodAll_cons hA
  obtain ⟨v1, vs1, d1, ds1, p1, q1, rfl, rfl, rfl, h1, r1⟩ := trodAll_cons r0
  obtain ⟨v2, vs2, d2, ds2, p2, q2, rfl, rfl, rfl, h2, r2⟩ := trodAll_cons r1
  obtain ⟨rfl, rfl, rfl⟩ := trodAll_nil r2
  obtain rfl : args = #[v0, v1, v2] := by cases args; simp_all
  obtain ⟨rfl, rfl⟩ := trodVars_none hV
  have k0 := h0
  have lt0 : ∀ x ∈ p0, x.block < W.heap.size := by obtain ⟨m, hm⟩ := k0; exact DataW.trod_lt m _ _ _ hm
  have k1 := h1
  have lt1 : ∀ x ∈ p1, x.block < W.heap.size := by obtain ⟨m, hm⟩ := k1; exact DataW.trod_lt m _ _ _ hm
  have k2 := h2
  have lt2 : ∀ x ∈ p2, x.block < W.heap.size := by obtain ⟨m, hm⟩ := k2; exact DataW.trod_lt m _ _ _ hm
  obtain ⟨a0, rfl, rfl, rfl, w0⟩ := open_int Try.underlying22 (hval 0 22 v0 rfl rfl) h0
  obtain ⟨a, rfl, hka⟩ : ∃ m : Nat, a0 = (m : Int) ∧ m < 18446744073709551616 := by have b := bounds_u64 w0; exact ⟨a0.toNat, by omega, by omega⟩
  obtain ⟨a1, rfl, rfl, rfl, w1⟩ := open_int Try.underlying22 (hval 1 22 v1 rfl rfl) h1
  obtain ⟨b, rfl, hkb⟩ : ∃ m : Nat, a1 = (m : Int) ∧ m < 18446744073709551616 := by have b := bounds_u64 w1; exact ⟨a1.toNat, by omega, by omega⟩
  obtain ⟨a2, rfl, rfl, rfl, w2⟩ := open_int Try.underlying22 (hval 2 22 v2 rfl rfl) h2
  obtain ⟨st, rfl, hks⟩ : ∃ m : Nat, a2 = (m : Int) ∧ m < 18446744073709551616 := by have b := bounds_u64 w2; exact ⟨a2.toNat, by omega, by omega⟩
  clear hA0 hval0
  refine (walk a b st W hka hkb hks).mono fun e W' ⟨he, bel⟩ => ?_
  subst he
  exact ⟨_, rfl, _, _, _, [], _, [], hW', trodAll_mk1 (shut_bool Try.underlying4 _), (trodAll_cons_mk (Below.trod laidOut (by kernel_rfl) (of_decide_eq_true (by kernel_rfl)) k0 bel lt0) (trodAll_cons_mk (Below.trod laidOut (by kernel_rfl) (of_decide_eq_true (by kernel_rfl)) k1 bel lt1) (trodAll_cons_mk (Below.trod laidOut (by kernel_rfl) (of_decide_eq_true (by kernel_rfl)) k2 bel lt2) trodAll_mk0))), rfl, bel.frame _, fun h => by cases h⟩

theorem over : Rows.topPartsRow.holds Try.pinned (OpenSpec.ofChange Rows.topPartsSpec) :=
  OpenClaim.holds_of_wide 8 Try.f8 rfl rfl rfl rfl rfl rfl rfl ⟨rfl, rfl, rfl, rfl, rfl⟩ rfl rfl rfl rfl rfl (by kernel_rfl) Try.func8 (by kernel_rfl)
    (of_decide_eq_true (by kernel_rfl)) (by unfold Func.isWrapper; first | (rw [if_pos (by decide +kernel)]; kernel_rfl) | (rw [if_neg (by decide +kernel)]; exact ⟨rfl, rfl⟩))
    (fun os started H enc _ => lifted os started H enc)
end Go.Proofs.Ytmhflmjhphhppab.topParts
namespace Go.Proofs.Ytmhflmjhphhppab
theorem topParts_holds : Rows.TopPartsSaid := topParts.over
end Go.Proofs.Ytmhflmjhphhppab
