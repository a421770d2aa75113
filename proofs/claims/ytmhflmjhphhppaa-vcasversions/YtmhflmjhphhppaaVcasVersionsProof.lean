/- Whatever the cells hold and whatever address is asked for as an object: the versions that the program tells are the document's, none of a nil memory (shutterlaw09.VcasVersions is true for every input). -/
import Derived.Test.YtmhflmjhphhppaaRows
import Derived.WalkKit
import Derived.ProofKit
import Derived.OpenShut
import Derived.JoinedCond
import Derived.Carry
import Derived.Lib.SmallJoins
import Derived.Test.YtmhflmjhphhppaaVo
namespace Go.Proofs.Ytmhflmjhphhppaa.vcasVersions
open Go.ChangeShapes Go.WideShapes Go.ChangeAt Go.RowKit Go.Joins Go.Shelf
set_option linter.unusedVariables false

theorem own : ownKnob Try.prog.godebug = none := by kernel_rfl
theorem laidOut : laidOutB Try.prog = true := by kernel_rfl

set_option maxRecDepth 100000 in
set_option maxHeartbeats 8000000 in
theorem walk (p : Option Addr) (c : Nat) (l : List Nat) (obj : Nat) (w : World) (hP : U64At w p l) (ho : obj < 18446744073709551616) :
    Calls Try.prog 3 #[.slice p l.length c, .int .u64 (obj : Int)] w fun e w' => e = .returned (.bool true) ∧ Below w.heap.size w w' := by
  obtain ⟨o2, ho2⟩ : ∃ o2, o2 = obj % 256 := ⟨_, rfl⟩
  have m1 : (obj : Int) % 256 = (o2 : Int) := by omega
  have m2 : (obj : Int).tmod 256 = (o2 : Int) := by rw [Int.tmod_eq_emod_of_nonneg (by omega)]; exact m1
  have bo2 : o2 < 18446744073709551616 := by omega
  have m3 : IntKind.u64.wrap (o2 : Int) = (o2 : Int) := u64_lt bo2
  have HPA := keepH hP
  clear hP ho2
  go_enter Try.func3, Try.ntmps3
  go_wp2_with fail
  refine (m_new 256 w (by omega)).mono ?_
  rintro e W1 ⟨rfl, M1, B1, C1, S1⟩
  have HM1 := keepH M1
  have HB1 := keepH B1
  have HC1 := keepH C1
  have HS1 := keepH S1
  clear M1 B1 C1 S1
  go_wp2_with fail
  refine (r_new 256 W1 (by omega)).mono ?_
  rintro e W2 ⟨rfl, R2, C2, S2⟩
  have HR2 := keepH R2
  have HM2 := keepH (HM1.out.chg C2 (fun x => x))
  have HB2 := keepH (HB1.out.chg C2 (fun _ _ x => x))
  have HC2 := keepH (HC1.out.trans C2 (H := fun _ => False) (fun _ _ x => x) (fun _ _ x => x))
  have HS2 := keepH S2
  clear R2 C2 S2 HM1 HB1 HC1
  go_wp2_with fail
  refine (m_view _ w.heap.size 0 _ HM2.out).mono ?_
  rintro e w2 ⟨rfl, rfl⟩
  obtain ⟨w3, hw3⟩ : ∃ w3, w3 = W2.alloc (.cells #[.iface 85 (.pointer (some ⟨w.heap.size, 0, none⟩)), .int .i64 0, .int .i64 0] 91) := ⟨_, rfl⟩
  have HVB : Hid (VB w (w.heap.size + 1) w.heap.size W2.heap.size (W1.heap.size + 1) 0 w3) := by
    have c : Chg (fun _ => False) W2 w3 := by rw [hw3]; exact (Chg.refl _ _).alloc _
    have hv : IsView w3 W2.heap.size w.heap.size 0 0 := by rw [hw3]; exact heap_alloc_new _ _
    have s1 := HS1.out
    have s2 := HS2.out
    have hsz : w3.heap.size = W2.heap.size + 1 := by rw [hw3]; simp
    refine ⟨[], fun k => k = W1.heap.size ∨ k = W1.heap.size + 1, [], ⟨fun k => k = w.heap.size, [], ⟨HB2.out.chg c (fun _ _ x => x), hv, HM2.out.chg c (fun x => x), by omega, by omega, by omega, fun k e => by omega, by omega, HC2.out.trans c (fun _ _ x => x) (fun _ _ x => x)⟩, rfl, fun k e => by omega⟩, HR2.out.chg c (fun _ _ x => x), rfl⟩
  rw [← hw3]
  clear hw3 HM2 HB2 HC2 HR2
  obtain ⟨v, hv⟩ : ∃ v, v = W2.heap.size := ⟨_, rfl⟩
  rw [← hv] at HVB ⊢
  clear hv HS2
  obtain ⟨nm, hnm⟩ : ∃ nm, nm = W1.heap.size + 1 := ⟨_, rfl⟩
  rw [← hnm] at HVB ⊢
  clear hnm HS1
  obtain ⟨m, hm⟩ : ∃ m, m = w.heap.size + 1 := ⟨_, rfl⟩
  rw [← hm] at HVB ⊢
  clear hm
  obtain ⟨b, hb⟩ : ∃ b, b = w.heap.size := ⟨_, rfl⟩
  rw [← hb] at HVB
  clear hb
  obtain ⟨n, hn⟩ : ∃ n, n = min l.length 256 := ⟨_, rfl⟩
  have HN := keepH hn
  clear hn
  go_wp2_with fail
  go_loopw [10] (fun s wr => ∃ k : Nat, k ≤ n ∧ s = .int .i64 (k : Int) ∧ Hid (VB w m b v nm k wr)) (fun s _ => n - (intOf s).toNat)
  case atStart => exact ⟨0, by omega, rfl, HVB⟩
  case round =>
    obtain ⟨k, hk, rfl, HK⟩ := hrel
    by_cases hlt : k < n
    · have i1 : (k : Int) < (l.length : Int) := by have := HN.out; omega
      have i2 : (k : Int) < 256 := by have := HN.out; omega
      have i3 : k < 256 := by omega
      have i4 : k < l.length := by omega
      have kw : IntKind.u64.wrap (k : Int) = (k : Int) := u64_lt (by omega)
      obtain ⟨x, hx⟩ : ∃ x, l[k]? = some x := ⟨_, List.getElem?_eq_getElem i4⟩
      rcases HPA.out with h0 | ⟨bk, off, hp, hbk, hc⟩
      · rw [h0] at hx
        simp at hx
      · subst hp
        obtain ⟨bx, d0⟩ := hc k x hx
        obtain ⟨cs, R, tr, SS, MM, LL⟩ := HK.out
        have HSS := keepH SS
        have HMM := keepH MM
        have HLL := keepH LL
        have c0 : wr.cell? ⟨bk, off + k, none⟩ = some (.int .u64 (x : Int)) := cell_chg SS.chg d0 (fun x => x)
        have HD0 := keepH d0
        clear hx hc SS MM LL HK d0
        go_wp2_with fail
        refine (HSS.out.store k x (by omega) bx (by omega) (by omega)).mono ?_
        rintro e y1 ⟨rfl, S1, K1, Z1⟩
        have HS1 := keepH S1
        have HM1 := keepH (HMM.out.kept' Z1 K1)
        have c1 : y1.cell? ⟨bk, off + k, none⟩ = some (.int .u64 (x : Int)) := cell_chg S1.chg HD0.out (fun x => x)
        clear S1 K1 Z1 HSS HMM c0
        go_wp2_with fail
        refine (r_store nm 256 1 k x 0 R cs tr _ HM1.out (by have := HLL.out; omega) (by omega) bx).mono ?_
        rintro e y2 ⟨rfl, R2, M2, G2⟩
        have HVB2 : Hid (VB w m b v nm (k + 1) y2) := ⟨_, R2, _, HS1.out.grow G2.chg G2.new (fun k e => M2.lt k e), M2, by rw [List.length_append, HLL.out]; rfl⟩
        clear M2 G2 HS1 HM1 c1
        go_wp2_with fail
        go_roundw
        case rel => exact ⟨k + 1, by omega, by first | rfl | go_num, HVB2⟩
        case measure => simp [intOf]; omega
    · obtain rfl : k = n := by omega
      go_upto_region 7 with fail
      go_cut [32] from 25 to 32 (fun s30 wz => s30 = .bool false ∧ wz = wr)
      case first =>
        by_cases h4 : k < l.length
        · have i1 : (k : Int) < (l.length : Int) := by omega
          have i2 : ¬ (k : Int) < 256 := by have := HN.out; omega
          go_wp2_with fail
          go_meet
          exact ⟨by first | rfl | trivial | simp [i2], by first | rfl | trivial⟩
        · have i1 : ¬ (k : Int) < (l.length : Int) := by omega
          go_wp2_with fail
          go_meet
          exact ⟨by first | rfl | trivial | simp [i1], by first | rfl | trivial⟩
      case rest =>
      obtain ⟨rfl, hwc⟩ := hcut
      subst hwc
      obtain ⟨cs, R, tr, SS, MM, LL⟩ := HK.out
      have HCW := keepH SS.chg
      obtain ⟨F, lb, S, _, _⟩ := SS
      have HMb := keepH S.mem
      have HBb := keepH S.bank
      have HMM := keepH MM
      clear MM LL HK S HN HPA
      go_wp2_with fail
      refine (versions_any m b 256 1 obj F cs lb _ HMb.out HBb.out ho (by omega)).mono ?_
      rintro e x1 ⟨K1, v1, rfl, T1, V1⟩
      have HT1 := keepH T1
      have HV1 := keepH V1
      have HMb1 := keepH (HMb.out.chg V1.chg (fun x => x))
      have HBb1 := keepH (HBb.out.chg V1.chg (fun _ _ x => x))
      have HMM1 := keepH (HMM.out.chg V1.chg (fun _ _ x => x))
      have HR1 := keepH V1.row
      have HCW1 := keepH (HCW.out.trans V1.chg (H := fun _ => False) (fun _ _ x => x) (fun _ _ x => x))
      clear T1 V1 HMb HBb HMM HCW
      go_wp2_with fail
      refine (versions_any m b 256 1 o2 F cs lb _ HMb1.out HBb1.out bo2 (by omega)).mono ?_
      rintro e x2 ⟨K2, v2, rfl, T2, V2⟩
      have HT2 := keepH T2
      have HMM2 := keepH (HMM1.out.chg V2.chg (fun _ _ x => x))
      have HR1b : Hid (x2.ownsRow 0 57 2 v1 K1 (verRow cs obj K1)) := row_kept HR1.out fun g e => V2.chg.block g (row_lt HR1.out g e) (fun x => x)
      have HR2 := keepH V2.row
      have HCW2 := keepH (HCW1.out.trans V2.chg (H := fun _ => False) (fun _ _ x => x) (fun _ _ x => x))
      clear T2 V2 HMb1 HBb1 HMM1 HR1 HCW1 HV1
      go_wp2_with fail
      refine (vc_live _).mono ?_
      rintro e x3 ⟨rfl, C3⟩
      have HMM3 := keepH (HMM2.out.chg C3 (fun _ _ x => x))
      have HR1c : Hid (x3.ownsRow 0 57 2 v1 K1 (verRow cs obj K1)) := row_kept HR1b.out fun g e => C3.block g (row_lt HR1b.out g e) (fun x => x)
      have HR2c : Hid (x3.ownsRow 0 57 2 v2 K2 (verRow cs o2 K2)) := row_kept HR2.out fun g e => C3.block g (row_lt HR2.out g e) (fun x => x)
      have HCW3 := keepH (HCW2.out.trans C3 (H := fun _ => False) (fun _ _ x => x) (fun _ _ x => x))
      clear C3 HMM2 HR1b HR2 HCW2
      go_wp2_with fail
      refine (rversions_any nm 256 1 obj R cs tr _ HMM3.out ho).mono ?_
      rintro e x4 ⟨K4, v4, rfl, T4, V4⟩
      obtain rfl : K1 = K4 := HT1.out.one T4
      have HMM4 := keepH (HMM3.out.chg V4.chg (fun _ _ x => x))
      have HR1d : Hid (x4.ownsRow 0 57 2 v1 K1 (verRow cs obj K1)) := row_kept HR1c.out fun g e => V4.chg.block g (row_lt HR1c.out g e) (fun x => x)
      have HR2d : Hid (x4.ownsRow 0 57 2 v2 K2 (verRow cs o2 K2)) := row_kept HR2c.out fun g e => V4.chg.block g (row_lt HR2c.out g e) (fun x => x)
      have HR4 := keepH V4.row
      have HCW4 := keepH (HCW3.out.trans V4.chg (H := fun _ => False) (fun _ _ x => x) (fun _ _ x => x))
      clear T4 V4 HMM3 HR1c HR2c HCW3
      go_wp2_with fail
      refine (same_versions cs obj K1 v1 v4 _ HR1d.out HR4.out (by have := HT1.out.1; omega)).mono ?_
      rintro e x5 ⟨rfl, C5⟩
      have HMM5 := keepH (HMM4.out.chg C5 (fun _ _ x => x))
      have HR2e : Hid (x5.ownsRow 0 57 2 v2 K2 (verRow cs o2 K2)) := row_kept HR2d.out fun g e => C5.block g (row_lt HR2d.out g e) (fun x => x)
      have HCW5 := keepH (HCW4.out.trans C5 (H := fun _ => False) (fun _ _ x => x) (fun _ _ x => x))
      clear C5 HMM4 HR1d HR2d HR4 HCW4
      go_wp2_with fail
      refine (rversions_any nm 256 1 o2 R cs tr _ HMM5.out bo2).mono ?_
      rintro e x6 ⟨K6, v6, rfl, T6, V6⟩
      obtain rfl : K2 = K6 := HT2.out.one T6
      have HR2f : Hid (x6.ownsRow 0 57 2 v2 K2 (verRow cs o2 K2)) := row_kept HR2e.out fun g e => V6.chg.block g (row_lt HR2e.out g e) (fun x => x)
      have HR6 := keepH V6.row
      have HCW6 := keepH (HCW5.out.trans V6.chg (H := fun _ => False) (fun _ _ x => x) (fun _ _ x => x))
      clear T6 V6 HMM5 HR2e HCW5
      go_wp2_with fail
      refine (same_versions cs o2 K2 v2 v6 _ HR2f.out HR6.out (by have := HT2.out.1; omega)).mono ?_
      rintro e x7 ⟨rfl, C7⟩
      have HCW7 := keepH (HCW6.out.trans C7 (H := fun _ => False) (fun _ _ x => x) (fun _ _ x => x))
      clear C7 HR2f HR6 HCW6
      go_wp2_with fail
      refine (nil_versions obj _).mono ?_
      rintro e x8 ⟨rfl, rfl⟩
      go_wp2_with fail
      go_ret
      exact ⟨by simp, (HCW7.out.mono (G := fun k => w.heap.size ≤ k) (fun _ _ x => x.elim)).below (Nat.le_refl _)⟩

set_option maxRecDepth 100000 in
theorem lifted (os : Os) (started : os.Started) (H : Type) (enc : TypeId × Value → H) :
    ReturnsInHanded {} Try.checked os 3 .any (Rows.vcasVersionsSpec.pre6 enc Try.prog Try.f3 Rows.vcasVersionsRow.domain false) (Rows.vcasVersionsSpec.post enc Try.prog Try.f3 false true false false) := by
  refine returnsInHanded_of_change_sized (C := Try.checked) own started (by kernel_rfl) Try.func3
    (ChangeSpec.witness6 (enc := enc) (C := Try.checked) false ⟨#[], #[.slice none 0 0, .int .u64 0], []⟩ 8 (by kernel_rfl) (by kernel_rfl) (by kernel_rfl) (by kernel_rfl)) ?_
  intro W base args ds gs before hval0 hW hcnd hsz0 _
  have hval : ∀ (j : Nat) t v, Try.f3.params[j]? = some t → args[j]? = some v → Value.okWide Try.prog W .any base t v := hval0
  have hsz : (DataW.weightsEach Try.prog (Try.f3.params.toList ++ Rows.vcasVersionsSpec.plain.varTypes Try.prog) (ds ++ gs)).all (· ≤ reachBytes) = true := hsz0
  clear hsz0
  have hW' := hW
  obtain ⟨p, q, hA0, hV, rfl, hfz, hnd⟩ := hW
  have hA : DataW.TrodAll enc Try.prog W 0 (fun _ => true) true Try.f3.params.toList args.toList ds p := hA0
  rw [Try.params3] at hA hval hsz
  obtain ⟨v0, vs0, d0, ds0, p0, q0, hargs, rfl, rfl, h0, r0⟩ := trodAll_cons hA
  obtain ⟨v1, vs1, d1, ds1, p1, q1, rfl, rfl, rfl, h1, r1⟩ := trodAll_cons r0
  obtain ⟨rfl, rfl, rfl⟩ := trodAll_nil r1
  obtain rfl : args = #[v0, v1] := by cases args; simp_all
  obtain ⟨rfl, rfl⟩ := trodVars_none hV
  have k0 := h0
  have lt0 : ∀ x ∈ p0, x.block < W.heap.size := by obtain ⟨m, hm⟩ := k0; exact DataW.trod_lt m _ _ _ hm
  have k1 := h1
  have lt1 : ∀ x ∈ p1, x.block < W.heap.size := by obtain ⟨m, hm⟩ := k1; exact DataW.trod_lt m _ _ _ hm
  obtain ⟨p, n, c, rfl⟩ := okWide_slice Try.underlying22 (hval 0 22 v0 rfl rfl)
  obtain ⟨l, hl, hP⟩ := u64s_at h0
  subst hl
  obtain ⟨a1, rfl, rfl, rfl, w1⟩ := open_int Try.underlying23 (hval 1 23 v1 rfl rfl) h1
  obtain ⟨obj, rfl, ho⟩ : ∃ m : Nat, a1 = (m : Int) ∧ m < 18446744073709551616 := by have b := bounds_u64 w1; exact ⟨a1.toNat, by omega, by omega⟩
  clear hA0 hval0
  refine (walk p c l obj W hP ho).mono fun e W' ⟨he, bel⟩ => ?_
  subst he
  exact ⟨_, rfl, _, _, _, [], _, [], hW', trodAll_mk1 (shut_bool Try.underlying4 _), (trodAll_cons_mk (Below.trod laidOut (by kernel_rfl) (of_decide_eq_true (by kernel_rfl)) k0 bel lt0) (trodAll_cons_mk (Below.trod laidOut (by kernel_rfl) (of_decide_eq_true (by kernel_rfl)) k1 bel lt1) trodAll_mk0)), rfl, bel.frame _, fun h => by cases h⟩

theorem over : Rows.vcasVersionsRow.holds Try.pinned (OpenSpec.ofChange Rows.vcasVersionsSpec) :=
  OpenClaim.holds_of_wide 3 Try.f3 rfl rfl rfl rfl rfl rfl rfl ⟨rfl, rfl, rfl, rfl, rfl⟩ rfl rfl rfl rfl rfl (by kernel_rfl) Try.func3 (by kernel_rfl)
    (of_decide_eq_true (by kernel_rfl)) (by unfold Func.isWrapper; first | (rw [if_pos (by decide +kernel)]; kernel_rfl) | (rw [if_neg (by decide +kernel)]; exact ⟨rfl, rfl⟩))
    (fun os started H enc _ => lifted os started H enc)
end Go.Proofs.Ytmhflmjhphhppaa.vcasVersions
namespace Go.Proofs.Ytmhflmjhphhppaa
theorem vcasVersions_holds : Rows.VcasVersionsSaid := vcasVersions.over
end Go.Proofs.Ytmhflmjhphhppaa
